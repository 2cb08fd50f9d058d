package key_test

import (
	"fmt"
	"testing"

	"headend/api"
	"headend/key"
)

// G1, G3: no argument makes a function panic, and with a fault the results are zero.
func TestAnyNumbers(t *testing.T) {
	for _, a := range numbers {
		for _, b := range numbers {
			what := fmt.Sprint(" ", a, " ", b)
			anyPattern(t, what, a, b)
			anyRotation(t, what, a, b)
			anyLicence(t, what, a, b)
			anyLease(t, what, a, b)
		}
	}
}

func anyPattern(t *testing.T, what string, a, b int) {
	for _, s := range []api.Scheme{counterScheme, chainScheme(0, 0), chainScheme(a, b), {Mode: a}, {Mode: api.ModeCounter, Crypt: b}} {
		for _, l := range [][]api.Sub{nil, subs(a, b), subs(1, 2, a, b), subs(a, 0, 0, b)} {
			for _, size := range []int{a, b, 3} {
				touched, f := key.Touched(s, size, l)
				isWhole(t, "Touched"+what, touched, f)
			}
			coded, f := key.Protect(s, someKey, someIv, counting(16), l)
			isWhole(t, "Protect"+what, coded, f)
			coded, f = key.Open(s, someKey, someIv, counting(16), l)
			isWhole(t, "Open"+what, coded, f)
		}
	}
	l, f := key.Units([]int{a, b, a}, b)
	isWhole(t, "Units"+what, l, f)
	l, f = key.Units([]int{5, a}, b)
	isWhole(t, "Units"+what, l, f)
	for _, l := range [][]api.Sub{subs(a, b), subs(a, 0, b, 0), subs(0, a, 0, b)} {
		fewer, f := key.Fewer(l)
		isWhole(t, "Fewer"+what, fewer, f)
	}
	coded, f := key.Counter(someKey, someIv, counting(9), a)
	isWhole(t, "Counter"+what, coded, f)
}

func anyRotation(t *testing.T, what string, a, b int) {
	for _, r := range []api.Rotation{turning(a, b, 0), turning(0, a, b), turning(b, 1, a), turning(a, api.MaxTime, b)} {
		key.CheckRotation(r)
		for _, n := range []int{a, b, api.MaxTime} {
			period, f := key.PeriodAt(r, n)
			isWhole(t, "PeriodAt"+what, period, f)
			id, f := key.KeyId(r, n)
			isWhole(t, "KeyId"+what, id, f)
			k, f := key.KeyOf(r, nil, n)
			isWhole(t, "KeyOf"+what, k, f)
			needed, f := key.Needed(r, api.Span{From: n, To: a})
			isWhole(t, "Needed"+what, needed, f)
			needed, f = key.Needed(r, api.Span{From: 0, To: n})
			isWhole(t, "Needed"+what, needed, f)
		}
	}
}

func anyLicence(t *testing.T, what string, a, b int) {
	l := []api.Licence{licence("a", 0, api.MaxTime, 0), licence("b", a, b, a), licence("c", 0, b, b)}
	for n := range l {
		l[n].Outputs[0].Height = api.MaxHeight
		mayAndUntil(t, playing{l[:n+1], "ann", 0, seen(a, b)})
		mayAndUntil(t, playing{l[n : n+1], "ann", 0, seen(a, -1)})
		mayAndUntil(t, playing{l[n:], "ann", a, api.Play{Time: b, First: b, Output: "tv", Height: a}})
	}
	periods := licence("a", 0, api.MaxTime, api.MaxTime)
	periods.Periods = api.Span{From: a, To: b}
	mayAndUntil(t, playing{[]api.Licence{periods}, "ann", a, seen(api.MaxTime, b)})
	n, f := key.Until(l[:1], "ann", 0, seen(5, -1))
	is(t, "Until"+what, n, f, api.MaxTime)
}

func anyLease(t *testing.T, what string, a, b int) {
	for _, seats := range [][]api.Seats{nil, ann(a, b), ann(1, a), ann(b, 1)} {
		for _, asks := range [][]api.Ask{nil, {play(a, "a")}, {play(a, "a"), keep(b, "a"), stop(b, "a")}, {play(0, "a"), ask(a, "a", b)}} {
			l, f := key.Lease(seats, asks)
			isWhole(t, "Lease"+what, l, f)
			if f == api.OK && len(l) != len(asks) {
				t.Error("Lease"+what, len(l))
			}
			n, f := key.Watching(seats, asks, "ann", a)
			isWhole(t, "Watching"+what, n, f)
		}
	}
}

// withBytesKept expects that a function of bytes does not change them, nor what lies behind them, and that its result is new memory.
func withBytesKept(t *testing.T, what string, call func(b []byte) ([]byte, api.Fault)) {
	t.Helper()
	for _, n := range []int{8, 16, 20} {
		b := counting(n)
		want, fault := call(b)
		if fault != api.OK {
			continue // of another form
		}
		kept(t, what, b, func(b []byte) api.Fault {
			got, f := call(b)
			is(t, what, got, f, want)
			clear(got[:cap(got)])
			return f
		})
	}
}

// G2: arguments are not changed, nor what lies behind them, and results are new memory.
func TestMemoryOfBytes(t *testing.T) {
	text := counting(20)
	s := chainScheme(1, 1)
	for what, call := range map[string]func(b []byte) ([]byte, api.Fault){
		"the key of EncryptBlock":   func(b []byte) ([]byte, api.Fault) { return key.EncryptBlock(b, someIv) },
		"the block of EncryptBlock": func(b []byte) ([]byte, api.Fault) { return key.EncryptBlock(someKey, b) },
		"the key of DecryptBlock":   func(b []byte) ([]byte, api.Fault) { return key.DecryptBlock(b, someIv) },
		"the block of DecryptBlock": func(b []byte) ([]byte, api.Fault) { return key.DecryptBlock(someKey, b) },
		"the key of Counter":        func(b []byte) ([]byte, api.Fault) { return key.Counter(b, someIv, text, 1) },
		"the iv of Counter":         func(b []byte) ([]byte, api.Fault) { return key.Counter(someKey, b, text, 1) },
		"the bytes of Counter":      func(b []byte) ([]byte, api.Fault) { return key.Counter(someKey, someIv, b, 1) },
		"the iv of Chain":           func(b []byte) ([]byte, api.Fault) { return key.Chain(someKey, b, text) },
		"the bytes of Chain":        func(b []byte) ([]byte, api.Fault) { return key.Chain(someKey, someIv, b) },
		"the iv of Unchain":         func(b []byte) ([]byte, api.Fault) { return key.Unchain(someKey, b, text) },
		"the bytes of Unchain":      func(b []byte) ([]byte, api.Fault) { return key.Unchain(someKey, someIv, b) },
		"the bytes of Digest":       func(b []byte) ([]byte, api.Fault) { return key.Digest(b), api.OK },
		"the key of Protect":        func(b []byte) ([]byte, api.Fault) { return key.Protect(s, b, someIv, text, nil) },
		"the iv of Protect":         func(b []byte) ([]byte, api.Fault) { return key.Protect(s, someKey, b, text, nil) },
		"the bytes of Protect":      func(b []byte) ([]byte, api.Fault) { return key.Protect(s, someKey, someIv, b, nil) },
		"all bytes of Protect":      func(b []byte) ([]byte, api.Fault) { return key.Protect(counterScheme, someKey, someIv, b, nil) },
		"the iv of Open":            func(b []byte) ([]byte, api.Fault) { return key.Open(s, someKey, b, text, nil) },
		"the bytes of Open":         func(b []byte) ([]byte, api.Fault) { return key.Open(s, someKey, someIv, b, nil) },
		"all bytes of Open":         func(b []byte) ([]byte, api.Fault) { return key.Open(counterScheme, someKey, someIv, b, nil) },
		"the secret of KeyOf":       func(b []byte) ([]byte, api.Fault) { return key.KeyOf(turning(0, 1, 0), b, 5) },
		"the Seed of KeyId":         func(b []byte) ([]byte, api.Fault) { return key.KeyId(api.Rotation{Every: 1, Seed: b}, 5) },
		"the Seed of KeyOf":         func(b []byte) ([]byte, api.Fault) { return key.KeyOf(api.Rotation{Every: 1, Seed: b}, text, 5) },
	} {
		withBytesKept(t, what, call)
	}
}

func TestMemoryOfLists(t *testing.T) {
	l := subs(1, 0, 3, 16, 0, 8, 2, 0)
	b := counting(30)
	kept(t, "Touched", l, func(l []api.Sub) api.Fault {
		touched, f := key.Touched(chainScheme(1, 1), 30, l)
		clear(touched[:cap(touched)])
		return f
	})
	kept(t, "Protect", l, func(l []api.Sub) api.Fault { _, f := key.Protect(chainScheme(1, 1), someKey, someIv, b, l); return f })
	kept(t, "Open", l, func(l []api.Sub) api.Fault { _, f := key.Open(counterScheme, someKey, someIv, b, l); return f })
	kept(t, "Fewer", l, func(l []api.Sub) api.Fault {
		fewer, f := key.Fewer(l)
		clear(fewer[:cap(fewer)])
		return f
	})
	kept(t, "Units", []int{20, 5, 9}, func(l []int) api.Fault { _, f := key.Units(l, 3); return f })
	licences := []api.Licence{licence("a", 10, 20, 0), licence("b", 20, 30, 5)}
	kept(t, "May", licences, func(l []api.Licence) api.Fault { return mayAndUntil(t, playing{l, "ann", 0, seen(15, -1)}) })
	kept(t, "the Outputs of May", licences[0].Outputs, func(o []api.Output) api.Fault {
		l := licence("a", 10, 20, 0)
		l.Outputs = o
		return mayAndUntil(t, playing{[]api.Licence{l}, "ann", 0, seen(15, -1)})
	})
	kept(t, "CheckSeats", ann(1, 10), key.CheckSeats)
	a := someAsking()
	kept(t, "Lease", a.asks, func(asks []api.Ask) api.Fault {
		return max(callLease(t, asking{seats: a.seats, asks: asks}), callWatching(t, asking{a.seats, asks, "ann", 5}))
	})
	kept(t, "Lease", a.seats, func(seats []api.Seats) api.Fault {
		return max(callLease(t, asking{seats: seats, asks: a.asks}), callWatching(t, asking{seats, a.asks, "ann", 5}))
	})
}

// G2, G4: results share nothing with what later calls return, which answer as the first ones.
func TestNewResults(t *testing.T) {
	a := someAsking()
	for range 2 {
		digest := key.Digest([]byte("abc"))
		is(t, "Digest", digest, api.OK, unhex("65306f7aa6af609156b583f0c263fcd4"))
		clear(digest[:cap(digest)])
		needed, f := key.Needed(turning(0, 10, 3), api.Span{From: 5, To: 18})
		is(t, "Needed", needed, f, []int{0, 1, 2})
		clear(needed[:cap(needed)])
		l, f := key.Units([]int{20, 5}, 3)
		is(t, "Units", l, f, subs(4, 16, 5, 0))
		clear(l[:cap(l)])
		leases, f := key.Lease(a.seats, a.asks)
		is(t, "Lease", leases, f, []api.Lease{given(13), refused(api.ErrFull), given(9)})
		clear(leases[:cap(leases)])
	}
}

// G4: an empty list is as good as nil.
func TestEmptyLists(t *testing.T) {
	is(t, "Digest", key.Digest([]byte{}), api.OK, key.Digest(nil))
	none := []byte{}
	for name, call := range map[string]func(b []byte) ([]byte, api.Fault){
		"Counter": func(b []byte) ([]byte, api.Fault) { return key.Counter(someKey, someIv, b, 5) },
		"Chain":   func(b []byte) ([]byte, api.Fault) { return key.Chain(someKey, someIv, b) },
		"Unchain": func(b []byte) ([]byte, api.Fault) { return key.Unchain(someKey, someIv, b) },
		"Protect": func(b []byte) ([]byte, api.Fault) {
			return key.Protect(counterScheme, someKey, someIv, b, []api.Sub{})
		},
		"Open": func(b []byte) ([]byte, api.Fault) {
			return key.Open(chainScheme(0, 0), someKey, someIv, b, []api.Sub{})
		},
	} {
		b, f := call(none)
		is(t, name, b, f, none)
		b, f = call(nil)
		is(t, name, b, f, none)
	}
	b, f := key.Protect(counterScheme, someKey, someIv, counting(9), []api.Sub{})
	is(t, "Protect", b, f, streamed(someKey, someIv, counting(9), 0))
	touched, f := key.Touched(counterScheme, 9, []api.Sub{})
	is(t, "Touched", touched, f, spans(0, 9))
	l, f := key.Fewer([]api.Sub{})
	is(t, "Fewer", l, f, nil)
	l, f = key.Units([]int{}, 0)
	is(t, "Units", l, f, nil)
	id, f := key.KeyId(api.Rotation{Every: 1, Seed: []byte{}}, 3)
	is(t, "KeyId", id, f, digested([]byte{0, 0, 0, 0, 0, 0, 0, 3}))
	k, f := key.KeyOf(api.Rotation{Every: 1}, []byte{}, 3)
	is(t, "KeyOf", k, f, digested(id))
	isFault(t, "CheckLicences", key.CheckLicences([]api.Licence{}), api.OK)
	isFault(t, "CheckSeats", key.CheckSeats([]api.Seats{}), api.OK)
	leases, f := key.Lease([]api.Seats{}, []api.Ask{})
	is(t, "Lease", leases, f, nil)
	n, f := key.Watching([]api.Seats{}, []api.Ask{}, "ann", 0)
	is(t, "Watching", n, f, 0)
	noOutputs := licence("a", 1, 2, 0)
	noOutputs.Outputs = []api.Output{}
	isFault(t, "CheckLicences", key.CheckLicences([]api.Licence{noOutputs}), api.ErrNone)
}
