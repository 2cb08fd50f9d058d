package key

import (
	"slices"

	"headend/api"
	"headend/check"
	"headend/tick"
)

const maxPattern = 10 // blocks that are encrypted, or skipped, one after another

// CheckScheme validates a scheme.
func CheckScheme(s api.Scheme) api.Fault {
	return check.First(
		check.If(s.Mode != api.ModeCounter && s.Mode != api.ModeChain, api.ErrKind),
		check.If(s.Mode == api.ModeCounter && (s.Crypt != 0 || s.Skip != 0), api.ErrForm),
		check.If(!check.Within(s.Crypt, 0, maxPattern), api.ErrRange),
		check.If(!check.Within(s.Skip, 0, maxPattern), api.ErrRange),
		check.If(s.Crypt == 0 && s.Skip != 0, api.ErrForm),
	)
}

// touchedOf returns the spans of the bytes of a part that are encrypted.
func touchedOf(s api.Scheme, part api.Span) []api.Span {
	if s.Mode == api.ModeCounter {
		return []api.Span{part}
	}
	var l []api.Span
	crypt := max(s.Crypt, 1) // without Skip, any Crypt means all blocks
	blocks := (part.To - part.From) / blockBytes
	for number := range blocks {
		if number%(crypt+s.Skip) < crypt {
			from := part.From + number*blockBytes
			l = tick.AppendSpan(l, from, from+blockBytes)
		}
	}
	return l
}

// Touched returns the spans of the bytes that are encrypted.
func Touched(s api.Scheme, size int, l []api.Sub) ([]api.Span, api.Fault) {
	fault := check.First(
		CheckScheme(s),
		check.If(!isCoded(size), api.ErrRange),
		checkSubs(l, size),
	)
	if fault != api.OK {
		return nil, fault
	}
	var touched []api.Span
	for _, part := range partsOf(l, size) {
		for _, span := range touchedOf(s, part) {
			touched = tick.AppendSpan(touched, span.From, span.To)
		}
	}
	return touched, api.OK
}

// recode puts into their place what the bytes in some spans become, as if there were nothing between them.
func recode(b []byte, spans []api.Span, code coding) {
	var taken []byte
	for _, s := range spans {
		taken = append(taken, b[s.From:s.To]...)
	}
	rest := code(taken)
	for _, s := range spans {
		rest = rest[copy(b[s.From:s.To], rest):]
	}
}

// recoded returns bytes of which all parts are recoded: with ModeCounter all together, with ModeChain each one for itself.
func recoded(s api.Scheme, b []byte, l []api.Sub, counter, chain coding) []byte {
	changed := slices.Clone(b)
	parts := partsOf(l, len(b))
	if s.Mode == api.ModeCounter {
		recode(changed, parts, counter)
		return changed
	}
	for _, part := range parts {
		recode(changed, touchedOf(s, part), chain)
	}
	return changed
}

func checkProtected(s api.Scheme, key, iv, b []byte, l []api.Sub) api.Fault {
	return check.First(
		CheckScheme(s),
		checkCoded(key, iv, b),
		checkSubs(l, len(b)),
	)
}

// Protect encrypts bytes by a scheme.
func Protect(s api.Scheme, key, iv, b []byte, l []api.Sub) ([]byte, api.Fault) {
	if fault := checkProtected(s, key, iv, b, l); fault != api.OK {
		return nil, fault
	}
	c := cipherOf(key, iv)
	return recoded(s, b, l, c.counter(0), c.chain), api.OK
}

// Open decrypts what Protect has encrypted.
func Open(s api.Scheme, key, iv, b []byte, l []api.Sub) ([]byte, api.Fault) {
	if fault := checkProtected(s, key, iv, b, l); fault != api.OK {
		return nil, fault
	}
	c := cipherOf(key, iv)
	return recoded(s, b, l, c.counter(0), c.unchain), api.OK
}
