package octet

import "postern/api"

// Make is a set of bytes.
func Make(from, to byte, more ...byte) api.Bytes {
	var x api.Bytes
	// An int, as no byte gets past 255.
	for b := int(from); b <= int(to); b++ {
		x = plus(x, byte(b))
	}
	return plus(x, more...)
}

// Has tells whether a byte is in a set.
func Has(x api.Bytes, b byte) bool { return x[b/64]>>(b%64)&1 == 1 }

// Union is the bytes of all sets.
func Union(l ...api.Bytes) api.Bytes {
	var u api.Bytes
	for _, x := range l {
		for i, word := range x {
			u[i] |= word
		}
	}
	return u
}

// Cross is the bytes of both.
func Cross(a, b api.Bytes) api.Bytes {
	for i, word := range b {
		a[i] &= word
	}
	return a
}

// Minus is the bytes of the one and not of the other.
func Minus(a, b api.Bytes) api.Bytes {
	for i, word := range b {
		a[i] &^= word
	}
	return a
}

// Members is the bytes of a set, rising.
func Members(x api.Bytes) string {
	var l []byte
	for b := range 256 {
		if Has(x, byte(b)) {
			l = append(l, byte(b))
		}
	}
	return string(l)
}

// Find is the first place of a byte of a set; -1: there is none.
func Find(s string, x api.Bytes, from int) int {
	for i := max(from, 0); i < len(s); i++ {
		if Has(x, s[i]) {
			return i
		}
	}
	return -1
}

// All tells whether all bytes are in a set.
func All(s string, x api.Bytes) bool {
	for i := range len(s) {
		if !Has(x, s[i]) {
			return false
		}
	}
	return true
}

// plus is a set with bytes more.
func plus(x api.Bytes, more ...byte) api.Bytes {
	for _, b := range more {
		x[b/64] |= 1 << (b % 64)
	}
	return x
}
