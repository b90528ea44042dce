// Package wire encodes values as bytes (layer 1, shared/doc/01-wire.md).
//
// Every value has exactly one encoding, and the decoding functions accept nothing else.
package wire

import (
	"math"

	"scoria/api"
)

// zeroHead is the first byte of the encoding of 0; that of a positive integer is larger by the number of its digits.
const zeroHead = 128

// maxDigits is the largest number of bytes of an integer, without the first byte of its encoding.
const maxDigits = 8

// Int returns the encoding of an integer.
func Int(n int) []byte {
	return appendInt(nil, n)
}

// appendInt appends the encoding of n. That of a negative integer is the encoding of -1 - n with all bits flipped: so it comes before those of the others, and the one with the larger -1 - n comes first.
func appendInt(out []byte, n int) []byte {
	m, mask := uint64(n), byte(0)
	if n < 0 {
		m, mask = uint64(-1-n), 0xff
	}
	var digits [maxDigits]byte
	first := maxDigits
produce:
	for {
		switch m {
		case 0:
			// One digit more would be a leading zero, and so a second encoding of the same integer.
			break produce
		default:
			first--
			digits[first] = byte(m) ^ mask
			m >>= 8
		}
	}
	out = append(out, byte(zeroHead+maxDigits-first)^mask)
	return append(out, digits[first:]...)
}

// GetInt decodes an integer at the beginning of a byte sequence.
func GetInt(b []byte) (int, int, api.Errno) {
	if len(b) == 0 {
		return 0, 0, api.ErrMore
	}
	mask := byte(0)
	if b[0] < zeroHead {
		mask = 0xff
	}
	k := int(b[0]^mask) - zeroHead
	if k > maxDigits {
		return 0, 0, api.ErrForm
	}
	digits := b[1:]
	if len(digits) < k {
		return 0, 0, api.ErrMore
	}
	if k > 0 && digits[0] == mask {
		// A leading zero: fewer bytes would do.
		return 0, 0, api.ErrForm
	}
	m := uint64(0)
	for _, d := range digits[:k] {
		m = m<<8 | uint64(d^mask)
	}
	if m > math.MaxInt64 {
		return 0, 0, api.ErrForm
	}
	if mask != 0 {
		return -1 - int(m), 1 + k, api.OK
	}
	return int(m), 1 + k, api.OK
}

// getLength decodes the number of things that follow, each of which has at least the given number of bytes. It refuses a number that the bytes cannot hold before anybody reserves memory for it.
func getLength(b []byte, least int) (int, int, api.Errno) {
	n, used, e := GetInt(b)
	if e != api.OK {
		return 0, 0, e
	}
	if n < 0 {
		return 0, 0, api.ErrForm
	}
	if n > (len(b)-used)/least {
		return 0, 0, api.ErrMore
	}
	return n, used, api.OK
}

// getElements decodes the number of elements of a list, and then calls get with the bytes from each element on; get returns how many of them the element takes. It returns the number of bytes of the whole list.
func getElements(b []byte, least int, get func(rest []byte) (int, api.Errno)) (int, api.Errno) {
	n, used, e := getLength(b, least)
	if e != api.OK {
		return 0, e
	}
	for range n {
		more, e := get(b[used:])
		if e != api.OK {
			return 0, e
		}
		used += more
	}
	return used, api.OK
}

// Bytes returns the encoding of a byte string.
func Bytes(s string) []byte {
	return appendBytes(nil, s)
}

func appendBytes(out []byte, s string) []byte {
	return append(appendInt(out, len(s)), s...)
}

// GetBytes decodes a byte string at the beginning of a byte sequence.
func GetBytes(b []byte) (string, int, api.Errno) {
	n, used, e := getLength(b, 1)
	if e != api.OK {
		return "", 0, e
	}
	return string(b[used : used+n]), used + n, api.OK
}

// Ints returns the encoding of a list of integers.
func Ints(l []int) []byte {
	out := appendInt(nil, len(l))
	for _, n := range l {
		out = appendInt(out, n)
	}
	return out
}

// GetInts decodes a list of integers at the beginning of a byte sequence.
func GetInts(b []byte) ([]int, int, api.Errno) {
	var l []int
	used, e := getElements(b, 1, func(rest []byte) (int, api.Errno) {
		n, used, e := GetInt(rest)
		l = append(l, n)
		return used, e
	})
	if e != api.OK {
		return nil, 0, e
	}
	return l, used, api.OK
}

// Strings returns the encoding of a list of byte strings.
func Strings(l []string) []byte {
	out := appendInt(nil, len(l))
	for _, s := range l {
		out = appendBytes(out, s)
	}
	return out
}

// GetStrings decodes a list of byte strings at the beginning of a byte sequence.
func GetStrings(b []byte) ([]string, int, api.Errno) {
	var l []string
	used, e := getElements(b, 1, func(rest []byte) (int, api.Errno) {
		s, used, e := GetBytes(rest)
		l = append(l, s)
		return used, e
	})
	if e != api.OK {
		return nil, 0, e
	}
	return l, used, api.OK
}

// Digests returns the encoding of a list of digests.
func Digests(l []api.Digest) []byte {
	out := appendInt(nil, len(l))
	for _, d := range l {
		out = append(out, d[:]...)
	}
	return out
}

// GetDigests decodes a list of digests at the beginning of a byte sequence.
func GetDigests(b []byte) ([]api.Digest, int, api.Errno) {
	var l []api.Digest
	used, e := getElements(b, api.DigestSize, func(rest []byte) (int, api.Errno) {
		var d api.Digest
		used := copy(d[:], rest)
		l = append(l, d)
		return used, api.OK
	})
	if e != api.OK {
		return nil, 0, e
	}
	return l, used, api.OK
}
