// Package leb is layer 1: see shared/doc/01-leb.md.
package leb

import (
	"oubliette/api"
)

// maxU and maxS are how many bytes the longest numbers have, seven bits a byte: 63 bits without a sign, 64 with one.
const (
	maxU = 9
	maxS = 10
)

// more is what each byte but the last one has beside its seven bits.
const more = 128

// U is n, not below 0, in as few bytes as it needs.
func U(n int) (string, api.Errno) {
	if n < 0 {
		return "", api.ErrArg
	}
	return write(n, sizeU(n)), api.OK
}

// S is n, whatever its sign, in as few bytes as it needs.
func S(n int) string {
	return write(n, Size(n))
}

// TakeU reads a number that U wrote, of at most so many bits.
func TakeU(b string, bits int) (n int, rest string, e api.Errno) {
	if bits < 1 || bits > 63 {
		return 0, "", api.ErrArg
	}
	size := span(b)
	v := join(b[:size])
	// Only a number's own shortest form is a form of it: writing it again refuses all else, bits that join lost too.
	if own, err := U(v); err != api.OK || own != b[:size] || v>>bits != 0 {
		return 0, "", api.ErrForm
	}
	return v, b[size:], api.OK
}

// TakeS reads a number that S wrote, of at most so many bits, its sign's among them.
func TakeS(b string, bits int) (n int, rest string, e api.Errno) {
	if bits < 1 || bits > 64 {
		return 0, "", api.ErrArg
	}
	size := span(b)
	v := spread(join(b[:size]), size)
	if S(v) != b[:size] || !signAlone(v>>(bits-1)) {
		return 0, "", api.ErrForm
	}
	return v, b[size:], api.OK
}

// Size is how many bytes S(n) has.
func Size(n int) int {
	for i := range maxS - 1 {
		// Bit 6 of the last byte stands for all above it, so it counts among these.
		if signAlone(n >> (7*i + 6)) {
			return i + 1
		}
	}
	return maxS
}

// sizeU is how many bytes U(n) has; n is not below 0.
func sizeU(n int) int {
	for i := range maxU - 1 {
		if n>>(7*i+7) == 0 {
			return i + 1
		}
	}
	return maxU
}

// signAlone: are all bits of n the same, so that they tell no more than a sign?
func signAlone(n int) bool {
	return n == 0 || n == -1
}

// write lays n's lowest bits into size bytes, at least one; the bits above are lost.
func write(n, size int) string {
	out := make([]byte, size)
	for i := range size {
		out[i] = byte(n>>(7*i))&(more-1) | more
	}
	out[size-1] -= more
	return string(out)
}

// span is how many bytes the number has that b begins with; 0, if it does not end where a number of 64 bits must.
func span(b string) int {
	for i := range min(len(b), maxS) {
		if b[i] < more {
			return i + 1
		}
	}
	return 0
}

// join puts the bytes' seven bits together; those above bit 63 are lost.
func join(b string) int {
	n := 0
	for i := range len(b) {
		n |= int(b[i]&(more-1)) << (7 * i)
	}
	return n
}

// spread copies the uppermost bit that size bytes have over all bits above.
func spread(n, size int) int {
	if size > 0 && n>>(7*size-1)&1 == 1 {
		return n | -1<<(7*size)
	}
	return n
}
