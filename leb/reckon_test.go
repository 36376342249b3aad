package leb_test

import (
	"math"
	"math/big"
	"slices"
	"testing"

	"oubliette/api"
	"oubliette/leb"
)

// numbers are those around 0, around each power of two, and some of many bits; each once.
func numbers() []int {
	var out []int
	for n := -20000; n <= 20000; n += 1 + max(n, -n)/300 {
		out = append(out, n)
	}
	for n := -300; n <= 300; n++ {
		out = append(out, n)
	}
	for k := range 63 {
		for d := -2; d <= 2; d++ {
			out = append(out, 1<<k+d, -1<<k+d)
		}
	}
	for n := range 500 {
		out = append(out, int(uint64(n+1)*0x9e3779b97f4a7c15)>>(n%64))
	}
	for d := range 3 {
		out = append(out, math.MinInt+d, math.MaxInt-d)
	}
	slices.Sort(out)
	return slices.Compact(out)
}

// edgeBytes are bytes at which something changes, with and without another one behind.
func edgeBytes() []byte {
	return []byte{0x00, 0x01, 0x02, 0x3f, 0x40, 0x41, 0x7e, 0x7f, 0x80, 0x81, 0xbf, 0xc0, 0xfe, 0xff}
}

// unsigned is U of a number that it takes.
func unsigned(n int) string {
	s, _ := leb.U(n)
	return s
}

// lengthened is the same number with one byte more.
func lengthened(s string, pad byte) string {
	last := s[len(s)-1]
	return s[:len(s)-1] + string([]byte{last | 0x80, pad})
}

// writtenU is what the chapter says of U, reckoned by divisions without bounds.
func writtenU(n *big.Int) string {
	var out []byte
	left, digit := new(big.Int).Set(n), new(big.Int)
	for {
		left.DivMod(left, big.NewInt(128), digit)
		out = append(out, byte(digit.Int64()))
		if left.Sign() == 0 {
			break
		}
	}
	for i := range len(out) - 1 {
		out[i] += 128
	}
	return string(out)
}

// writtenS is the first length whose range has n, filled with n's digits.
func writtenS(n *big.Int) string {
	size := 1
	for !within(n, 7*size) {
		size++
	}
	var out []byte
	left, digit := new(big.Int).Set(n), new(big.Int)
	for range size {
		left.DivMod(left, big.NewInt(128), digit)
		out = append(out, byte(digit.Int64())+128)
	}
	out[size-1] -= 128
	return string(out)
}

// within: is n a signed number of so many bits?
func within(n *big.Int, bits int) bool {
	half := new(big.Int).Lsh(big.NewInt(1), uint(bits-1))
	return n.Cmp(half) < 0 && n.Cmp(new(big.Int).Neg(half)) >= 0
}

// firstNumber is the number whose bytes b begins with, however long these are, as an unsigned one and as a signed one; nil, if it is cut off.
func firstNumber(b string) (plain, signed *big.Int, size int) {
	plain, weight := new(big.Int), big.NewInt(1)
	for i := range len(b) {
		digit := big.NewInt(int64(b[i] % 128))
		plain.Add(plain, digit.Mul(digit, weight))
		weight = new(big.Int).Lsh(weight, 7)
		if b[i] < 128 {
			signed = new(big.Int).Set(plain)
			if b[i] >= 64 {
				signed.Sub(signed, weight)
			}
			return plain, signed, i + 1
		}
	}
	return nil, nil, 0
}

// holdAtAllBits asks TakeU and TakeS of b at every count of bits that may be.
func holdAtAllBits(t *testing.T, b string) {
	t.Helper()
	plain, signed, size := firstNumber(b)
	ownU := plain != nil && writtenU(plain) == b[:size]
	ownS := signed != nil && writtenS(signed) == b[:size]
	for bits := 1; bits <= 64; bits++ {
		want := reading{b: b, bits: bits, e: api.ErrForm}
		if bits == 64 {
			want.e = api.ErrArg
		} else if ownU && plain.BitLen() <= bits {
			want = reading{b, bits, int(plain.Int64()), b[size:], api.OK}
		}
		want.hold(t, "TakeU", leb.TakeU)
		want = reading{b: b, bits: bits, e: api.ErrForm}
		if ownS && within(signed, bits) {
			want = reading{b, bits, int(signed.Int64()), b[size:], api.OK}
		}
		want.hold(t, "TakeS", leb.TakeS)
	}
}
