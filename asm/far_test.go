package asm

import (
	"math"
	"testing"

	"oubliette/api"
)

// holdFar holds a jump to a label that stands so many bytes behind it. So many items as that needs do not fit here: their places are made up, and the items that would stand between are left out.
func holdFar(t *testing.T, x api.X, long, n int, want string, err api.Errno) {
	t.Helper()
	behind := 1<<41 + long
	l := []api.Item{{X: api.X{Op: api.XRet}}, {Label: 7}, {X: x, To: 7}, {X: api.X{Op: api.XHlt}}}
	places := []int{0, behind + n, behind - long, behind, behind + 1}
	if b, e := assembleAt(l, places); b != want || e != err {
		t.Errorf("%+v to %d behind it = %x, %d; want %x, %d", x, n, b, e, want, err)
	}
}

func TestJumpsAreOf32Bits(t *testing.T) {
	for first, x := range map[string]api.X{
		"\xe9":     {Op: api.XJmp},
		"\xe8":     {Op: api.XCall},
		"\x0f\x8f": {Op: api.XJcc, C: api.CG},
	} {
		long := len(first) + 4
		for n, bytes := range map[int]string{
			0:                 "\x00\x00\x00\x00",
			math.MaxInt32 - 1: "\xfe\xff\xff\x7f",
			math.MaxInt32:     "\xff\xff\xff\x7f",
			math.MinInt32:     "\x00\x00\x00\x80",
			math.MinInt32 + 1: "\x01\x00\x00\x80",
		} {
			holdFar(t, x, long, n, "\xc3"+first+bytes+"\xf4", api.OK)
		}
		for _, n := range []int{math.MaxInt32 + 1, math.MaxUint32, 1 << 32, 1<<32 + 1, 1 << 40, math.MinInt32 - 1, -1 << 32, -1<<32 - 1, -1 << 40} {
			holdFar(t, x, long, n, "", api.ErrArg)
		}
	}
}
