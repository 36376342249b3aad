package alloc

import (
	"iter"
	"math/bits"

	"oubliette/api"
	"oubliette/rir"
)

// crossing is the set of those that Crosses tells, of a code that fits.
func crossing(body []api.Ir, after []int) (set int) {
	for at, x := range body {
		if x.Op == api.IrCall {
			set |= after[at] &^ written(x)
		}
	}
	return set
}

// named is the set of those that Named tells, of a code that fits.
func named(c api.Code) int {
	set := 1<<c.Params - 1
	for _, x := range c.Body {
		set |= written(x)
		for _, n := range rir.Uses(x) {
			set |= 1 << n
		}
	}
	return set
}

// written is the set of what x writes: one cell, or none.
func written(x api.Ir) int {
	if n := rir.Defs(x); n >= 0 {
		return 1 << n
	}
	return 0
}

// cells goes through those of a set, from the least on.
func cells(set int) iter.Seq[int] {
	return func(yield func(n int) bool) {
		for rest := uint64(set); rest != 0; rest &= rest - 1 {
			if !yield(bits.TrailingZeros64(rest)) {
				return
			}
		}
	}
}

// has: whether the cell n is in a set.
func has(set, n int) bool { return set>>n&1 == 1 }
