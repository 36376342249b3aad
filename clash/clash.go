// Package clash tells of all cells of a code at once which ones may not be kept in one place: see P16.3 in shared/doc/16-live.md.
package clash

import (
	"oubliette/api"
	"oubliette/rir"
)

// Sets: of each cell of c the set of those with which it clashes. c is a code that fits, ahead and after are what live tells of it.
func Sets(c api.Code, ahead, after []int) []int {
	sets := make([]int, c.Cells)
	for at, x := range c.Body {
		if n := rir.Defs(x); n >= 0 {
			sets[n] |= after[at]
		}
	}
	if len(ahead) > 0 {
		addGiven(sets[:c.Params], ahead[0])
	}
	makeMutual(sets)
	return sets
}

// addGiven adds that each parameter that is needed from the beginning on clashes with all the others, that are handed in, too.
func addGiven(params []int, needed int) {
	for n := range params {
		if has(needed, n) {
			params[n] |= 1<<len(params) - 1
		}
	}
}

// makeMutual: what is said of two cells is said of both, and no cell clashes with itself.
func makeMutual(sets []int) {
	for a := range sets {
		sets[a] &^= 1 << a
		for b := range a {
			if has(sets[a], b) || has(sets[b], a) {
				sets[a] |= 1 << b
				sets[b] |= 1 << a
			}
		}
	}
}

// has: whether the cell n is in a set.
func has(set, n int) bool { return set>>n&1 == 1 }
