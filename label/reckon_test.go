package label_test

import (
	"math"
	"slices"

	"oubliette/api"
)

// kind is what the chapter says of a type, in words and not in bits.
type kind struct {
	t            int
	name         string
	wide, secret bool
}

func kinds() []kind {
	return []kind{
		{api.I32, "I32", false, false},
		{api.I64, "I64", true, false},
		{api.S32, "S32", false, true},
		{api.S64, "S64", true, true},
	}
}

func types() []int { return []int{api.I32, api.I64, api.S32, api.S64} }

// kindOf looks a number up among the types, and tells whether it is one.
func kindOf(t int) (kind, bool) {
	for _, k := range kinds() {
		if k.t == t {
			return k, true
		}
	}
	return kind{}, false
}

// noTypes are numbers that are no type: around the types, at the ends of all numbers, and such whose low bits are those of a type.
func noTypes() []int {
	out := []int{math.MinInt, math.MaxInt, math.MinInt32, math.MaxInt32, math.MaxUint32, 0x7f, 0x80, 0xff}
	for n := -20; n < 40; n++ {
		if n < api.I32 || n > api.S64 {
			out = append(out, n)
		}
	}
	for bit := 2; bit < 64; bit++ {
		for t := range 4 {
			out = append(out, 1<<bit|t, ^(1<<bit)&^3|t, -1<<bit|t, (1<<bit-1)&^3|4|t)
		}
	}
	slices.Sort(out)
	return slices.Compact(out)
}

// numbers are the types and what is none.
func numbers() []int { return append(types(), noTypes()...) }

// flows is the chapter's sentence on Flows, word by word.
func flows(from, to int) bool {
	f, ok := kindOf(from)
	g, also := kindOf(to)
	return ok && also && f.wide == g.wide && (!f.secret || g.secret)
}

// join looks among the types for one to which both flow and that is public, if both are.
func join(a, b int) (int, bool) {
	x, _ := kindOf(a)
	y, _ := kindOf(b)
	for _, k := range kinds() {
		if flows(a, k.t) && flows(b, k.t) && k.secret == (x.secret || y.secret) {
			return k.t, true
		}
	}
	return 0, false
}

// all asks of each place, of those that only one list has too.
func all(from, to []int) bool {
	fine := true
	for i := range max(len(from), len(to)) {
		fine = fine && i < len(from) && i < len(to) && flows(from[i], to[i])
	}
	return fine
}
