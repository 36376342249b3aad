package nest_test

import (
	"cmp"
	"math/rand/v2"
	"slices"

	"oubliette/api"
	"oubliette/nest"
)

// reader reads a body by its grammar, each rule by a function of its own, so that nothing has to be held open by hand: a body is items and an End, an item is a block or anything else, a block is its beginning, items, of an If perhaps an Else and items, and an End.
type reader struct {
	l       []api.Instr
	at      int
	spans   []nest.Span
	level   int
	deepest int
}

func (r *reader) op() int {
	if r.at == len(r.l) {
		return -1 // ends what is read as if nothing could stand there
	}
	return r.l[r.at].Op
}

// items goes on to what can't be one, and tells whether all of them were whole.
func (r *reader) items() bool {
	for r.at < len(r.l) && r.op() != api.Else && r.op() != api.End {
		if slices.Contains(openers(), r.op()) {
			if !r.block() {
				return false
			}
			continue
		}
		r.at++
	}
	return true
}

func (r *reader) block() bool {
	number, s := len(r.spans), nest.Span{Begin: r.at, Else: -1}
	r.spans = append(r.spans, s)
	choice := r.op() == api.If
	r.level++
	r.deepest = max(r.deepest, r.level)
	r.at++
	if !r.items() {
		return false
	}
	if choice && r.op() == api.Else {
		s.Else = r.at
		r.at++
		if !r.items() {
			return false
		}
	}
	if r.op() != api.End {
		return false
	}
	s.End = r.at
	r.at++
	r.level--
	r.spans[number] = s
	return true
}

// spansOf is what the chapter asks of Spans.
func spansOf(l []api.Instr) ([]nest.Span, api.Errno) {
	r := reader{l: l}
	if !r.items() || r.op() != api.End || r.at != len(l)-1 {
		return nil, api.ErrInvalid
	}
	if r.deepest > 8 {
		return nil, api.ErrLimit
	}
	return append(r.spans, nest.Span{Begin: -1, Else: -1, End: r.at}), api.OK
}

// aroundOf are those of a body's spans that are open around a place, the shortest first: that is the innermost, since they lie within one another. The body's own is the last.
func aroundOf(spans []nest.Span, at int) []nest.Span {
	var out []nest.Span
	for _, s := range spans[:len(spans)-1] {
		if s.Begin < at && at < s.End && at != s.Else {
			out = append(out, s)
		}
	}
	slices.SortFunc(out, func(a, b nest.Span) int { return cmp.Compare(a.End-a.Begin, b.End-b.Begin) })
	return append(out, spans[len(spans)-1])
}

// targetOf is what the chapter asks of Target of a body that is nested.
func targetOf(l []api.Instr, spans []nest.Span, at, depth int) (place int, back bool, e api.Errno) {
	if at < 0 || at >= len(l) {
		return 0, false, api.ErrInvalid
	}
	around := aroundOf(spans, at)
	if depth < 0 || depth >= len(around) {
		return 0, false, api.ErrInvalid
	}
	s := around[depth]
	if s.Begin >= 0 && l[s.Begin].Op == api.Loop {
		return s.Begin, true, api.OK
	}
	return s.End, false, api.OK
}

func openers() []int { return []int{api.Block, api.Loop, api.If} }

// of is a body of such instructions.
func of(ops ...int) []api.Instr {
	out := make([]api.Instr, len(ops))
	for i, op := range ops {
		out[i].Op = op
	}
	return out
}

// chain is a body of blocks within one another, as many as told, of all sorts in turn.
func chain(n int) []api.Instr {
	var out []api.Instr
	for i := range n {
		out = append(out, api.Instr{Op: openers()[i%3]})
	}
	return append(out, slices.Repeat(of(api.End), n+1)...)
}

// everyBody goes through all bodies of at most so many instructions, of such as count and one that does not.
func everyBody(most int, see func(l []api.Instr)) {
	var grow func(l []api.Instr)
	grow = func(l []api.Instr) {
		see(l)
		if len(l) == most {
			return
		}
		for _, op := range []int{api.Nop, api.Block, api.Loop, api.If, api.Else, api.End} {
			grow(append(l[:len(l):len(l)], api.Instr{Op: op}))
		}
	}
	grow(nil)
}

// grown is a nested body by chance, the deeper the greater deep is; most are nested as deep as MaxNest allows, some deeper.
func grown(r *rand.Rand, deep int) []api.Instr {
	var items func(left int) []api.Instr
	items = func(left int) []api.Instr {
		var out []api.Instr
		for range 1 + r.IntN(3) {
			op := openers()[r.IntN(3)]
			if left == 0 || r.IntN(4) == 0 {
				out = append(out, api.Instr{Op: api.Br, N: r.IntN(9)})
				continue
			}
			out = append(out, api.Instr{Op: op, M: r.IntN(5)})
			out = append(out, items(left-1)...)
			if op == api.If && r.IntN(2) == 0 {
				out = append(out, api.Instr{Op: api.Else})
				out = append(out, items(left-1)...)
			}
			out = append(out, api.Instr{Op: api.End})
		}
		return out
	}
	return append(items(deep), api.Instr{Op: api.End})
}
