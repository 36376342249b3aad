package live_test

import (
	"slices"
	"strings"

	"oubliette/api"
)

// saying tells which fields of a kind are cells that it reads, and whether Dst is one that it writes.
func saying(kind int) (reads string, writes bool) {
	switch kind {
	case api.IrConst, api.IrGet, api.IrCall:
		return "", true
	case api.IrMove, api.IrLoad:
		return "A", true
	case api.IrOp:
		return "AB", true
	case api.IrSelect:
		return "ABC", true
	case api.IrStore:
		return "AB", false
	case api.IrSet, api.IrIf, api.IrUnless, api.IrArg, api.IrReturn:
		return "A", false
	}
	return "", false
}

// reads: whether x reads the cell k.
func reads(x api.Ir, k int) bool {
	fields, _ := saying(x.Op)
	return strings.Contains(fields, "A") && x.A == k || strings.Contains(fields, "B") && x.B == k || strings.Contains(fields, "C") && x.C == k
}

// writes: whether x writes the cell k.
func writes(x api.Ir, k int) bool {
	_, does := saying(x.Op)
	return does && x.Dst == k
}

// standing is how often a label stands in a body, and where first.
func standing(body []api.Ir, n int) (times, first int) {
	for at := len(body) - 1; at >= 0; at-- {
		if body[at].Op == api.IrLabel && body[at].N == n {
			times, first = times+1, at
		}
	}
	return times, first
}

// jumps: whether x goes to a label, and whether it may go on, too.
func jumps(x api.Ir) (to, on bool) {
	switch x.Op {
	case api.IrReturn, api.IrStop:
		return false, false
	case api.IrJump:
		return true, false
	case api.IrIf, api.IrUnless:
		return true, true
	}
	return false, true
}

// reckonedFits says of each thing that the chapter asks whether it is so.
func reckonedFits(c api.Code) bool {
	fits := c.Cells >= 0 && c.Cells <= 60 && c.Params >= 0 && c.Params <= c.Cells && len(c.Body) <= 1000
	for _, x := range c.Body {
		fields, does := saying(x.Op)
		var cells []int
		for i, n := range []int{x.A, x.B, x.C} {
			if strings.Contains(fields, "ABC"[i:i+1]) && (x.Op != api.IrReturn || n >= 0) {
				cells = append(cells, n)
			}
		}
		if does && (x.Op != api.IrCall || x.Dst != -1) {
			cells = append(cells, x.Dst)
		}
		for _, n := range cells {
			fits = fits && n >= 0 && n < c.Cells
		}
		if to, _ := jumps(x); to {
			times, _ := standing(c.Body, x.N)
			fits = fits && times == 1
		}
	}
	return fits
}

// reckonedNext asks each place whether it may come behind.
func reckonedNext(c api.Code, at int) (l []int) {
	if at < 0 || at >= len(c.Body) {
		return nil
	}
	x := c.Body[at]
	to, on := jumps(x)
	times, first := standing(c.Body, x.N)
	for place := range c.Body {
		if to && times > 0 && place == first || on && place-1 == at {
			l = append(l, place)
		}
	}
	return l
}

// reckoning has what is live in a code that fits: it goes ways forward, for each place and each cell anew.
type reckoning struct {
	c            api.Code
	nexts        [][]int
	ahead, after []int
}

func reckoned(c api.Code) *reckoning {
	r := &reckoning{c: c, nexts: make([][]int, len(c.Body)), ahead: make([]int, len(c.Body)), after: make([]int, len(c.Body))}
	for at := range c.Body {
		r.nexts[at] = reckonedNext(c, at)
	}
	for at := range c.Body {
		for k := range c.Cells {
			if r.isRead(k, at) {
				r.ahead[at] += 1 << k
			}
			if r.isRead(k, r.nexts[at]...) {
				r.after[at] += 1 << k
			}
		}
	}
	return r
}

// isRead: whether some way from one of those places on reads the cell k ahead of writing it.
func (r *reckoning) isRead(k int, from ...int) bool {
	been := make([]bool, len(r.c.Body))
	from = slices.Clone(from)
	for len(from) > 0 {
		at := from[len(from)-1]
		from = from[:len(from)-1]
		if been[at] {
			continue
		}
		been[at] = true
		if reads(r.c.Body[at], k) {
			return true
		}
		if !writes(r.c.Body[at], k) {
			from = append(from, r.nexts[at]...)
		}
	}
	return false
}

func has(set, k int) bool { return set>>k&1 == 1 }

// clash: whether the cells a and b, that are two, do.
func (r *reckoning) clash(a, b int) bool {
	for at, x := range r.c.Body {
		if writes(x, a) && has(r.after[at], b) || writes(x, b) && has(r.after[at], a) {
			return true
		}
	}
	bothGiven := a < r.c.Params && b < r.c.Params
	return bothGiven && len(r.c.Body) > 0 && (has(r.ahead[0], a) || has(r.ahead[0], b))
}
