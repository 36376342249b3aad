package check_test

import (
	"slices"
	"strings"

	"oubliette/api"
	"oubliette/word"
)

// saying tells which fields of a kind are cells that it reads, and whether Dst is one that it writes.
func saying(kind int) (reads string, writes bool) {
	switch kind {
	case api.IrConst, api.IrGet, api.IrCall:
		return "", true
	case api.IrMove, api.IrLoad:
		return "A", true
	case api.IrOp:
		return "AB", true
	case api.IrSelect:
		return "ABC", true
	case api.IrStore:
		return "AB", false
	case api.IrSet, api.IrIf, api.IrUnless, api.IrArg, api.IrReturn:
		return "A", false
	}
	return "", false
}

// reads: whether x reads the cell k.
func reads(x api.Ir, k int) bool {
	fields, _ := saying(x.Op)
	return strings.Contains(fields, "A") && x.A == k || strings.Contains(fields, "B") && x.B == k || strings.Contains(fields, "C") && x.C == k
}

// writes: whether x writes the cell k.
func writes(x api.Ir, k int) bool {
	_, does := saying(x.Op)
	return does && x.Dst == k
}

// standing is how often a label stands in a body, and where first.
func standing(body []api.Ir, n int) (times, first int) {
	for at := len(body) - 1; at >= 0; at-- {
		if body[at].Op == api.IrLabel && body[at].N == n {
			times, first = times+1, at
		}
	}
	return times, first
}

// reckonedFits says of each thing that chapter 16 asks whether it is so.
func reckonedFits(c api.Code) bool {
	fits := c.Cells >= 0 && c.Cells <= 60 && c.Params >= 0 && c.Params <= c.Cells && len(c.Body) <= 1000
	for _, x := range c.Body {
		fields, does := saying(x.Op)
		var cells []int
		for i, n := range []int{x.A, x.B, x.C} {
			if strings.Contains(fields, "ABC"[i:i+1]) && (x.Op != api.IrReturn || n >= 0) {
				cells = append(cells, n)
			}
		}
		if does && (x.Op != api.IrCall || x.Dst != -1) {
			cells = append(cells, x.Dst)
		}
		for _, n := range cells {
			fits = fits && n >= 0 && n < c.Cells
		}
		if x.Op == api.IrJump || x.Op == api.IrIf || x.Op == api.IrUnless {
			times, _ := standing(c.Body, x.N)
			fits = fits && times == 1
		}
	}
	return fits
}

// leads has the places that come behind the one at of a code that fits.
func leads(body []api.Ir, at int) (l []int) {
	x := body[at]
	switch x.Op {
	case api.IrReturn, api.IrStop:
		return nil
	case api.IrJump, api.IrIf, api.IrUnless:
		_, first := standing(body, x.N)
		l = append(l, first)
	}
	if x.Op != api.IrJump && at+1 < len(body) {
		l = append(l, at+1)
	}
	return l
}

// reckoning has what is live in a code that fits, cell by cell: the places whence a way reads it ahead of writing it.
type reckoning struct {
	c            api.Code
	ahead, after [][]bool // of each place, whether each cell is live there
}

func reckoned(c api.Code) *reckoning {
	r := &reckoning{c: c}
	var comes [][]int // whence one comes to each place
	for range c.Body {
		r.ahead, r.after = append(r.ahead, make([]bool, c.Cells)), append(r.after, make([]bool, c.Cells))
		comes = append(comes, nil)
	}
	for at := range c.Body {
		for _, to := range leads(c.Body, at) {
			comes[to] = append(comes[to], at)
		}
	}
	for k := range c.Cells {
		for at, x := range c.Body {
			if reads(x, k) {
				r.needs(k, at, comes)
			}
		}
	}
	return r
}

// needs goes back from a place that needs the cell k.
func (r *reckoning) needs(k, at int, comes [][]int) {
	from := []int{at}
	for len(from) > 0 {
		at := from[0]
		if from = from[1:]; r.ahead[at][k] {
			continue
		}
		r.ahead[at][k] = true
		for _, before := range comes[at] {
			if r.after[before][k] = true; !writes(r.c.Body[before], k) {
				from = append(from, before)
			}
		}
	}
}

// crosses: whether the cell k is needed behind a call that does not write it.
func (r *reckoning) crosses(k int) bool {
	for at, x := range r.c.Body {
		if x.Op == api.IrCall && x.Dst != k && r.after[at][k] {
			return true
		}
	}
	return false
}

// isNamed: whether the cell k is a parameter, or stands in an instruction.
func (r *reckoning) isNamed(k int) bool {
	return k < r.c.Params || slices.ContainsFunc(r.c.Body, func(x api.Ir) bool { return reads(x, k) || writes(x, k) })
}

// clash: whether the cells a and b, that are two, may not be in one place.
func (r *reckoning) clash(a, b int) bool {
	for at, x := range r.c.Body {
		if writes(x, a) && r.after[at][b] || writes(x, b) && r.after[at][a] {
			return true
		}
	}
	bothGiven := a < r.c.Params && b < r.c.Params
	return bothGiven && len(r.c.Body) > 0 && (r.ahead[0][a] || r.ahead[0][b])
}

// needed: whether the cell k is needed from the beginning on.
func (r *reckoning) needed(k int) bool { return len(r.c.Body) > 0 && r.ahead[0][k] }

// What places may be wrong by.
const (
	byForm = 1 << iota
	byCount
	byNumber
	byNoPlace
	byRegister
	byClash
	wrongs
)

// wrong has all that places of cells are wrong by: nothing, if they are right.
func wrong(c api.Code, l []int) (by int) {
	if !reckonedFits(c) {
		return byForm
	}
	if len(l) != c.Cells {
		return byCount
	}
	r := reckoned(c)
	for k, place := range l {
		if place < -1 || place > 65 {
			by |= byNumber
		}
		if place < 0 && r.isNamed(k) {
			by |= byNoPlace
		}
		if place < 6 && r.crosses(k) {
			by |= byRegister
		}
		for other := range k {
			if l[other] == place && r.clash(k, other) {
				by |= byClash
			}
		}
	}
	return by
}

// isPlain: whether x is one of those that can be carried out over cells alone.
func isPlain(x api.Ir) bool {
	switch x.Op {
	case api.IrOp:
		_, _, _, ok := word.Arity(x.N)
		return ok
	case api.IrConst, api.IrMove, api.IrSelect, api.IrLabel, api.IrJump, api.IrIf, api.IrUnless, api.IrReturn, api.IrStop:
		return true
	}
	return false
}

// mayExec: whether a code is carried out over those places, if so many parameters are handed in.
func mayExec(c api.Code, l []int, params int) bool {
	may := wrong(c, l) == 0 && params == c.Params
	for _, x := range c.Body {
		may = may && isPlain(x)
	}
	return may
}

// reckonedExec carries out a code that may be, whose cells are at those places.
func reckonedExec(c api.Code, l, params []int) (v, trap int) {
	var held [66]int
	for k := range held {
		held[k] = 77
	}
	for k, n := range params {
		held[l[k]] = n
	}
	for at, steps := 0, 0; at < len(c.Body); steps++ {
		if steps == 10000 {
			return 0, api.TrapRunning
		}
		x := c.Body[at]
		at++
		switch x.Op {
		case api.IrConst:
			held[l[x.Dst]] = x.N
		case api.IrMove:
			held[l[x.Dst]] = held[l[x.A]]
		case api.IrOp:
			v, trap := word.Eval(x.N, held[l[x.A]], held[l[x.B]])
			if trap != 0 {
				return 0, trap
			}
			held[l[x.Dst]] = v
		case api.IrSelect:
			from := x.B
			if held[l[x.C]] != 0 {
				from = x.A
			}
			held[l[x.Dst]] = held[l[from]]
		case api.IrJump:
			_, at = standing(c.Body, x.N)
		case api.IrIf:
			if held[l[x.A]] != 0 {
				_, at = standing(c.Body, x.N)
			}
		case api.IrUnless:
			if held[l[x.A]] == 0 {
				_, at = standing(c.Body, x.N)
			}
		case api.IrReturn:
			if x.A < 0 {
				return 0, 0
			}
			return held[l[x.A]], 0
		case api.IrStop:
			return 0, x.N
		}
	}
	return 0, 0
}
