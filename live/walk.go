package live

import (
	"slices"

	"oubliette/api"
	"oubliette/rir"
)

// labelsOf has the place of each label: of one that stands more than once, its first.
func labelsOf(body []api.Ir) map[int]int {
	places := map[int]int{}
	for at, x := range slices.Backward(body) {
		if x.Op == api.IrLabel {
			places[x.N] = at
		}
	}
	return places
}

// next is where the instruction at a place that there is may lead to, rising.
func next(body []api.Ir, labels map[int]int, at int) []int {
	x := body[at]
	if x.Op == api.IrReturn || x.Op == api.IrStop {
		return nil
	}
	var places []int
	if place, ok := labels[x.N]; ok && isJump(x) {
		places = append(places, place)
	}
	if x.Op != api.IrJump && at+1 < len(body) {
		places = append(places, at+1)
	}
	slices.Sort(places)
	return slices.Compact(places)
}

// part is what an instruction has to do with what is live: where it may lead to, and the sets of what it reads and writes.
type part struct {
	next          []int
	reads, writes int
}

// partsOf has the part of each instruction of a code that fits.
func partsOf(body []api.Ir) []part {
	parts := make([]part, len(body))
	labels := labelsOf(body)
	for at, x := range body {
		p := &parts[at]
		p.next = next(body, labels, at)
		for _, n := range rir.Uses(x) {
			p.reads |= cell(n)
		}
		if n := rir.Defs(x); n != none {
			p.writes = cell(n)
		}
	}
	return parts
}

// walked has, of each instruction of a code that fits, the cells that are live ahead of it and behind it.
func walked(body []api.Ir) (ahead, after []int) {
	ahead, after = make([]int, len(body)), make([]int, len(body))
	parts := partsOf(body)
	// From the end on, as what is needed is told from behind: what leads nowhere back is done at once.
	walk := func() (changed bool) {
		for at, p := range slices.Backward(parts) {
			for _, place := range p.next {
				after[at] |= ahead[place]
			}
			live := p.reads | after[at]&^p.writes
			changed = changed || live != ahead[at]
			ahead[at] = live
		}
		return changed
	}
	for walk() {
	}
	return ahead, after
}

// cell is the set that has the cell n alone.
func cell(n int) int { return 1 << n }
