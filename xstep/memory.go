package xstep

import (
	"slices"

	"oubliette/api"
)

// worker is a machine at work. A text can't be changed, and to make another one at each store would take long: so a region that is written into has bytes of its own from then on, which count in its place till the work is closed.
type worker struct {
	api.Machine
	own [][]byte // of each region; nil, if nothing was written into it
}

// open: m, with a list of regions that is nobody else's.
func open(m api.Machine) *worker {
	m.Regions = slices.Clone(m.Regions)
	return &worker{m, make([][]byte, len(m.Regions))}
}

// closed: the machine that the worker has made; it works no more.
func (w *worker) closed() api.Machine {
	for i, own := range w.own {
		if own != nil {
			w.Regions[i].Bytes = string(own)
		}
	}
	return w.Machine
}

// read is Read, of what was written too.
func (w *worker) read(at, n int) (int, bool) {
	i, place, ok := findNumber(w.Regions, at, n)
	if !ok || w.own[i] == nil {
		return Read(w.Machine, at, n)
	}
	var number [8]byte
	copy(number[:n], w.own[i][place:])
	return join(number), true
}

// put lays v's low n bytes at an address; false, if they do not lie where they may be written.
func (w *worker) put(at, n, v int) bool {
	i, place, ok := findNumber(w.Regions, at, n)
	if !ok {
		return false
	}
	if w.own[i] == nil {
		w.own[i] = []byte(w.Regions[i].Bytes)
	}
	number := split(v)
	copy(w.own[i][place:], number[:n])
	return true
}

// findNumber: where a number stands that may be read and written, if it may be so long.
func findNumber(regions []api.Region, at, n int) (i, place int, ok bool) {
	if n != 4 && n != 8 {
		return 0, 0, false
	}
	return find(regions, false, at, n)
}

// find: the first region, of code or of none, in which n bytes (1 or more) from an address on lie, and where in it they begin.
func find(regions []api.Region, code bool, at, n int) (i, place int, ok bool) {
	for i, r := range regions {
		if r.Code == code && within(r, at, n) {
			return i, at - r.At, true
		}
	}
	return 0, 0, false
}

func within(r api.Region, at, n int) bool {
	if at < r.At || n > len(r.Bytes) {
		return false
	}
	// The difference may be above all numbers with a sign, but without one it is always told rightly.
	return uint(at-r.At) <= uint(len(r.Bytes)-n)
}

// join: the number whose bytes these are, the least first; the upper ones of a number of 4 bytes are nought, so that it has no sign.
func join(number [8]byte) int {
	v := 0
	for i, b := range number {
		v |= int(b) << (8 * i)
	}
	return v
}

// split: the bytes of v, the least first.
func split(v int) (number [8]byte) {
	for i := range number {
		number[i] = byte(v >> (8 * i))
	}
	return number
}
