package asm_test

import (
	"oubliette/api"
	"oubliette/xcode"
)

// What the chapter says, reckoned anew of each item, without a map.

// isItem: whether i is one of the chapter's items.
func isItem(i api.Item) bool {
	label := api.Item{Label: i.Label}
	plain := api.Item{X: i.X}
	bare := api.X{Op: i.X.Op, C: i.X.C}
	going := api.Item{X: bare, To: i.To}
	goes := bare.Op == api.XJmp || bare.Op == api.XCall || bare.Op == api.XJcc
	switch i {
	case label:
		return i.Label > 0
	case plain:
		return xcode.Right(i.X)
	case going:
		return goes && i.To > 0 && xcode.Right(bare)
	}
	return false
}

func areItems(l []api.Item) bool {
	for _, i := range l {
		if !isItem(i) {
			return false
		}
	}
	return true
}

// ahead is how many bytes stand ahead of the item at.
func ahead(l []api.Item, at int) int {
	n := 0
	for _, i := range l[:at] {
		b, _ := xcode.Encode(i.X)
		n += len(b)
	}
	return n
}

// labelled are the places in l of a label.
func labelled(l []api.Item, label int) []int {
	var out []int
	for at, i := range l {
		if i.Label == label {
			out = append(out, at)
		}
	}
	return out
}

func placesOf(l []api.Item) ([]int, api.Errno) {
	if !areItems(l) {
		return nil, api.ErrArg
	}
	var out []int
	for at := range len(l) + 1 {
		out = append(out, ahead(l, at))
	}
	return out, api.OK
}

// placed is the instruction at, with the N that its label asks.
func placed(l []api.Item, at int) api.X {
	x := l[at].X
	if l[at].To != 0 {
		x.N = ahead(l, labelled(l, l[at].To)[0]) - ahead(l, at+1)
	}
	return x
}

func assembled(l []api.Item) (string, api.Errno) {
	if !areItems(l) {
		return "", api.ErrArg
	}
	for _, i := range l {
		if i.Label != 0 && len(labelled(l, i.Label)) != 1 || i.To != 0 && len(labelled(l, i.To)) != 1 {
			return "", api.ErrArg
		}
	}
	out := ""
	for at, i := range l {
		if i.Label == 0 {
			b, _ := xcode.Encode(placed(l, at))
			out += b
		}
	}
	return out, api.OK
}
