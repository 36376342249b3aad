package check

import (
	"oubliette/api"
)

// placed is c, that fits, over places: what names a cell names the cell's place.
func placed(c api.Code, l []int) api.Code {
	body := make([]api.Ir, len(c.Body))
	for at, x := range c.Body {
		body[at] = placedInstr(x, l)
	}
	return api.Code{Cells: places, Body: body}
}

// placedInstr is x over places. Fields that it does not read as cells are changed, too, if a cell has that number: nothing asks for them.
func placedInstr(x api.Ir, l []int) api.Ir {
	x.Dst, x.A, x.B, x.C = placeOf(x.Dst, l), placeOf(x.A, l), placeOf(x.B, l), placeOf(x.C, l)
	return x
}

// placeOf is the place of n, if n is a cell. A return of nothing names none, and goes on naming none.
func placeOf(n int, l []int) int {
	if n < 0 || n >= len(l) {
		return n
	}
	return l[n]
}
