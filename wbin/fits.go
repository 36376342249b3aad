package wbin

import (
	"oubliette/api"
	"oubliette/inst"
	"oubliette/label"
)

// misfit is the error that tells why m does not fit; nil, if it does.
func misfit(m api.Module) error {
	if !small(m) {
		return fault(api.ErrLimit, 0)
	}
	if !whole(m) {
		return fault(api.ErrArg, 0)
	}
	return nil
}

// small: whether m keeps to all limits.
func small(m api.Module) bool {
	return len(m.Sigs) <= api.MaxSigs &&
		len(m.Imports) <= api.MaxImports &&
		len(m.Funcs) <= api.MaxFuncs &&
		len(m.Globals) <= api.MaxGlobals &&
		len(m.Data) <= api.MaxData &&
		all(m.Sigs, smallSig) &&
		all(m.Funcs, smallFunc) &&
		all(m.Mems[:], smallMem)
}

func smallSig(s api.Sig) bool { return len(s.Params) <= api.MaxParams }

func smallFunc(f api.Func) bool {
	return len(f.Locals) <= api.MaxLocals && len(f.Body) <= api.MaxBody
}

// smallMem is asked of a memory's exponent; 0 is that of no memory.
func smallMem(n int) bool {
	return n == 0 || n >= api.MinMem && n <= api.MaxMem
}

// whole: whether nothing stands in m that has no bytes.
func whole(m api.Module) bool {
	return all(m.Sigs, wholeSig) &&
		all(m.Imports, index) &&
		all(m.Funcs, wholeFunc) &&
		all(m.Globals, wholeGlobal) &&
		all(m.Data, wholeDatum)
}

func wholeSig(s api.Sig) bool {
	return len(s.Results) <= 1 && all(s.Params, label.Right) && all(s.Results, label.Right)
}

func wholeFunc(f api.Func) bool {
	return index(f.Sig) && all(f.Locals, label.Right) && all(f.Body, inst.Right) && closed(f.Body)
}

func wholeGlobal(g api.Global) bool {
	return label.Right(g.T) && (label.Wide(g.T) || index(g.V))
}

func wholeDatum(d api.Data) bool {
	return (d.Mem == 0 || d.Mem == 1) && index(d.At)
}

// index: whether n is not below 0 and has no more than 32 bits. How many things there are is not asked: that is for those who know what the number is an index of.
func index(n int) bool { return n>>indexBits == 0 }

// closed: whether the last instruction is the only one that ends the body itself.
func closed(body []api.Instr) bool {
	open := 1 // the body itself
	for i, x := range body {
		switch x.Op {
		case api.Block, api.Loop, api.If:
			open++
		case api.End:
			open--
		}
		if open == 0 {
			return i == len(body)-1
		}
	}
	return false
}

// all: whether each of l is right.
func all[T any](l []T, right func(T) bool) bool {
	for _, x := range l {
		if !right(x) {
			return false
		}
	}
	return true
}
