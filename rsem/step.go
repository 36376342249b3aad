package rsem

import (
	"oubliette/api"
	"oubliette/linmem"
	"oubliette/word"
)

// call is a call of a function that has not ended. All that its instructions name is there.
type call struct {
	*run
	function
	at    int // the instruction that is carried out next
	left  bool
	v     int // what it brings, once it is left
	cells []int
}

// whole carries the call out up to its end, and tells what it brings: 0, if nothing. Behind the last instruction it has ended, too.
func (k *call) whole() int {
	for !k.left && k.at < len(k.Body) {
		k.step()
	}
	return k.v
}

// step carries the next instruction out.
func (k *call) step() {
	must(k.steps < k.fuel, api.TrapRunning)
	k.steps++
	x, target := k.Body[k.at], k.targets[k.at]
	k.at++
	switch x.Op {
	case api.IrLabel:
	case api.IrJump:
		k.at = target
	case api.IrIf, api.IrUnless:
		if (k.cells[x.A] != 0) == (x.Op == api.IrIf) {
			k.at = target
		}
	case api.IrReturn:
		k.left = true
		if x.A >= 0 {
			k.v = k.cells[x.A]
		}
	case api.IrStop:
		must(false, x.N)
	case api.IrCall:
		v := k.callOut(x.N)
		if x.Dst >= 0 {
			k.cells[x.Dst] = v
		}
	default:
		k.plain(x)
	}
}

// plain carries an instruction out behind which the next one always comes.
func (k *call) plain(x api.Ir) {
	switch x.Op {
	case api.IrStore:
		mem, ok := linmem.Store(k.mems[x.M], k.cells[x.A], x.N, x.C, k.cells[x.B])
		must(ok, api.TrapMem)
		k.mems[x.M] = mem
	case api.IrSet:
		k.globals[x.N] = k.cells[x.A]
	case api.IrArg:
		k.args[x.N] = k.cells[x.A]
	default:
		k.cells[x.Dst] = k.made(x)
	}
}

// made is what x writes into its cell.
func (k *call) made(x api.Ir) int {
	switch x.Op {
	case api.IrMove:
		return k.cells[x.A]
	case api.IrOp:
		v, trap := word.Eval(x.N, k.cells[x.A], k.cells[x.B])
		must(trap == api.NoTrap, trap)
		return v
	case api.IrSelect:
		if k.cells[x.C] == 0 {
			return k.cells[x.B]
		}
		return k.cells[x.A]
	case api.IrLoad:
		v, ok := linmem.Load(k.mems[x.M], k.cells[x.A], x.N, x.C)
		must(ok, api.TrapMem)
		return v
	case api.IrGet:
		return k.globals[x.N]
	}
	// What is left is IrConst.
	return x.N
}
