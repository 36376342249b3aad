package wsem

import (
	"slices"

	"oubliette/api"
	"oubliette/linmem"
	"oubliette/nest"
	"oubliette/valid"
	"oubliette/word"
)

// Bytes that a number has in a memory.
const (
	bytes32 = 4
	bytes64 = 8
)

// block is one that a call is in; the body itself is the first.
type block struct {
	span  nest.Span
	loop  bool
	base  int // how high the stack was when it began
	takes int // how many values a branch to it needs
}

// call is a call of a function that has not ended. The module being valid, what it pops is there, and so are all that its instructions name.
type call struct {
	*run
	body    []api.Instr
	begins  []nest.Span // at the place of a block's beginning, that block
	results int         // how many values it brings
	at      int         // the instruction that is carried out next
	ended   bool
	locals  []int
	stack   []int
	open    []block
}

// newCall stands ahead of the first instruction of function f.
func newCall(r *run, f int, args []int) *call {
	own := r.m.Funcs[f]
	results := len(signature(r.m, f).Results)
	whole := nest.Span{Begin: -1, Else: -1, End: len(own.Body) - 1}
	return &call{
		run:     r,
		body:    own.Body,
		begins:  r.spans[f],
		results: results,
		locals:  slices.Concat(args, make([]int, len(own.Locals))),
		open:    []block{{span: whole, takes: results}},
	}
}

func (c *call) push(values ...int) { c.stack = append(c.stack, values...) }

func (c *call) pop() int {
	top := len(c.stack) - 1
	v := c.stack[top]
	c.stack = c.stack[:top]
	return v
}

// take pops so many, and tells them in the order in which they were pushed.
func (c *call) take(many int) []int {
	below := len(c.stack) - many
	taken := slices.Clone(c.stack[below:])
	c.stack = c.stack[:below]
	return taken
}

// step carries the next instruction out.
func (c *call) step() {
	must(c.steps < c.fuel, api.TrapRunning)
	c.steps++
	x := c.body[c.at]
	c.at++
	switch x.Op {
	case api.Nop, api.Classify, api.Declassify:
	case api.Unreachable:
		must(false, api.TrapStop)
	case api.Block, api.Loop, api.If:
		c.begin(x)
	case api.Else:
		c.at = c.last().span.End
	case api.BrIf:
		if c.pop() == 0 {
			break
		}
		fallthrough
	case api.Br:
		c.branch(x.N)
	case api.End:
		if len(c.open) > 1 {
			c.open = c.open[:len(c.open)-1]
			break
		}
		fallthrough
	case api.Return:
		c.ended = true
	case api.Call:
		c.push(c.callOut(x.N)...)
	default:
		c.plain(x)
	}
}

// plain carries an instruction out behind which the next one always comes.
func (c *call) plain(x api.Instr) {
	size := bytes32
	switch x.Op {
	case api.Drop:
		c.pop()
	case api.Select:
		by, b, a := c.pop(), c.pop(), c.pop()
		if by == 0 {
			a = b
		}
		c.push(a)
	case api.LocalGet:
		c.push(c.locals[x.N])
	case api.LocalTee:
		c.push(c.stack[len(c.stack)-1])
		fallthrough
	case api.LocalSet:
		c.locals[x.N] = c.pop()
	case api.GlobalGet:
		c.push(c.globals[x.N])
	case api.GlobalSet:
		c.globals[x.N] = c.pop()
	case api.I64Load:
		size = bytes64
		fallthrough
	case api.I32Load:
		c.load(x, size)
	case api.I64Store:
		size = bytes64
		fallthrough
	case api.I32Store:
		c.store(x, size)
	case api.I32Const, api.I64Const:
		c.push(word.Trim(x.Op == api.I64Const, x.N))
	default:
		c.reckon(x.Op)
	}
}

// last is the block that was begun last and has not ended.
func (c *call) last() block { return c.open[len(c.open)-1] }

// begin begins the block of x, the instruction that is carried out now.
func (c *call) begin(x api.Instr) {
	skips := x.Op == api.If && c.pop() == 0
	b := block{span: c.begins[c.at-1], loop: x.Op == api.Loop, base: len(c.stack)}
	// A branch to a Loop goes back to its beginning, where nothing is brought yet.
	if x.M != 0 && !b.loop {
		b.takes = 1
	}
	c.open = append(c.open, b)
	switch {
	case skips && b.span.Else >= 0:
		c.at = b.span.Else + 1
	case skips:
		c.at = b.span.End
	}
}

// branch leaves depth blocks, and goes to the End of the next one, or behind its beginning, if it is a Loop. That one stays open: an End is still carried out, and closes it.
func (c *call) branch(depth int) {
	c.open = c.open[:len(c.open)-depth]
	b := c.last()
	taken := c.take(b.takes)
	c.stack = append(c.stack[:b.base], taken...)
	c.at = b.span.End
	if b.loop {
		c.at = b.span.Begin + 1
	}
}

// callOut does what Call n does, of the host or of a function, and tells what that brings.
func (c *call) callOut(n int) []int {
	sig, host, _, _ := valid.Callee(c.m, n)
	args := c.take(len(sig.Params))
	if host {
		return c.ask(n, sig, args)
	}
	return c.enter(n-len(c.m.Imports), args)
}

func (c *call) load(x api.Instr, size int) {
	v, ok := linmem.Load(c.mems[x.M], c.pop(), x.N, size)
	must(ok, api.TrapMem)
	c.push(v)
}

func (c *call) store(x api.Instr, size int) {
	v, addr := c.pop(), c.pop()
	mem, ok := linmem.Store(c.mems[x.M], addr, x.N, size, v)
	must(ok, api.TrapMem)
	c.mems[x.M] = mem
}

// reckon carries out what word has.
func (c *call) reckon(op int) {
	ops, _, _, _ := word.Arity(op)
	b := 0
	if ops == 2 {
		b = c.pop()
	}
	v, trap := word.Eval(op, c.pop(), b)
	must(trap == api.NoTrap, trap)
	c.push(v)
}
