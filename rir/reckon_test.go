package rir_test

import (
	"slices"
	"strconv"
	"strings"

	"oubliette/api"
	"oubliette/valid"
	"oubliette/word"
)

// What the chapter says of each instruction, as a text of seven fields, in which S, S-1, S-2 and S-3 are cells of the stack, l is a local's cell, n and m are the instruction's numbers, and low is the low 32 bits of n.
func saying(op int) (text string, ok bool) {
	text, ok = map[int]string{
		api.I32Const: "1 S 0 0 0 low 0", api.I64Const: "1 S 0 0 0 n 0",
		api.LocalGet: "2 S l 0 0 0 0", api.LocalSet: "2 l S-1 0 0 0 0", api.LocalTee: "2 l S-1 0 0 0 0",
		api.GlobalGet: "7 S 0 0 0 n 0", api.GlobalSet: "8 0 S-1 0 0 n 0",
		api.Select:  "4 S-3 S-3 S-2 S-1 0 0",
		api.I32Load: "5 S-1 S-1 0 4 n m", api.I64Load: "5 S-1 S-1 0 8 n m",
		api.I32Store: "6 0 S-2 S-1 4 n m", api.I64Store: "6 0 S-2 S-1 8 n m",
		api.Unreachable: "16 0 0 0 0 1 0",
	}[op]
	if many, _, _, reckons := word.Arity(op); reckons {
		return []string{1: "3 S-1 S-1 S-1 0 op 0", 2: "3 S-2 S-2 S-1 0 op 0"}[many], true
	}
	return text, ok
}

// around is a block that is open, or the body.
type around struct {
	number   int
	op       int
	takes    bool
	base     int // the cell of its first value
	lives    bool
	turns    bool   // whether it has an Else
	wholly   bool   // the body
	returned string // how the body is left
}

// reckoner says a function's code over again: it keeps to the words of the chapter and looks at no span.
type reckoner struct {
	texts  []string
	cells  int
	labels int
	blocks int
	open   []around
}

// say writes the instruction down that a text of saying's kind tells of x, with the stack up to s, and counts the cells that it names.
func (k *reckoner) say(text string, x api.Instr, s int) {
	words := strings.Fields(text)
	for i, w := range words {
		n, isCell := x.N, false
		switch {
		case w == "l":
			isCell = true
		case strings.HasPrefix(w, "S"):
			less, _ := strconv.Atoi(strings.TrimPrefix(w, "S"))
			n, isCell = s+less, true
		case w == "m":
			n = x.M
		case w == "op":
			n = x.Op
		case w == "low":
			n = int(uint32(x.N))
		case w != "n":
			continue
		}
		if isCell {
			k.cells = max(k.cells, n+1)
		}
		words[i] = strconv.Itoa(n)
	}
	k.texts = append(k.texts, strings.Join(words, " "))
}

// with is an instruction that has a number alone.
func with(n int) api.Instr { return api.Instr{N: n} }

func (k *reckoner) label(n int) { k.say("9 0 0 0 0 n 0", with(n), 0) }

func hasElse(rest []api.Instr) bool {
	deep := 0
	for _, x := range rest {
		switch {
		case x.Op == api.Block || x.Op == api.Loop || x.Op == api.If:
			deep++
		case x.Op == api.Else && deep == 0:
			return true
		case x.Op == api.End && deep == 0:
			return false
		case x.Op == api.End:
			deep--
		}
	}
	return false
}

// moves: whether a branch must move what it takes.
func (a around) moves(s int) bool { return a.takes && !a.wholly && a.base != s-1 }

// branch is what Br is, the stack reaching up to s.
func (k *reckoner) branch(to around, s int) {
	if to.wholly {
		k.say(to.returned, api.Instr{}, s)
		return
	}
	if to.moves(s) {
		k.say("2 l S-1 0 0 0 0", with(to.base), s)
	}
	k.say("10 0 0 0 0 n 0", with(2*to.number+1), s)
}

func (k *reckoner) branchIf(to around, s int) {
	if !to.wholly && !to.moves(s-1) {
		k.say("11 0 S-1 0 0 n 0", with(2*to.number+1), s)
		return
	}
	k.labels++
	past := k.labels
	k.say("12 0 S-1 0 0 n 0", with(past), s)
	k.branch(to, s-1)
	k.label(past)
}

// begin is what Block, Loop and If are; rest stands behind it.
func (k *reckoner) begin(x api.Instr, rest []api.Instr, s int, lives bool) {
	a := around{number: k.blocks, op: x.Op, takes: x.M > 0 && x.Op != api.Loop, base: s, lives: lives, turns: hasElse(rest)}
	if x.Op == api.If {
		a.base--
	}
	k.blocks++
	k.open = append(k.open, a)
	switch {
	case !lives:
	case x.Op == api.Loop:
		k.label(2*a.number + 1)
	case x.Op == api.If && a.turns:
		k.say("12 0 S-1 0 0 n 0", with(2*a.number+2), s)
	case x.Op == api.If:
		k.say("12 0 S-1 0 0 n 0", with(2*a.number+1), s)
	}
}

// edge is what Else and End are.
func (k *reckoner) edge(x api.Instr, s int, lives bool) {
	a := k.open[len(k.open)-1]
	if x.Op == api.Else {
		if a.lives && lives {
			k.say("10 0 0 0 0 n 0", with(2*a.number+1), s)
		}
		if a.lives {
			k.label(2*a.number + 2)
		}
		return
	}
	k.open = k.open[:len(k.open)-1]
	switch {
	case a.wholly && lives:
		k.say(a.returned, api.Instr{}, s)
	case !a.wholly && a.lives && a.op != api.Loop:
		k.label(2*a.number + 1)
	}
}

func (k *reckoner) call(m api.Module, x api.Instr, s int) {
	sig, _, _, _ := valid.Callee(m, x.N)
	below := s - len(sig.Params)
	for i := range sig.Params {
		k.say("13 0 S 0 0 n 0", with(i), below+i)
	}
	k.say([]string{"14 -1 0 0 0 n 0", "14 S 0 0 0 n 0"}[len(sig.Results)], x, below)
}

// reckoned is the code of m's function f, as texts, with how many cells and labels it has.
func reckoned(m api.Module, f int) (texts []string, cells, labels int) {
	own := m.Funcs[f]
	sig := m.Sigs[own.Sig]
	all := slices.Concat(sig.Params, own.Locals)
	body := around{wholly: true, takes: len(sig.Results) > 0, returned: []string{"15 0 -1 0 0 0 0", "15 0 S-1 0 0 0 0"}[len(sig.Results)]}
	k := &reckoner{cells: len(all), labels: 2, open: []around{body}}
	for _, x := range own.Body {
		if x.Op == api.Block || x.Op == api.Loop || x.Op == api.If {
			k.labels += 2
		}
	}
	for i := range own.Locals {
		k.say("1 l 0 0 0 0 0", with(len(sig.Params)+i), 0)
	}
	heights, _ := valid.Heights(m, f)
	for at, x := range own.Body {
		k.instr(m, x, own.Body[at+1:], len(all)+heights[at], heights[at] >= 0)
	}
	return k.texts, k.cells, k.labels
}

func (k *reckoner) instr(m api.Module, x api.Instr, rest []api.Instr, s int, lives bool) {
	text, plain := saying(x.Op)
	switch {
	case x.Op == api.Block || x.Op == api.Loop || x.Op == api.If:
		k.begin(x, rest, s, lives)
	case x.Op == api.Else || x.Op == api.End:
		k.edge(x, s, lives)
	case !lives:
	case plain:
		k.say(text, x, s)
	case x.Op == api.Br:
		k.branch(k.open[len(k.open)-1-x.N], s)
	case x.Op == api.BrIf:
		k.branchIf(k.open[len(k.open)-1-x.N], s)
	case x.Op == api.Return:
		k.branch(k.open[0], s)
	case x.Op == api.Call:
		k.call(m, x, s)
	}
}
