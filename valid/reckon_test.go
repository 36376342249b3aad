package valid_test

import (
	"errors"
	"math/rand/v2"
	"slices"
	"strings"

	"oubliette/api"
	"oubliette/nest"
	"oubliette/valid"
	"oubliette/wbin"
	"oubliette/word"
)

// The reading here goes by letters: a type is one of these, at its number's place; any is the last. What may be popped is a text of letters, any among them.
const (
	letters = "ilsz?"
	word32  = "is?"
	word64  = "lz?"
)

// takers is, of each type, what may be popped where it is asked for.
var takers = [...]string{api.I32: "i?", api.I64: "l?", api.S32: "is?", api.S64: "lz?"}

func letter(t int) string { return letters[t : t+1] }

func spelled(types []int) (s string) {
	for _, t := range types {
		s += letter(t)
	}
	return s
}

// hidden: the letter of a secret type that is as wide as that of l.
func hidden(l string) string { return strings.NewReplacer("i", "s", "l", "z").Replace(l) }

// shownAs: that of a public one.
func shownAs(l string) string { return strings.NewReplacer("s", "i", "z", "l").Replace(l) }

// scope is a block, with a stack of its own: what stands on it is its own alone.
type scope struct {
	begun  int
	brings string
	stack  string
	dead   bool
}

func (s *scope) takes() string {
	if s.begun == api.Loop {
		return ""
	}
	return s.brings
}

// pop tells what came; nothing, if that may not be.
func (s *scope) pop(may string) string {
	if s.stack == "" {
		if s.dead {
			return "?"
		}
		return ""
	}
	top := s.stack[len(s.stack)-1:]
	s.stack = s.stack[:len(s.stack)-1]
	if !strings.Contains(may, top) {
		return ""
	}
	return top
}

// popAll pops what is spelled from its end on.
func (s *scope) popAll(spelled string) bool {
	for i := len(spelled) - 1; i >= 0; i-- {
		if s.pop(takers[strings.Index(letters, spelled[i:i+1])]) == "" {
			return false
		}
	}
	return true
}

func (s *scope) full() bool { return s.popAll(s.brings) && s.stack == "" }

// reading is one of a function, by the grammar of its body: each block is read by a call of its own.
type reading struct {
	m       api.Module
	own     api.Func
	locals  string
	at      int
	heights []int
}

func height(around []*scope) int {
	sum := 0
	for _, s := range around {
		if s.dead {
			return -1
		}
		sum += len(s.stack)
	}
	return sum
}

func crowded(around []*scope) bool {
	sum := 0
	for _, s := range around {
		sum += len(s.stack)
	}
	return sum > 16
}

// block reads up to the End of the last one of around, and stays there, or where an error is.
func (r *reading) block(around []*scope) api.Errno {
	own := around[len(around)-1]
	for ; ; r.at++ {
		x := r.own.Body[r.at]
		r.heights = append(r.heights, height(around))
		holds := true
		switch x.Op {
		case api.If, api.Block, api.Loop:
			if x.Op == api.If && own.pop("i?") == "" {
				return api.ErrInvalid
			}
			inner := &scope{begun: x.Op}
			if x.M > 0 {
				inner.brings = letter(x.M - 1)
			}
			r.at++
			if e := r.block(append(slices.Clone(around), inner)); e != api.OK {
				return e
			}
			own.stack += inner.brings
		case api.Else:
			holds = own.full()
			own.begun, own.dead = api.Else, false
		case api.End:
			if !own.full() || own.begun == api.If && own.brings != "" {
				return api.ErrInvalid
			}
			return api.OK
		default:
			holds = r.plain(x, around)
		}
		if !holds {
			return api.ErrInvalid
		}
		if crowded(around) {
			return api.ErrLimit
		}
	}
}

// plain reads an instruction that is no part of a block's form.
func (r *reading) plain(x api.Instr, around []*scope) bool {
	own := around[len(around)-1]
	leave := func(takes string) bool {
		holds := own.popAll(takes)
		own.stack, own.dead = "", true
		return holds
	}
	switch x.Op {
	case api.Unreachable:
		return leave("")
	case api.Return:
		return leave(around[0].brings)
	case api.Br:
		return x.N < len(around) && leave(around[len(around)-1-x.N].takes())
	case api.BrIf:
		if own.pop("i?") == "" || x.N >= len(around) {
			return false
		}
		takes := around[len(around)-1-x.N].takes()
		holds := own.popAll(takes)
		own.stack += takes
		return holds
	case api.Call:
		return r.call(x.N, own)
	}
	pops, push := r.rule(x)
	if pops == nil {
		return false
	}
	popped := make([]string, len(pops))
	for i, may := range slices.Backward(pops) {
		if popped[i] = own.pop(may); popped[i] == "" {
			return false
		}
	}
	pushed, ok := push(popped)
	own.stack += pushed
	return ok
}

func (r *reading) call(n int, own *scope) bool {
	sigs := slices.Clone(r.m.Imports)
	trusted := make([]bool, len(sigs))
	for _, f := range r.m.Funcs {
		sigs, trusted = append(sigs, f.Sig), append(trusted, f.Trusted)
	}
	if n >= len(sigs) || trusted[n] && !r.own.Trusted {
		return false
	}
	s := r.m.Sigs[sigs[n]]
	holds := own.popAll(spelled(s.Params))
	own.stack += spelled(s.Results)
	return holds
}

// always pushes the same.
func always(l string) func([]string) (string, bool) {
	return func([]string) (string, bool) { return l, true }
}

func same(popped []string) (string, bool) { return popped[0], true }

// chosen is what a Select pushes: of two of one width.
func chosen(popped []string) (string, bool) {
	two := popped[0] + popped[1]
	out := strings.Trim(two, "?")
	switch {
	case out == "":
		return "?", true
	case strings.Trim(out, "is") != "" && strings.Trim(out, "lz") != "":
		return "", false
	case strings.ContainsAny(two+popped[2], "sz"):
		return hidden(out[:1]), true
	}
	return out[:1], true
}

// rule is what an instruction pops, the first one first, and what it pushes then; nil, if it may not stand there at all.
func (r *reading) rule(x api.Instr) (pops []string, push func(popped []string) (string, bool)) {
	cells := r.locals
	switch x.Op {
	case api.GlobalGet, api.GlobalSet:
		cells = ""
		for _, g := range r.m.Globals {
			cells += letter(g.T)
		}
		fallthrough
	case api.LocalGet, api.LocalSet, api.LocalTee:
		return cellRule(x, cells)
	case api.I32Load, api.I64Load, api.I32Store, api.I64Store:
		if r.m.Mems[x.M] == 0 {
			return nil, nil
		}
		return memRule(x.Op, x.M)
	case api.Nop:
		return []string{}, always("")
	case api.Drop:
		return []string{letters}, always("")
	case api.Select:
		return []string{letters, letters, word32}, chosen
	case api.I32Const:
		return []string{}, always("i")
	case api.I64Const:
		return []string{}, always("l")
	case api.Classify:
		return []string{letters}, func(p []string) (string, bool) { return hidden(p[0]), true }
	case api.Declassify:
		if !r.own.Trusted {
			return nil, nil
		}
		return []string{letters}, func(p []string) (string, bool) { return shownAs(p[0]), true }
	}
	return wordRule(x.Op)
}

func cellRule(x api.Instr, cells string) ([]string, func([]string) (string, bool)) {
	if x.N >= len(cells) {
		return nil, nil
	}
	cell := cells[x.N : x.N+1]
	takes := []string{takers[strings.Index(letters, cell)]}
	switch x.Op {
	case api.LocalSet, api.GlobalSet:
		return takes, always("")
	case api.LocalTee:
		return takes, always(cell)
	}
	return []string{}, always(cell)
}

func memRule(op, mem int) ([]string, func([]string) (string, bool)) {
	switch op {
	case api.I32Load:
		return []string{"i?"}, always([]string{"i", "s"}[mem])
	case api.I64Load:
		return []string{"i?"}, always([]string{"l", "z"}[mem])
	case api.I32Store:
		return []string{"i?", []string{"i?", "is?"}[mem]}, always("")
	}
	return []string{"i?", []string{"l?", "lz?"}[mem]}, always("")
}

func wordRule(op int) ([]string, func([]string) (string, bool)) {
	ops, from, to, _ := word.Arity(op)
	takes := []string{word32, word64}[from]
	switch op {
	case api.I32DivS, api.I32DivU, api.I32RemS, api.I32RemU:
		takes = "i?"
	case api.I64DivS, api.I64DivU, api.I64RemS, api.I64RemU:
		takes = "l?"
	}
	return slices.Repeat([]string{takes}, ops), func(p []string) (string, bool) {
		if strings.ContainsAny(strings.Join(p, ""), "sz") {
			return []string{"s", "z"}[to], true
		}
		return []string{"i", "l"}[to], true
	}
}

// verdict is what is told of a module: the error, where; if there is none, the heights.
type verdict struct {
	code    api.Errno
	at      int
	heights [][]int
}

func verdictOf(m api.Module) (v verdict) {
	if e := wbin.Fits(m); e == api.ErrLimit {
		return verdict{code: api.ErrLimit}
	} else if e != api.OK || !soundOf(m) {
		return verdict{code: api.ErrInvalid}
	}
	for f, own := range m.Funcs {
		if _, e := nest.Spans(own.Body); e != api.OK {
			return verdict{code: e, at: 1000 * f}
		}
		s := m.Sigs[own.Sig]
		r := reading{m: m, own: own, locals: spelled(s.Params) + spelled(own.Locals)}
		if e := r.block([]*scope{{brings: spelled(s.Results), begun: -1}}); e != api.OK {
			return verdict{code: e, at: 1000*f + r.at}
		}
		v.heights = append(v.heights, r.heights)
	}
	return v
}

// soundOf: whether what stands beside the bodies may be.
func soundOf(m api.Module) bool {
	for _, s := range m.Imports {
		if s >= len(m.Sigs) {
			return false
		}
	}
	for _, f := range m.Funcs {
		if f.Sig >= len(m.Sigs) {
			return false
		}
	}
	for _, d := range m.Data {
		// Byte by byte, so that no end has to be reckoned.
		memory := make([]int, 1<<m.Mems[d.Mem])
		if m.Mems[d.Mem] == 0 || d.At > len(memory) || len(memory[d.At:]) < len(d.Bytes) {
			return false
		}
	}
	return true
}

// verdictFrom is what the program tells, by all its calls.
func verdictFrom(m api.Module) (v verdict) {
	err := valid.Valid(m)
	var f *api.Fault
	if errors.As(err, &f) {
		return verdict{code: f.Code, at: f.At}
	}
	for f := range m.Funcs {
		h, err := valid.Heights(m, f)
		if err != nil {
			return verdict{code: -1}
		}
		v.heights = append(v.heights, h)
	}
	return v
}

func alike(a, b verdict) bool {
	return a.code == b.code && a.at == b.at && slices.EqualFunc(a.heights, b.heights, slices.Equal[[]int])
}

// closing: l, and as many Ends as it lacks.
func closing(l []api.Instr) []api.Instr {
	open := 1
	for _, x := range l {
		switch x.Op {
		case api.Block, api.Loop, api.If:
			open++
		case api.End:
			open--
		}
	}
	return slices.Concat(l, slices.Repeat([]api.Instr{{Op: api.End}}, max(open, 0)))
}

// ended: l, with all that is open in it ended as it may be, whatever is on the stack.
func ended(l []api.Instr) []api.Instr {
	l = slices.Clone(l)
	var open []api.Instr
	for _, x := range l {
		if len(open) == 0 && (x.Op == api.Else || x.Op == api.End) {
			return l // the body itself is ended, or can't be any more
		}
		switch x.Op {
		case api.Block, api.Loop, api.If:
			open = append(open, x)
		case api.Else:
			open[len(open)-1].Op = api.Else
		case api.End:
			open = open[:len(open)-1]
		}
	}
	for _, x := range slices.Backward(open) {
		l = append(l, api.Instr{Op: api.Unreachable})
		if x.Op == api.If && x.M > 0 {
			l = append(l, api.Instr{Op: api.Else}, api.Instr{Op: api.Unreachable})
		}
		l = append(l, api.Instr{Op: api.End})
	}
	return append(l, api.Instr{Op: api.Unreachable}, api.Instr{Op: api.End})
}

// grow makes a body of up to n instructions, and their Ends, by chance, each of which fine lets be the last one so far.
func grow(r *rand.Rand, n int, some []api.Instr, fine func(l []api.Instr) bool) []api.Instr {
	var l []api.Instr
	for range n {
		for range 12 {
			longer := append(l, some[r.IntN(len(some))])
			if fine(longer) {
				l = longer
				break
			}
		}
	}
	return ended(l)
}
