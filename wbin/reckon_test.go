package wbin_test

import (
	"slices"
	"strings"

	"oubliette/api"
	"oubliette/inst"
)

// What the chapter says, once more and by other means: limits and wrong things are looked for one by one; sections are read without any care, and then held against what would be written of what was read.

const theHead = "\x00\x63\x74\x77\x01\x00"

func theSections() []int { return []int{1, 2, 3, 5, 6, 10, 11} }

// fits restates P5.1.
func fits(m api.Module) api.Errno {
	if overLimit(m) {
		return api.ErrLimit
	}
	if wrongWithin(m) {
		return api.ErrArg
	}
	return api.OK
}

func overLimit(m api.Module) bool {
	over := len(m.Sigs) > 16 || len(m.Imports) > 8 || len(m.Funcs) > 8 || len(m.Globals) > 8 || len(m.Data) > 8
	for _, s := range m.Sigs {
		over = over || len(s.Params) > 4
	}
	for _, f := range m.Funcs {
		over = over || len(f.Locals) > 8 || len(f.Body) > 200
	}
	for _, n := range m.Mems {
		over = over || !slices.Contains([]int{0, 3, 4, 5, 6, 7, 8, 9, 10, 11, 12}, n)
	}
	return over
}

func wrongWithin(m api.Module) bool {
	var types, indices, mems []int
	wrong := false
	for _, s := range m.Sigs {
		types = slices.Concat(types, s.Params, s.Results)
		wrong = wrong || len(s.Results) > 1
	}
	indices = append(indices, m.Imports...)
	for _, f := range m.Funcs {
		types = append(types, f.Locals...)
		indices = append(indices, f.Sig)
		rest, ended := behindEnd(f.Body)
		wrong = wrong || !ended || len(rest) > 0
		for _, x := range f.Body {
			_, e := inst.Bytes(x)
			wrong = wrong || e != api.OK
		}
	}
	for _, g := range m.Globals {
		types = append(types, g.T)
		if g.T == api.I32 || g.T == api.S32 {
			indices = append(indices, g.V)
		}
	}
	for _, d := range m.Data {
		indices = append(indices, d.At)
		mems = append(mems, d.Mem)
	}
	return wrong || outside(types, 3) || outside(indices, 0xffffffff) || outside(mems, 1)
}

func outside(l []int, greatest int) bool {
	return slices.ContainsFunc(l, func(n int) bool { return n < 0 || n > greatest })
}

// behindEnd is what stands behind the End of what was opened ahead of l, each block within gone through by itself.
func behindEnd(l []api.Instr) (rest []api.Instr, ended bool) {
	for len(l) > 0 {
		x := l[0]
		l = l[1:]
		switch x.Op {
		case api.End:
			return l, true
		case api.Block, api.Loop, api.If:
			if l, ended = behindEnd(l); !ended {
				return nil, false
			}
		}
	}
	return nil, false
}

// pen writes a module as P5.2 says, whether it fits or not; of one sort of things it can write the one at a place otherwise.
type pen struct {
	sort  string
	place int
	how   func(usual string) string
	seen  int
}

func (p *pen) put(sort, usual string) string {
	if p.how == nil || sort != p.sort {
		return usual
	}
	p.seen++
	if p.seen-1 != p.place {
		return usual
	}
	return p.how(usual)
}

func (p *pen) number(n int) string { return p.put("number", unsigned(n)) }

func (p *pen) types(l []int) string {
	out := p.number(len(l))
	for _, t := range l {
		out += p.put("type", octet(127-t))
	}
	return out
}

func (p *pen) counted(b string) string { return p.number(len(b)) + b }

// section is the one with that number, of all of m; "" if there is nothing of it.
func (p *pen) section(of int, m api.Module) string {
	var things []string
	switch of {
	case 1:
		for _, s := range m.Sigs {
			things = append(things, p.types(s.Params)+p.types(s.Results))
		}
	case 2:
		for _, n := range m.Imports {
			things = append(things, p.number(n))
		}
	case 3:
		for _, f := range m.Funcs {
			trust := map[bool]string{false: "\x00", true: "\x01"}[f.Trusted]
			things = append(things, p.number(f.Sig)+p.put("trust", trust))
		}
	case 5:
		if m.Mems[0] != 0 || m.Mems[1] != 0 {
			things = []string{octet(m.Mems[0]), octet(m.Mems[1])}
		}
	case 6:
		for _, g := range m.Globals {
			things = append(things, p.global(g))
		}
	case 10:
		for _, f := range m.Funcs {
			things = append(things, p.types(f.Locals)+p.counted(p.body(f.Body)))
		}
	case 11:
		for _, d := range m.Data {
			things = append(things, p.number(d.Mem)+p.number(d.At)+p.counted(d.Bytes))
		}
	}
	if len(things) == 0 {
		return ""
	}
	return octet(of) + p.counted(p.number(len(things))+strings.Join(things, ""))
}

func (p *pen) global(g api.Global) string {
	t := p.put("type", octet(127-g.T))
	if g.T == api.I64 || g.T == api.S64 {
		return t + p.put("V of 64", signed(g.V))
	}
	v := g.V
	if v >= 1<<31 {
		v -= 1 << 32
	}
	return t + p.put("V of 32", signed(v))
}

func (p *pen) body(l []api.Instr) string {
	out := ""
	for _, x := range l {
		b, _ := inst.Bytes(x)
		out += p.put("instruction", b)
	}
	return out
}

// sections are all of m, one by one, those of nothing too.
func (p *pen) sections(m api.Module) []string {
	var out []string
	for _, of := range theSections() {
		out = append(out, p.section(of, m))
	}
	return out
}

// spell is all bytes of m, whether it fits or not.
func spell(m api.Module) string {
	return theHead + strings.Join((&pen{}).sections(m), "")
}

func octet(n int) string { return string([]byte{byte(n)}) }

func unsigned(n int) string {
	var out []byte
	for ; n >= 128; n /= 128 {
		out = append(out, byte(n%128+128))
	}
	return string(append(out, byte(n)))
}

func signed(n int) string {
	var out []byte
	for ; n < -64 || n > 63; n >>= 7 {
		out = append(out, byte(n&127|128))
	}
	return string(append(out, byte(n&127)))
}

// telling is what Decode tells.
type telling struct {
	m    api.Module
	code api.Errno
	at   int
}

// told restates P5.3.
func told(b string) telling {
	if len(b) > 4000 {
		return telling{code: api.ErrLimit}
	}
	if !strings.HasPrefix(b, theHead) {
		return telling{code: api.ErrMalformed}
	}
	var m, codes api.Module
	last := 0
	for at := len(theHead); at < len(b); {
		size, of := sectionAt(b[at:])
		if size == 0 || of <= last || !slices.Contains(theSections(), of) || !careless(&m, &codes, of, b[at:at+size]) {
			return telling{code: api.ErrMalformed, at: at}
		}
		last, at = of, at+size
	}
	if len(m.Funcs) != len(codes.Funcs) {
		return telling{code: api.ErrMalformed}
	}
	for i, c := range codes.Funcs {
		m.Funcs[i].Locals, m.Funcs[i].Body = c.Locals, c.Body
	}
	switch fits(m) {
	case api.ErrLimit:
		return telling{code: api.ErrLimit}
	case api.ErrArg:
		return telling{code: api.ErrMalformed}
	}
	return telling{m: m}
}

// sectionAt is how many bytes the section has in all that b begins with, and its number; 0, if it is not there.
func sectionAt(b string) (size, of int) {
	n := 0
	for i := 1; i < min(len(b), 6); i++ {
		n += int(b[i]) % 128 << (7*i - 7)
		if unsigned(n) == b[1:i+1] && n <= 0xffffffff && n <= len(b)-i-1 {
			return i + 1 + n, int(b[0])
		}
	}
	return 0, 0
}

// careless reads a section, and asks whether what it read is written so; what is not there is a panic.
func careless(m, codes *api.Module, of int, b string) (ok bool) {
	defer func() {
		if recover() != nil {
			ok = false
		}
	}()
	c := cursor{b: b}
	c.octet()
	c.number()
	things := c.number()
	into := m
	for i := range things {
		switch of {
		case 1:
			m.Sigs = append(m.Sigs, api.Sig{Params: c.types(), Results: c.types()})
		case 2:
			m.Imports = append(m.Imports, c.number())
		case 3:
			m.Funcs = append(m.Funcs, api.Func{Sig: c.number(), Trusted: c.octet() != 0})
		case 5:
			m.Mems[i] = c.octet()
		case 6:
			m.Globals = append(m.Globals, c.global())
		case 10:
			into = codes
			codes.Funcs = append(codes.Funcs, api.Func{Locals: c.types(), Body: c.body()})
		case 11:
			m.Data = append(m.Data, api.Data{Mem: c.number(), At: c.number(), Bytes: c.take(c.number())})
		}
	}
	return (&pen{}).section(of, *into) == b
}

// cursor panics where there is nothing more to read, or what is read is too great.
type cursor struct{ b string }

func (c *cursor) take(n int) string {
	b := c.b[:n]
	c.b = c.b[n:]
	return b
}

func (c *cursor) octet() int { return int(c.take(1)[0]) }

// bits joins seven bits a byte, of at most ten bytes, and tells how many bits these are.
func (c *cursor) bits() (n, size int) {
	for ; size < 70; size += 7 {
		x := c.octet()
		n |= x & 127 << size
		if x < 128 {
			return n, size + 7
		}
	}
	panic("a number without an end")
}

func (c *cursor) number() int {
	n, _ := c.bits()
	if n < 0 || n > 0xffffffff {
		panic("a number of too many bits")
	}
	return n
}

func (c *cursor) global() api.Global {
	t := c.oneType()
	v, size := c.bits()
	if size < 64 && v>>(size-1) == 1 {
		v -= 1 << size
	}
	if t == api.I32 || t == api.S32 {
		if v != int(int32(v)) {
			panic("a number of too many bits")
		}
		v &= 0xffffffff
	}
	return api.Global{T: t, V: v}
}

func (c *cursor) oneType() int {
	t, ok := map[int]int{0x7f: api.I32, 0x7e: api.I64, 0x7d: api.S32, 0x7c: api.S64}[c.octet()]
	if !ok {
		panic("no type")
	}
	return t
}

func (c *cursor) types() []int {
	var out []int
	for range c.number() {
		out = append(out, c.oneType())
	}
	return out
}

func (c *cursor) body() []api.Instr {
	var out []api.Instr
	b := c.take(c.number())
	for b != "" {
		x, rest, e := inst.Take(b)
		if e != api.OK {
			panic("no instruction")
		}
		out, b = append(out, x), rest
	}
	return out
}
