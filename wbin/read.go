package wbin

import (
	"strings"

	"oubliette/api"
	"oubliette/inst"
	"oubliette/label"
	"oubliette/leb"
)

// read is the module that b tells, whether it fits or not.
func read(b string) (api.Module, error) {
	if len(b) > api.MaxModule {
		return api.Module{}, fault(api.ErrLimit, 0)
	}
	rest, ok := strings.CutPrefix(b, head)
	if !ok {
		return api.Module{}, fault(api.ErrMalformed, 0)
	}
	var p parts
	r := reader{rest: rest}
	for r.rest != "" {
		place := len(b) - len(r.rest)
		if err := p.next(&r); err != nil {
			return api.Module{}, fault(kind(err), place)
		}
	}
	return p.joined()
}

// parts are what was read so far. A function's code is kept apart until all is read: there may be more or less of it than functions.
type parts struct {
	module api.Module
	codes  []api.Func
	last   int
}

// next reads a whole section. Its error has no place: only who goes through all bytes knows it.
func (p *parts) next(r *reader) error {
	of := r.oneByte()
	inside := reader{rest: r.counted()}
	if of <= p.last {
		r.fail()
	}
	p.last = of
	if r.err != nil {
		return r.err
	}
	p.fill(of, &inside)
	if inside.rest != "" {
		inside.fail()
	}
	return inside.err
}

// fill reads the things of a section.
func (p *parts) fill(of int, r *reader) {
	switch of {
	case sigSection:
		p.module.Sigs = some(r, (*reader).sig)
	case importSection:
		p.module.Imports = some(r, (*reader).number)
	case funcSection:
		p.module.Funcs = some(r, (*reader).function)
	case memSection:
		p.module.Mems = r.mems()
	case globalSection:
		p.module.Globals = some(r, (*reader).global)
	case codeSection:
		p.codes = some(r, (*reader).code)
	case dataSection:
		p.module.Data = some(r, (*reader).datum)
	default:
		r.fail()
	}
}

// joined is the module, each function with its code.
func (p *parts) joined() (api.Module, error) {
	m := p.module
	if len(p.codes) != len(m.Funcs) {
		return api.Module{}, fault(api.ErrMalformed, 0)
	}
	for i, c := range p.codes {
		m.Funcs[i].Locals, m.Funcs[i].Body = c.Locals, c.Body
	}
	return m, nil
}

// reader takes one thing behind the other. Once one is not there it has an error and no rest, and all that it takes is nothing.
type reader struct {
	rest string
	err  error
}

func (r *reader) fail() { r.rest, r.err = "", fault(api.ErrMalformed, 0) }

// settle goes on behind what another layer took, if it took something.
func (r *reader) settle(rest string, e api.Errno) {
	if e != api.OK {
		r.fail()
		return
	}
	r.rest = rest
}

// number is one without a sign.
func (r *reader) number() int {
	n, rest, e := leb.TakeU(r.rest, indexBits)
	r.settle(rest, e)
	return n
}

func (r *reader) signed(bits int) int {
	n, rest, e := leb.TakeS(r.rest, bits)
	r.settle(rest, e)
	return n
}

func (r *reader) instr() api.Instr {
	x, rest, e := inst.Take(r.rest)
	r.settle(rest, e)
	return x
}

// bytes are the next n.
func (r *reader) bytes(n int) string {
	if n > len(r.rest) {
		r.fail()
		return ""
	}
	b := r.rest[:n]
	r.rest = r.rest[n:]
	return b
}

// counted are as many bytes as the number ahead of them says.
func (r *reader) counted() string { return r.bytes(r.number()) }

// oneByte is 0 where there is none.
func (r *reader) oneByte() int {
	b := r.bytes(1)
	if b == "" {
		return 0
	}
	return int(b[0])
}

func (r *reader) oneType() int {
	t := firstType - r.oneByte()
	if !label.Right(t) {
		r.fail()
	}
	return t
}

// many are as many things as the number ahead of them says.
func many[T any](r *reader, one func(*reader) T) []T {
	var out []T
	for range r.number() {
		// The number may be far greater than what there is to read.
		if r.err != nil {
			break
		}
		out = append(out, one(r))
	}
	return out
}

// some are many, at least one: nothing at all is not written.
func some[T any](r *reader, one func(*reader) T) []T {
	out := many(r, one)
	if len(out) == 0 {
		r.fail()
	}
	return out
}

func (r *reader) sig() api.Sig {
	params := many(r, (*reader).oneType)
	return api.Sig{Params: params, Results: many(r, (*reader).oneType)}
}

// function is one without its code.
func (r *reader) function() api.Func {
	sig, trusted := r.number(), r.oneByte()
	if trusted > 1 {
		r.fail()
	}
	return api.Func{Sig: sig, Trusted: trusted == 1}
}

func (r *reader) mems() [2]int {
	l := many(r, (*reader).oneByte)
	if len(l) != 2 || l[0] == 0 && l[1] == 0 {
		r.fail()
		return [2]int{}
	}
	return [2]int{l[0], l[1]}
}

func (r *reader) global() api.Global {
	t := r.oneType()
	if label.Wide(t) {
		return api.Global{T: t, V: r.signed(64)}
	}
	return api.Global{T: t, V: int(uint32(r.signed(32)))}
}

// code is a function of which only its code is told.
func (r *reader) code() api.Func {
	locals := many(r, (*reader).oneType)
	inside := reader{rest: r.counted()}
	var body []api.Instr
	for inside.rest != "" {
		body = append(body, inside.instr())
	}
	if inside.err != nil {
		r.fail()
	}
	return api.Func{Locals: locals, Body: body}
}

func (r *reader) datum() api.Data {
	mem, at := r.number(), r.number()
	// A copy, so that a module does not keep all the bytes that it was read from.
	return api.Data{Mem: mem, At: at, Bytes: strings.Clone(r.counted())}
}
