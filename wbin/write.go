package wbin

import (
	"strings"

	"oubliette/api"
	"oubliette/inst"
	"oubliette/label"
	"oubliette/leb"
)

// sections are the bytes behind the head, of a module that fits.
func sections(m api.Module) string {
	var mems []int
	if m.Mems != [2]int{} {
		mems = m.Mems[:]
	}
	return section(sigSection, m.Sigs, sigBytes) +
		section(importSection, m.Imports, number) +
		section(funcSection, m.Funcs, funcBytes) +
		section(memSection, mems, oneByte) +
		section(globalSection, m.Globals, globalBytes) +
		section(codeSection, m.Funcs, codeBytes) +
		section(dataSection, m.Data, datumBytes)
}

// section is empty, if there are no things.
func section[T any](of int, things []T, bytes func(T) string) string {
	if len(things) == 0 {
		return ""
	}
	return oneByte(of) + counted(list(things, bytes))
}

// list is how many things there are, and these.
func list[T any](things []T, bytes func(T) string) string {
	var out strings.Builder
	out.WriteString(number(len(things)))
	for _, x := range things {
		out.WriteString(bytes(x))
	}
	return out.String()
}

// counted is how many bytes there are, and these.
func counted(b string) string { return number(len(b)) + b }

// number is for what is not below 0: U has no error for it.
func number(n int) string {
	b, _ := leb.U(n)
	return b
}

func oneByte(n int) string { return string([]byte{byte(n)}) }

func typeByte(t int) string { return oneByte(firstType - t) }

func sigBytes(s api.Sig) string {
	return list(s.Params, typeByte) + list(s.Results, typeByte)
}

func funcBytes(f api.Func) string {
	trusted := 0
	if f.Trusted {
		trusted = 1
	}
	return number(f.Sig) + oneByte(trusted)
}

func globalBytes(g api.Global) string {
	v := g.V
	if !label.Wide(g.T) {
		v = int(int32(v))
	}
	return typeByte(g.T) + leb.S(v)
}

func codeBytes(f api.Func) string {
	// All instructions of a module that fits are right: Body has no error for these.
	body, _ := inst.Body(f.Body)
	return list(f.Locals, typeByte) + counted(body)
}

func datumBytes(d api.Data) string {
	return number(d.Mem) + number(d.At) + counted(d.Bytes)
}
