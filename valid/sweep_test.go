package valid_test

import (
	"math/rand/v2"
	"slices"
	"testing"

	"oubliette/api"
)

// holdAgainst holds what is told of m against the reading by letters.
func holdAgainst(t *testing.T, m api.Module) {
	t.Helper()
	if got, want := verdictFrom(m), verdictOf(m); !alike(got, want) {
		t.Fatalf("%+v\ntold: %+v\nwant: %+v", m, got, want)
	}
}

// TestAllShort holds every body of a few instructions, as far as nothing ahead of its end is broken already.
func TestAllShort(t *testing.T) {
	some := body("I32Const 1, I64Const 1, Classify, Declassify, Select, Drop, Unreachable, Block, Block I32, Loop, Loop I32, If, If S32, Else, End, Br 0, Br 1, BrIf 0, BrIf 1, Return, I32Add, I64Eqz, LocalTee 0")
	for _, results := range [][]int{nil, {api.S32}} {
		m := api.Module{Sigs: []api.Sig{{Results: results}}, Funcs: []api.Func{{Trusted: results == nil, Locals: []int{api.I32}}}}
		var longer func(l []api.Instr, n int)
		longer = func(l []api.Instr, n int) {
			m.Funcs[0].Body = closing(l)
			holdAgainst(t, m)
			if v := verdictOf(m); n == 0 || v.code != api.OK && v.at < len(l) {
				return
			}
			for _, x := range some {
				longer(append(l, x), n-1)
			}
		}
		longer(nil, 4)
	}
}

func pick[T any](r *rand.Rand, l ...T) T { return l[r.IntN(len(l))] }

// someTypes is a list of up to n types.
func someTypes(r *rand.Rand, n int) []int {
	l := make([]int, r.IntN(n+1))
	for i := range l {
		l[i] = r.IntN(4)
	}
	return l
}

// someModule is a module without bodies.
func someModule(r *rand.Rand) (m api.Module) {
	for range 1 + r.IntN(4) {
		m.Sigs = append(m.Sigs, api.Sig{Params: someTypes(r, 4), Results: someTypes(r, 1)})
	}
	for range r.IntN(4) {
		m.Imports = append(m.Imports, r.IntN(len(m.Sigs)))
	}
	for range 1 + r.IntN(3) {
		m.Funcs = append(m.Funcs, api.Func{Sig: r.IntN(len(m.Sigs)), Trusted: r.IntN(2) == 0, Locals: someTypes(r, 6), Body: closing(body("Unreachable"))})
	}
	m.Mems = [2]int{pick(r, 0, 3, 4, 12), pick(r, 0, 3, 4, 12)}
	for _, t := range someTypes(r, 6) {
		m.Globals = append(m.Globals, api.Global{T: t, V: r.IntN(100)})
	}
	for mem, size := range m.Mems {
		if size > 0 && r.IntN(2) == 0 {
			m.Data = append(m.Data, api.Data{Mem: mem, At: r.IntN(5), Bytes: "dat"})
		}
	}
	return m
}

// someInstrs are instructions for the bodies of m, the most of which may stand somewhere.
func someInstrs(r *rand.Rand, m api.Module) []api.Instr {
	l := body("Nop, Drop, Drop, Drop, Select, Select, I32Const 1, I32Const 2, I64Const 3, Classify, Declassify, Else, Else, Else, End, End, End, Unreachable, Return, Br 0, Br 1, Br 2, BrIf 0, BrIf 1, BrIf 2, I32Add, I64Add, I32DivU, I64DivS, I32Eqz, I64Eqz, I32Wrap, I64ExtendU")
	for range 12 {
		l = append(l, api.Instr{Op: pick(r, api.LocalGet, api.LocalGet, api.LocalSet, api.LocalTee), N: r.IntN(9)})
		l = append(l, api.Instr{Op: pick(r, api.GlobalGet, api.GlobalSet), N: r.IntN(len(m.Globals) + 1)})
		l = append(l, api.Instr{Op: pick(r, api.I32Load, api.I64Load, api.I32Store, api.I64Store), N: r.IntN(20), M: r.IntN(2)})
	}
	for range 6 {
		l = append(l, api.Instr{Op: pick(r, api.Block, api.Loop, api.If), M: r.IntN(5)})
		l = append(l, api.Instr{Op: api.Call, N: r.IntN(len(m.Imports) + len(m.Funcs) + 1)})
		l = append(l, api.Instr{Op: api.I32Eqz + r.IntN(api.I64GeU-api.I32Eqz+1)}, api.Instr{Op: api.I32Add + r.IntN(api.I32Rotr-api.I32Add+1)}, api.Instr{Op: api.I64Add + r.IntN(api.I64Rotr-api.I64Add+1)})
	}
	return l
}

// TestByChance holds modules of several functions, and each again with one instruction changed, left out or put in.
func TestByChance(t *testing.T) {
	r := rand.New(rand.NewPCG(7, 1))
	fine, broken, crowd := 0, 0, 0
	for range 180 {
		m := someModule(r)
		for f := range m.Funcs {
			some := someInstrs(r, m)
			m.Funcs[f].Body = grow(r, 8+r.IntN(40), some, func(l []api.Instr) bool {
				m.Funcs[f].Body = closing(l)
				v := verdictOf(m)
				return v.code == api.OK || v.at >= 1000*f+len(l)
			})
			holdAgainst(t, m)
		}
		for range 20 {
			f := r.IntN(len(m.Funcs))
			kept := m.Funcs[f].Body
			at := r.IntN(len(kept))
			some := []api.Instr{pick(r, someInstrs(r, m)...)}
			m.Funcs[f].Body = slices.Replace(slices.Clone(kept), at, at+r.IntN(2), some[:r.IntN(2)]...)
			holdAgainst(t, m)
			switch verdictOf(m).code {
			case api.OK:
				fine++
			case api.ErrInvalid:
				broken++
			default:
				crowd++
			}
			m.Funcs[f].Body = kept
		}
	}
	// Bodies that are all of one sort would hold nothing.
	if fine < 500 || broken < 500 {
		t.Error("fine, broken, crowded:", fine, broken, crowd)
	}
}
