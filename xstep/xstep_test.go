package xstep_test

import (
	"math"
	"slices"
	"strings"
	"testing"

	"oubliette/api"
	"oubliette/xcode"
	"oubliette/xstep"
)

const (
	codeAt  = 100
	dataAt  = 1000
	stackAt = 1032 // the machine's register 4, in the middle of its data
)

// counted is n bytes that tell their places: 01, 02 and so on.
func counted(n int) string {
	out := make([]byte, n)
	for i := range out {
		out[i] = byte(i + 1)
	}
	return string(out)
}

func codeOf(t *testing.T, l ...api.X) string {
	t.Helper()
	code, e := xcode.All(l)
	if e != api.OK {
		t.Fatalf("All(%+v): %d", l, e)
	}
	return code
}

// machine stands at l, and has 64 bytes of data.
func machine(t *testing.T, l ...api.X) api.Machine {
	t.Helper()
	m := api.Machine{At: codeAt, Regions: []api.Region{{At: codeAt, Bytes: codeOf(t, l...), Code: true}, {At: dataAt, Bytes: counted(64)}}}
	m.Regs[4] = stackAt
	return m
}

func same(a, b api.Machine) bool {
	return a.Regs == b.Regs && a.Flags == b.Flags && a.At == b.At && a.Status == b.Status && slices.Equal(a.Regions, b.Regions)
}

// twin is m, in memory of its own.
func twin(m api.Machine) api.Machine {
	m.Regions = slices.Clone(m.Regions)
	for i, r := range m.Regions {
		m.Regions[i].Bytes = strings.Clone(r.Bytes)
	}
	return m
}

func holdRead(t *testing.T, m api.Machine, at, n, want int) {
	t.Helper()
	if v, ok := xstep.Read(m, at, n); v != want || !ok {
		t.Errorf("Read(%d, %d) = %x, %v; want %x", at, n, v, ok, want)
	}
}

// closed holds that nothing of n bytes is read or written at an address.
func closed(t *testing.T, m api.Machine, at, n int) {
	t.Helper()
	if v, ok := xstep.Read(m, at, n); v != 0 || ok {
		t.Errorf("Read(%d, %d) = %x, %v; want 0, false", at, n, v, ok)
	}
	was := twin(m)
	if got, ok := xstep.Put(m, at, n, -1); ok || !same(got, was) {
		t.Errorf("Put(%d, %d) = %+v, %v; want it as it was, false", at, n, got, ok)
	}
}

// holdStep holds what a step becomes, and that nothing else is changed by it.
func holdStep(t *testing.T, m, want api.Machine, leak api.Leak) {
	t.Helper()
	was := twin(m)
	got, l := xstep.Step(m)
	if !same(got, want) {
		t.Errorf("Step: %+v;\nwant %+v", got, want)
	}
	if l != leak {
		t.Errorf("the leak is %+v; want %+v", l, leak)
	}
	if !same(m, was) {
		t.Errorf("what was handed in is %+v; was %+v", m, was)
	}
}

// P12.1

func TestReadKnownBytes(t *testing.T) {
	m := machine(t)
	holdRead(t, m, 1000, 4, 0x04030201)
	holdRead(t, m, 1000, 8, 0x0807060504030201)
	holdRead(t, m, 1013, 4, 0x11100f0e)
	holdRead(t, m, 1060, 4, 0x403f3e3d)
	holdRead(t, m, 1056, 8, 0x403f3e3d3c3b3a39)
	m.Regions[1].Bytes = "\xff\xff\xff\xff\xff\xff\xff\xff\x00\x00\x00\x80"
	holdRead(t, m, 1000, 4, math.MaxUint32)
	holdRead(t, m, 1000, 8, -1)
	holdRead(t, m, 1008, 4, 1<<31)
	holdRead(t, m, 1004, 8, math.MinInt+math.MaxUint32)
}

func TestPutKnownBytes(t *testing.T) {
	m := api.Machine{Regions: []api.Region{{At: 50, Bytes: "before", Code: true}, {At: dataAt, Bytes: "0123456789ab"}, {At: 2000, Bytes: "behind it"}}}
	m.Regs, m.Flags, m.At, m.Status = [16]int{7, 8, 9}, api.Flags{Z: true, O: true}, 77, api.Asks
	for _, c := range []struct {
		at, n, v int
		want     string
	}{
		{1000, 4, 0x44434241, "ABCD456789ab"},
		{1003, 4, 0x44434241, "012ABCD789ab"},
		{1008, 4, 0x44434241, "01234567ABCD"},
		{1004, 8, 0x4847464544434241, "0123ABCDEFGH"},
		{1000, 8, -1, "\xff\xff\xff\xff\xff\xff\xff\xff89ab"},
		{1000, 4, -1, "\xff\xff\xff\xff456789ab"},
		{1000, 4, 0x7766554444434241, "ABCD456789ab"},
		{1000, 8, math.MinInt, "\x00\x00\x00\x00\x00\x00\x00\x8089ab"},
	} {
		want := twin(m)
		want.Regions[1].Bytes = c.want
		if got, ok := xstep.Put(m, c.at, c.n, c.v); !ok || !same(got, want) {
			t.Errorf("Put(%d, %d, %x) = %+v, %v; want %+v", c.at, c.n, c.v, got, ok, want)
		}
	}
}

func TestWhatLiesInNoRegionIsNotReadOrWritten(t *testing.T) {
	m := machine(t, api.X{Op: api.XMovI, Wide: true, N: 9}, api.X{Op: api.XHlt})
	for _, n := range []int{4, 8} {
		for _, at := range []int{999, 1000 - n, 1065 - n, 1064, 1065, 0, -1, -1000, 1000 + 1<<32, 1<<31 + 1000, math.MaxInt, math.MaxInt - n, math.MinInt, math.MinInt + 1000} {
			closed(t, m, at, n)
		}
		// Code is neither read nor written.
		for at := codeAt - n; at <= codeAt+12; at++ {
			closed(t, m, at, n)
		}
	}
	closed(t, api.Machine{}, 0, 8)
	closed(t, api.Machine{Regions: []api.Region{{}}}, 0, 4)
	closed(t, api.Machine{Regions: []api.Region{{Bytes: "abc"}}}, 0, 4)
	closed(t, api.Machine{Regions: []api.Region{{Bytes: "abcdefg"}}}, 0, 8)
}

func TestOtherSizesAreNotReadOrWritten(t *testing.T) {
	m := machine(t)
	for _, n := range []int{-8, -4, -1, 0, 1, 2, 3, 5, 6, 7, 9, 12, 16, 64, 1<<32 + 4, 1<<32 + 8, math.MaxInt, math.MinInt, math.MinInt + 8} {
		for _, at := range []int{1000, 1008, 1064, 0, math.MaxInt, math.MinInt} {
			closed(t, m, at, n)
		}
	}
}

func TestOfSeveralRegionsTheFirstCounts(t *testing.T) {
	m := api.Machine{Regions: []api.Region{
		{At: 96, Bytes: "codecodecode", Code: true}, // 96 to 107
		{At: 100, Bytes: "aaaaaa"},                  // 100 to 105
		{At: 98, Bytes: "bbbbbbbbbb"},               // 98 to 107
		{At: 98, Bytes: "cccccccccccc"},             // 98 to 109
	}}
	holdRead(t, m, 100, 4, 0x61616161)
	holdRead(t, m, 102, 4, 0x61616161)
	holdRead(t, m, 103, 4, 0x62626262)
	holdRead(t, m, 99, 4, 0x62626262)
	holdRead(t, m, 100, 8, 0x6262626262626262)
	holdRead(t, m, 101, 8, 0x6363636363636363)
	holdRead(t, m, 106, 4, 0x63636363)
	closed(t, m, 97, 4)
	closed(t, m, 107, 4)
	for at, want := range map[int]int{100: 1, 103: 2, 106: 3} {
		got, ok := xstep.Put(m, at, 4, 0x78787878)
		for i, r := range got.Regions {
			if r.At != m.Regions[i].At || r.Code != m.Regions[i].Code || strings.Contains(r.Bytes, "xxxx") != (i == want) || len(r.Bytes) != len(m.Regions[i].Bytes) {
				t.Errorf("Put at %d, %v: region %d is %+v", at, ok, i, r)
			}
		}
	}
}

func TestBytesInTwoRegionsLieInNone(t *testing.T) {
	m := api.Machine{Regions: []api.Region{{At: 16, Bytes: "01234567"}, {At: 24, Bytes: "89abcdef"}}}
	for at := 21; at <= 23; at++ {
		closed(t, m, at, 4)
		closed(t, m, at, 8)
	}
	holdRead(t, m, 20, 4, 0x37363534)
	holdRead(t, m, 24, 8, 0x6665646362613938)
}

func TestRegionsAtTheEndsOfAllNumbers(t *testing.T) {
	m := api.Machine{Regions: []api.Region{{At: math.MaxInt - 5, Bytes: counted(16)}, {At: math.MinInt, Bytes: "abcdefghi"}, {At: -4, Bytes: "01234567"}}}
	holdRead(t, m, math.MaxInt-5, 8, 0x0807060504030201)
	// The bytes from the greatest number on lie within the region, and count as standing behind it.
	holdRead(t, m, math.MaxInt, 8, 0x0d0c0b0a09080706)
	holdRead(t, m, math.MaxInt, 4, 0x09080706)
	closed(t, m, math.MaxInt-6, 4)
	holdRead(t, m, math.MinInt, 8, 0x6867666564636261)
	holdRead(t, m, math.MinInt+1, 8, 0x6968676665646362)
	holdRead(t, m, math.MinInt+5, 4, 0x69686766)
	closed(t, m, math.MinInt+2, 8)
	closed(t, m, math.MinInt+6, 4)
	holdRead(t, m, -4, 8, 0x3736353433323130)
	holdRead(t, m, -2, 4, 0x35343332)
	closed(t, m, -5, 4)
	closed(t, m, -3, 8)
	// Less a region's place these would come round to within it.
	closed(t, api.Machine{Regions: []api.Region{{At: math.MaxInt, Bytes: counted(64)}}}, math.MinInt, 4)
	closed(t, api.Machine{Regions: []api.Region{{At: math.MaxInt - 5, Bytes: counted(64)}}}, math.MinInt+7, 8)
	closed(t, api.Machine{Regions: []api.Region{{At: math.MinInt, Bytes: counted(64)}}}, math.MaxInt, 4)
	closed(t, api.Machine{Regions: []api.Region{{At: math.MinInt, Bytes: counted(64)}}}, 0, 4)
	closed(t, api.Machine{Regions: []api.Region{{At: 1, Bytes: counted(64)}}}, math.MinInt, 4)
}

func TestWhatWasPutIsRead(t *testing.T) {
	m := machine(t)
	for at := 1000; at <= 1056; at++ {
		for _, n := range []int{4, 8} {
			for _, v := range []int{0, 1, -1, 0x0123456789abcdef, math.MinInt, 1 << 31, math.MaxUint32} {
				got, ok := xstep.Put(m, at, n, v)
				if !ok {
					t.Fatalf("Put(%d, %d): false", at, n)
				}
				holdRead(t, got, at, n, kept(n == 8, v))
				was, is := m.Regions[1].Bytes, got.Regions[1].Bytes
				if len(is) != len(was) || is[:at-1000] != was[:at-1000] || is[at-1000+n:] != was[at-1000+n:] {
					t.Errorf("Put(%d, %d) changed what lies beside: %x", at, n, is)
				}
			}
		}
	}
}

func TestReadAndPutInAnyStatus(t *testing.T) {
	m := machine(t)
	for status := -1; status <= 7; status++ {
		m.Status = status
		holdRead(t, m, 1000, 4, 0x04030201)
		got, ok := xstep.Put(m, 1000, 4, 5)
		if got.Status != status || !ok {
			t.Errorf("Put in status %d: %d, %v", status, got.Status, ok)
		}
	}
}

// P12.2

type stepCase struct {
	x    api.X
	set  func(m *api.Machine)
	want func(m *api.Machine) // what it becomes beside At, from what set made
}

func regs(pairs ...int) func(m *api.Machine) {
	return func(m *api.Machine) {
		for i := 0; i < len(pairs); i += 2 {
			m.Regs[pairs[i]] = pairs[i+1]
		}
	}
}

func flagged(f api.Flags, pairs ...int) func(m *api.Machine) {
	return func(m *api.Machine) {
		m.Flags = f
		regs(pairs...)(m)
	}
}

// wideNumber has other bits in each byte, and 1 on top of both halves.
const wideNumber = -0x0123456776543211 // FEDCBA98 89ABCDEF

const upperHalf = -0x0123456800000000 // FEDCBA98 00000000

func allFlags() api.Flags { return api.Flags{Z: true, S: true, C: true, O: true} }

// stepCases are put down by hand; the flags are all set ahead of those that say nothing of them.
func stepCases() map[string]stepCase {
	none, all := api.Flags{}, allFlags()
	return map[string]stepCase{
		"mov wide":           {api.X{Op: api.XMov, Wide: true, R: 3, B: 9}, flagged(all, 3, wideNumber, 9, 5), regs(9, wideNumber)},
		"mov":                {api.X{Op: api.XMov, R: 3, B: 9}, flagged(all, 3, wideNumber, 9, -1), regs(9, 0x89abcdef)},
		"mov to itself":      {api.X{Op: api.XMov, R: 3, B: 3}, flagged(all, 3, wideNumber), regs(3, 0x89abcdef)},
		"movi":               {api.X{Op: api.XMovI, Wide: true, R: 15, N: wideNumber}, flagged(all, 15, 5), regs(15, wideNumber)},
		"widen below 0":      {api.X{Op: api.XWiden, Wide: true, R: 3, B: 9}, flagged(all, 9, 0x1280000000), regs(3, -1<<31)},
		"widen":              {api.X{Op: api.XWiden, Wide: true, R: 3, B: 9}, flagged(all, 9, -1<<32+0x7fffffff, 3, -1), regs(3, 0x7fffffff)},
		"add":                {api.X{Op: api.XAlu, C: api.Add, R: 3, B: 9}, regs(3, 1, 9, -1<<32+math.MaxUint32), flagged(api.Flags{Z: true, C: true}, 9, 0)},
		"add wide":           {api.X{Op: api.XAlu, C: api.Add, Wide: true, R: 3, B: 9}, flagged(all, 3, 1, 9, math.MaxInt), flagged(api.Flags{S: true, O: true}, 9, math.MinInt)},
		"sub":                {api.X{Op: api.XAlu, C: api.Sub, R: 3, B: 9}, regs(3, 1, 9, -1<<32), flagged(api.Flags{S: true, C: true}, 9, math.MaxUint32)},
		"sub is B less R":    {api.X{Op: api.XAlu, C: api.Sub, Wide: true, R: 3, B: 9}, flagged(all, 3, 4, 9, 10), flagged(none, 9, 6)},
		"and":                {api.X{Op: api.XAlu, C: api.And, R: 3, B: 9}, flagged(all, 3, wideNumber, 9, -1<<16), flagged(api.Flags{S: true}, 9, 0x89ab0000)},
		"or":                 {api.X{Op: api.XAlu, C: api.Or, R: 3, B: 9}, flagged(all, 3, upperHalf, 9, upperHalf+1), flagged(none, 9, 1)},
		"xor with itself":    {api.X{Op: api.XAlu, C: api.Xor, Wide: true, R: 9, B: 9}, flagged(all, 9, wideNumber), flagged(api.Flags{Z: true}, 9, 0)},
		"cmp":                {api.X{Op: api.XAlu, C: api.Cmp, R: 3, B: 9}, regs(3, 7, 9, upperHalf+7), flagged(api.Flags{Z: true})},
		"cmp wide":           {api.X{Op: api.XAlu, C: api.Cmp, Wide: true, R: 3, B: 9}, regs(3, 7, 9, upperHalf+7), flagged(api.Flags{S: true})},
		"addi of -1":         {api.X{Op: api.XAluI, C: api.Add, B: 9, N: -1}, regs(9, 1), flagged(api.Flags{Z: true, C: true}, 9, 0)},
		"addi of -1 wide":    {api.X{Op: api.XAluI, C: api.Add, Wide: true, B: 9, N: -1}, regs(9, 1<<40), flagged(api.Flags{C: true}, 9, 1<<40-1)},
		"andi of -16 wide":   {api.X{Op: api.XAluI, C: api.And, Wide: true, B: 9, N: -16}, flagged(all, 9, wideNumber), flagged(api.Flags{S: true}, 9, wideNumber&^15)},
		"andi of -16":        {api.X{Op: api.XAluI, C: api.And, B: 9, N: -16}, flagged(all, 9, wideNumber), flagged(api.Flags{S: true}, 9, 0x89abcde0)},
		"subi":               {api.X{Op: api.XAluI, C: api.Sub, Wide: true, B: 4, N: 16}, regs(4, 1000), flagged(none, 4, 984)},
		"cmpi of -1":         {api.X{Op: api.XAluI, C: api.Cmp, B: 9, N: -1}, regs(9, math.MaxUint32), flagged(api.Flags{Z: true})},
		"cmpi of -1 wide":    {api.X{Op: api.XAluI, C: api.Cmp, Wide: true, B: 9, N: -1}, regs(9, math.MaxUint32), flagged(api.Flags{C: true})},
		"test":               {api.X{Op: api.XTest, R: 3, B: 9}, flagged(all, 3, upperHalf, 9, -1), flagged(api.Flags{Z: true})},
		"test wide":          {api.X{Op: api.XTest, Wide: true, R: 3, B: 9}, flagged(all, 3, upperHalf, 9, -1), flagged(api.Flags{S: true})},
		"mul":                {api.X{Op: api.XMul, R: 3, B: 9}, flagged(all, 3, math.MaxUint32, 9, math.MaxUint32), flagged(none, 3, 1)},
		"mul to nought":      {api.X{Op: api.XMul, R: 3, B: 9}, flagged(all, 3, 1<<16, 9, 1<<16), flagged(none, 3, 0)},
		"mul wide":           {api.X{Op: api.XMul, Wide: true, R: 3, B: 9}, flagged(all, 3, 1<<40+3, 9, 1<<30), flagged(none, 3, 3<<30)},
		"shl":                {api.X{Op: api.XShift, C: api.Shl, B: 9}, flagged(all, 9, -1<<32+0x81, 1, 33), flagged(none, 9, 0x102)},
		"shl wide":           {api.X{Op: api.XShift, C: api.Shl, Wide: true, B: 9}, flagged(all, 9, 0x81, 1, 33), flagged(none, 9, 0x81<<33)},
		"shr":                {api.X{Op: api.XShift, C: api.Shr, B: 9}, flagged(all, 9, wideNumber, 1, 4), flagged(none, 9, 0x089abcde)},
		"sar":                {api.X{Op: api.XShift, C: api.Sar, B: 9}, flagged(all, 9, wideNumber, 1, 4), flagged(none, 9, 0xf89abcde)},
		"rol":                {api.X{Op: api.XShift, C: api.Rol, B: 9}, flagged(all, 9, wideNumber, 1, 4), flagged(none, 9, 0x9abcdef8)},
		"ror":                {api.X{Op: api.XShift, C: api.Ror, B: 9}, flagged(all, 9, wideNumber, 1, 4), flagged(none, 9, 0xf89abcde)},
		"a shift by nothing": {api.X{Op: api.XShift, C: api.Ror, B: 9}, flagged(all, 9, wideNumber, 1, 64), flagged(none, 9, 0x89abcdef)},
		"a shift by itself":  {api.X{Op: api.XShift, C: api.Shl, Wide: true, B: 1}, flagged(all, 1, 3), flagged(none, 1, 24)},
		"sign below 0":       {api.X{Op: api.XSign}, flagged(all, 0, 1<<31, 2, 7), regs(2, math.MaxUint32)},
		"sign":               {api.X{Op: api.XSign}, flagged(all, 0, -1<<32+1<<31-1, 2, 7), regs(2, 0)},
		"sign below 0, wide": {api.X{Op: api.XSign, Wide: true}, flagged(all, 0, math.MinInt, 2, 7), regs(2, -1)},
		"sign wide":          {api.X{Op: api.XSign, Wide: true}, flagged(all, 0, 1<<31, 2, 7), regs(2, 0)},
		"set":                {api.X{Op: api.XSet, C: api.CE}, flagged(all, 0, wideNumber), regs(0, wideNumber&^255+1)},
		"set to nought":      {api.X{Op: api.XSet, C: api.CNE}, flagged(all, 0, wideNumber), regs(0, wideNumber&^255)},
		"byte":               {api.X{Op: api.XByte}, flagged(all, 0, wideNumber), regs(0, 0xef)},
		"cmov":               {api.X{Op: api.XCmov, C: api.CE, R: 3, B: 9}, flagged(all, 3, 5, 9, wideNumber), regs(3, 0x89abcdef)},
		"cmov wide":          {api.X{Op: api.XCmov, C: api.CE, Wide: true, R: 3, B: 9}, flagged(all, 3, 5, 9, wideNumber), regs(3, wideNumber)},
		"cmov of none":       {api.X{Op: api.XCmov, C: api.CNE, R: 3, B: 9}, flagged(all, 3, wideNumber, 9, 5), regs(3, 0x89abcdef)},
		"cmov of none, wide": {api.X{Op: api.XCmov, C: api.CNE, Wide: true, R: 3, B: 9}, flagged(all, 3, wideNumber, 9, 5), regs(3, wideNumber)},
		"jmp":                {api.X{Op: api.XJmp, N: 50}, flagged(all), func(m *api.Machine) { m.At += 50 }},
		"jmp back":           {api.X{Op: api.XJmp, N: -5}, flagged(all), func(m *api.Machine) { m.At -= 5 }},
		"jmp far":            {api.X{Op: api.XJmp, N: math.MinInt32}, flagged(all), func(m *api.Machine) { m.At -= 1 << 31 }},
		"jcc":                {api.X{Op: api.XJcc, C: api.CE, N: 50}, flagged(all), func(m *api.Machine) { m.At += 50 }},
		"jcc of none":        {api.X{Op: api.XJcc, C: api.CNE, N: 50}, flagged(all), func(m *api.Machine) {}},
		"hlt":                {api.X{Op: api.XHlt}, flagged(all), func(m *api.Machine) { m.Status = api.Halted }},
		"stop":               {api.X{Op: api.XStop}, flagged(all), func(m *api.Machine) { m.Status = api.Stopped }},
		"host":               {api.X{Op: api.XHost}, flagged(all), func(m *api.Machine) { m.Status = api.Asks }},
	}
}

func TestStepsThatAreSeenByTheirPlaceAlone(t *testing.T) {
	for name, c := range stepCases() {
		t.Run(name, func(t *testing.T) {
			m := machine(t, c.x, api.X{Op: api.XRet})
			c.set(&m)
			want := twin(m)
			want.At += len(want.Regions[0].Bytes) - 1
			c.want(&want)
			holdStep(t, m, want, api.Leak{At: codeAt, Addr: -1})
		})
	}
}

func TestConditionsByAllFlags(t *testing.T) {
	for cond := range 16 {
		for n := range 16 {
			f := api.Flags{Z: n&8 != 0, S: n&4 != 0, C: n&2 != 0, O: n&1 != 0}
			for _, x := range []api.X{{Op: api.XJcc, C: cond, N: -40}, {Op: api.XSet, C: cond}, {Op: api.XCmov, C: cond, R: 0, B: 1}} {
				if !xcode.Right(x) {
					continue
				}
				m := machine(t, x)
				flagged(f, 0, 0x1177, 1, -9)(&m)
				want, leak := stepped(m)
				holdStep(t, m, want, leak)
			}
		}
	}
}

func TestDivisions(t *testing.T) {
	for name, c := range map[string]struct {
		x             api.X
		high, low, by int
		quot, rest    int
		num, den      int
	}{
		"div":              {api.X{Op: api.XDiv, B: 7}, 0, -1<<32 + 17, -1<<32 + 5, 3, 2, 17, 5},
		"div of both":      {api.X{Op: api.XDiv, B: 7}, 1, 0, 2, 1 << 31, 0, 0, 2},
		"div without sign": {api.X{Op: api.XDiv, B: 7}, 0, -1, 2, 1<<31 - 1, 1, math.MaxUint32, 2},
		"div wide":         {api.X{Op: api.XDiv, Wide: true, B: 7}, 1, 6, -1, 1, 7, 6, -1},
		"idiv":             {api.X{Op: api.XIdiv, B: 7}, math.MaxUint32, 1<<32 - 7, 2, 1<<32 - 3, math.MaxUint32, 1<<32 - 7, 2},
		"idiv wide":        {api.X{Op: api.XIdiv, Wide: true, B: 7}, -1, -7, 2, -3, -1, -7, 2},
		"idiv by -1":       {api.X{Op: api.XIdiv, Wide: true, B: 7}, 0, math.MaxInt, -1, -math.MaxInt, 0, math.MaxInt, -1},
	} {
		t.Run(name, func(t *testing.T) {
			m := machine(t, c.x, api.X{Op: api.XRet})
			flagged(allFlags(), 2, c.high, 0, c.low, 7, c.by)(&m)
			want := twin(m)
			flagged(api.Flags{}, 0, c.quot, 2, c.rest)(&want)
			want.At += len(want.Regions[0].Bytes) - 1
			holdStep(t, m, want, api.Leak{At: codeAt, Addr: -1, Num: c.num, Den: c.den})
		})
	}
}

func TestDivisionsThatMayNotBe(t *testing.T) {
	for name, c := range map[string]struct {
		x             api.X
		high, low, by int
		num, den      int
	}{
		"div by nought":           {api.X{Op: api.XDiv, B: 7}, 0, 17, 0, 17, 0},
		"div by nought below":     {api.X{Op: api.XDiv, B: 7}, 0, 17, 1 << 32, 17, 0},
		"div wide by nought":      {api.X{Op: api.XDiv, Wide: true, B: 7}, 0, -17, 0, -17, 0},
		"div: no quotient":        {api.X{Op: api.XDiv, B: 7}, 5, upperHalf + 17, 5, 17, 5},
		"div wide: no quotient":   {api.X{Op: api.XDiv, Wide: true, B: 7}, -1, 17, 5, 17, 5},
		"idiv by nought":          {api.X{Op: api.XIdiv, B: 7}, 0, 17, 0, 17, 0},
		"idiv: no quotient":       {api.X{Op: api.XIdiv, B: 7}, -1, 1 << 31, -1, 1 << 31, math.MaxUint32},
		"idiv wide: no quotient":  {api.X{Op: api.XIdiv, Wide: true, B: 7}, -1, math.MinInt, -1, math.MinInt, -1},
		"idiv: not its sign":      {api.X{Op: api.XIdiv, B: 7}, 0, 1 << 31, 2, 1 << 31, 2},
		"idiv wide: not its sign": {api.X{Op: api.XIdiv, Wide: true, B: 7}, -1, 1, 2, 1, 2},
	} {
		t.Run(name, func(t *testing.T) {
			m := machine(t, c.x, api.X{Op: api.XRet})
			flagged(allFlags(), 2, c.high, 0, c.low, 7, c.by)(&m)
			want := twin(m)
			want.Status = api.Divided
			holdStep(t, m, want, api.Leak{At: codeAt, Addr: -1, Num: c.num, Den: c.den})
		})
	}
}

func TestDivisionByARegisterThatIsDivided(t *testing.T) {
	m := machine(t, api.X{Op: api.XDiv, B: 0})
	regs(0, 9)(&m)
	want := twin(m)
	regs(0, 1, 2, 0)(&want)
	want.At += 2
	holdStep(t, m, want, api.Leak{At: codeAt, Addr: -1, Num: 9, Den: 9})
	m = machine(t, api.X{Op: api.XDiv, Wide: true, B: 2})
	regs(0, 9, 2, 3)(&m)
	want = twin(m)
	want.Status = api.Divided
	holdStep(t, m, want, api.Leak{At: codeAt, Addr: -1, Num: 9, Den: 3})
}

func TestLoadsAndStores(t *testing.T) {
	for name, c := range map[string]struct {
		x    api.X
		set  func(m *api.Machine)
		addr int
		want func(m *api.Machine)
	}{
		"load":                {api.X{Op: api.XLoad, R: 3, B: 9, N: 4}, flagged(allFlags(), 9, 1000, 3, -1), 1004, regs(3, 0x08070605)},
		"load wide":           {api.X{Op: api.XLoad, Wide: true, R: 3, B: 9, N: -4}, regs(9, 1004), 1000, regs(3, 0x0807060504030201)},
		"load with an index":  {api.X{Op: api.XLoad, R: 3, B: 9, I: 1, N: 8}, regs(9, 900, 0, 100), 1008, regs(3, 0x0c0b0a09)},
		"index 15":            {api.X{Op: api.XLoad, R: 15, B: 9, I: 16}, regs(9, 900, 15, 100), 1000, regs(15, 0x04030201)},
		"load into B":         {api.X{Op: api.XLoad, R: 9, B: 9, I: 10}, regs(9, 500), 1000, regs(9, 0x04030201)},
		"the last bytes":      {api.X{Op: api.XLoad, R: 3, B: 9}, regs(9, 1060), 1060, regs(3, 0x403f3e3d)},
		"a sum that is round": {api.X{Op: api.XLoad, R: 3, B: 9, I: 1, N: 1000}, regs(9, math.MinInt, 0, math.MinInt), 1000, regs(3, 0x04030201)},
		"below 0 and back":    {api.X{Op: api.XLoad, R: 3, B: 9, I: 1, N: -1}, regs(9, -2000, 0, 3001), 1000, regs(3, 0x04030201)},
		"store": {api.X{Op: api.XStore, R: 3, B: 9, N: 4}, flagged(allFlags(), 9, 1000, 3, wideNumber), 1004, func(m *api.Machine) {
			m.Regions[1].Bytes = "\x01\x02\x03\x04\xef\xcd\xab\x89" + counted(64)[8:]
		}},
		"store wide": {api.X{Op: api.XStore, Wide: true, R: 3, B: 9}, regs(9, 1056, 3, wideNumber), 1056, func(m *api.Machine) {
			m.Regions[1].Bytes = counted(56) + "\xef\xcd\xab\x89\x98\xba\xdc\xfe"
		}},
		"store of B": {api.X{Op: api.XStore, Wide: true, R: 9, B: 9, I: 3, N: 2}, regs(9, 1000, 2, -2), 1000, func(m *api.Machine) {
			m.Regions[1].Bytes = "\xe8\x03\x00\x00\x00\x00\x00\x00" + counted(64)[8:]
		}},
	} {
		t.Run(name, func(t *testing.T) {
			m := machine(t, c.x, api.X{Op: api.XRet})
			c.set(&m)
			want := twin(m)
			c.want(&want)
			want.At += len(want.Regions[0].Bytes) - 1
			holdStep(t, m, want, api.Leak{At: codeAt, Addr: c.addr})
		})
	}
}

// faults are addresses that may not be read and written with 8 bytes.
func faults() []int {
	return []int{0, -1, -8, codeAt, codeAt + 1, 992, 999, 1057, 1063, 1064, 1 << 32, math.MaxInt, math.MinInt, math.MinInt + 1000}
}

func TestLoadsAndStoresThatFault(t *testing.T) {
	for _, at := range faults() {
		for _, op := range []int{api.XLoad, api.XStore} {
			m := machine(t, api.X{Op: op, Wide: true, R: 3, B: 9, I: 8, N: 7}, api.X{Op: api.XHlt})
			flagged(allFlags(), 9, at-12, 7, 5, 3, 77)(&m)
			want := twin(m)
			want.Status = api.Faulted
			holdStep(t, m, want, api.Leak{At: codeAt, Addr: at})
		}
	}
	// 4 bytes reach less far than 8.
	for at, status := range map[int]int{1056: api.Going, 1057: api.Going, 1060: api.Going, 1061: api.Faulted, 1000: api.Going, 999: api.Faulted} {
		for _, op := range []int{api.XLoad, api.XStore} {
			m := machine(t, api.X{Op: op, R: 3, B: 9})
			regs(9, at)(&m)
			if got, leak := xstep.Step(m); got.Status != status || leak != (api.Leak{At: codeAt, Addr: at}) {
				t.Errorf("%d at %d: status %d, %+v; want %d", op, at, got.Status, leak, status)
			}
		}
	}
}

func TestCallAndRet(t *testing.T) {
	m := machine(t, api.X{Op: api.XCall, N: 1}, api.X{Op: api.XHlt}, api.X{Op: api.XRet})
	m.Flags = allFlags()
	called := twin(m)
	called.At, called.Regs[4] = 106, stackAt-8
	called.Regions[1].Bytes = counted(24) + "\x69\x00\x00\x00\x00\x00\x00\x00" + counted(64)[32:]
	holdStep(t, m, called, api.Leak{At: 100, Addr: stackAt - 8})
	back := twin(called)
	back.At, back.Regs[4] = 105, stackAt
	holdStep(t, called, back, api.Leak{At: 106, Addr: stackAt - 8})
	ended := twin(back)
	ended.At, ended.Status = 106, api.Halted
	holdStep(t, back, ended, api.Leak{At: 105, Addr: -1})
}

func TestCallBackAndRetToAnywhere(t *testing.T) {
	m := machine(t, api.X{Op: api.XHlt}, api.X{Op: api.XCall, N: -6})
	m.At = 101
	got, _ := xstep.Step(m)
	if got.At != 100 || got.Regs[4] != stackAt-8 || got.Status != api.Going {
		t.Errorf("a call back: %+v", got)
	}
	holdRead(t, got, stackAt-8, 8, 106)
	m = machine(t, api.X{Op: api.XRet})
	m, _ = xstep.Put(m, stackAt, 8, wideNumber)
	want := twin(m)
	want.At, want.Regs[4] = wideNumber, stackAt+8
	holdStep(t, m, want, api.Leak{At: 100, Addr: stackAt})
}

func TestCallAndRetOfAStackAtTheEndsOfAllNumbers(t *testing.T) {
	for _, top := range []int{math.MinInt + 8, math.MaxInt, -8, 0, 1 << 33} {
		m := machine(t, api.X{Op: api.XCall}, api.X{Op: api.XRet})
		m.Regions[1].At, m.Regs[4] = top-8, top
		got, leaks := xstep.Run(m, 2)
		if got.Regs[4] != top || got.At != 105 || got.Status != api.Going || leaks[0].Addr != top-8 || leaks[1].Addr != top-8 {
			t.Errorf("with the stack at %d: %+v, %+v", top, got, leaks)
		}
	}
}

func TestCallAndRetThatFault(t *testing.T) {
	for _, at := range faults() {
		m := machine(t, api.X{Op: api.XCall, N: 3})
		flagged(allFlags(), 4, at+8)(&m)
		want := twin(m)
		want.Status = api.Faulted
		holdStep(t, m, want, api.Leak{At: codeAt, Addr: at})
		m = machine(t, api.X{Op: api.XRet})
		flagged(allFlags(), 4, at)(&m)
		want = twin(m)
		want.Status = api.Faulted
		holdStep(t, m, want, api.Leak{At: codeAt, Addr: at})
	}
}

func TestWhereNoInstructionStands(t *testing.T) {
	hlt := codeOf(t, api.X{Op: api.XHlt})
	for name, c := range map[string]struct {
		at      int
		regions []api.Region
	}{
		"no region":                {0, nil},
		"no code":                  {100, []api.Region{{At: 100, Bytes: hlt}}},
		"ahead of it":              {99, []api.Region{{At: 100, Bytes: hlt, Code: true}}},
		"behind it":                {101, []api.Region{{At: 100, Bytes: hlt, Code: true}}},
		"no bytes":                 {100, []api.Region{{At: 100, Code: true}}},
		"no instruction":           {100, []api.Region{{At: 100, Bytes: "\x90" + hlt, Code: true}}},
		"cut off":                  {100, []api.Region{{At: 100, Bytes: "\xe9\x00\x00\x00", Code: true}}},
		"cut off, going on beyond": {100, []api.Region{{At: 100, Bytes: "\xe9\x00\x00", Code: true}, {At: 103, Bytes: "\x00\x00\xf4", Code: true}}},
		"the first code counts":    {100, []api.Region{{At: 99, Bytes: "\xf4\x90", Code: true}, {At: 100, Bytes: hlt, Code: true}}},
		"round to it":              {math.MinInt, []api.Region{{At: math.MaxInt, Bytes: hlt + hlt, Code: true}}},
		"far below it":             {math.MinInt, []api.Region{{At: 1, Bytes: hlt + hlt, Code: true}}},
		"far above it":             {math.MaxInt, []api.Region{{At: math.MinInt, Bytes: hlt + hlt, Code: true}}},
	} {
		t.Run(name, func(t *testing.T) {
			m := api.Machine{At: c.at, Regions: c.regions, Flags: allFlags()}
			m.Regs = [16]int{5, 6, 7}
			want := twin(m)
			want.Status = api.Faulted
			holdStep(t, m, want, api.Leak{At: c.at, Addr: -1})
		})
	}
}

func TestTheFirstCodeInWhichTheByteLiesCounts(t *testing.T) {
	stop, hlt, host := codeOf(t, api.X{Op: api.XStop}), codeOf(t, api.X{Op: api.XHlt}), codeOf(t, api.X{Op: api.XHost})
	m := api.Machine{Regions: []api.Region{{At: 100, Bytes: host}, {At: 102, Bytes: hlt, Code: true}, {At: 100, Bytes: stop + stop, Code: true}, {At: 100, Bytes: host + host + host + host + host, Code: true}}}
	for at, status := range map[int]int{100: api.Stopped, 101: api.Faulted, 102: api.Halted, 103: api.Faulted, 104: api.Asks} {
		m.At = at
		if got, _ := xstep.Step(m); got.Status != status {
			t.Errorf("at %d: status %d; want %d", at, got.Status, status)
		}
	}
	m.Regions = []api.Region{{At: math.MinInt, Bytes: hlt, Code: true}, {At: -3, Bytes: hlt + hlt + hlt + hlt, Code: true}}
	for _, at := range []int{math.MinInt, -3, 0} {
		m.At = at
		if got, _ := xstep.Step(m); got.Status != api.Halted || got.At != at+1 {
			t.Errorf("at %d: status %d, at %d", at, got.Status, got.At)
		}
	}
}

func TestNoStepIfItIsNotGoing(t *testing.T) {
	for _, status := range []int{api.Halted, api.Stopped, api.Asks, api.Faulted, api.Divided, 6, -1, math.MaxInt, math.MinInt} {
		for _, x := range []api.X{{Op: api.XMovI, Wide: true, N: 3}, {Op: api.XCall}, {Op: api.XDiv, B: 3}} {
			m := machine(t, x)
			flagged(allFlags(), 3, 7)(&m)
			m.Status = status
			holdStep(t, m, twin(m), api.Leak{})
			got, leaks := xstep.Run(m, 5)
			if !same(got, m) || len(leaks) != 0 {
				t.Errorf("Run in status %d: %+v, %+v", status, got, leaks)
			}
		}
	}
}

// P12.3

func TestExample(t *testing.T) {
	m := machine(t, api.X{Op: api.XMovI, Wide: true, R: 0, N: 7}, api.X{Op: api.XHlt})
	want := twin(m)
	want.Status, want.Regs[0], want.At = api.Halted, 7, 111
	for _, most := range []int{2, 3, 100, math.MaxInt} {
		got, leaks := xstep.Run(m, most)
		if !same(got, want) || !slices.Equal(leaks, []api.Leak{{At: 100, Addr: -1}, {At: 110, Addr: -1}}) {
			t.Errorf("Run(%d): %+v, %+v", most, got, leaks)
		}
	}
}

// summing adds the numbers from register 0 down to 1 into register 3, and puts the sum at 1000.
func summing(t *testing.T, n int) api.Machine {
	t.Helper()
	m := machine(t,
		api.X{Op: api.XAlu, C: api.Add, R: 0, B: 3},
		api.X{Op: api.XAluI, C: api.Sub, B: 0, N: 1},
		api.X{Op: api.XJcc, C: api.CNE, N: -14},
		api.X{Op: api.XStore, R: 3, B: 9, N: 0},
		api.X{Op: api.XHost})
	regs(0, n, 9, 1000)(&m)
	return m
}

func TestALoopIsRunToItsEnd(t *testing.T) {
	got, leaks := xstep.Run(summing(t, 10), 1000)
	if got.Status != api.Asks || got.Regs[3] != 55 || len(leaks) != 32 {
		t.Errorf("%+v, %d leaks", got, len(leaks))
	}
	holdRead(t, got, 1000, 4, 55)
}

func TestARunReadsWhatItWrote(t *testing.T) {
	m := machine(t,
		api.X{Op: api.XStore, Wide: true, R: 3, B: 9},
		api.X{Op: api.XStore, R: 2, B: 9, N: 6},
		api.X{Op: api.XLoad, R: 5, B: 9, N: 2},
		api.X{Op: api.XLoad, Wide: true, R: 6, B: 9, N: 1},
		api.X{Op: api.XLoad, R: 7, B: 9, N: 8},
		api.X{Op: api.XHlt})
	regs(9, 1000, 3, wideNumber, 2, 0x44332211)(&m)
	got, _ := xstep.Run(m, 6)
	want := twin(m)
	// From 1000 on stand EF CD AB 89 98 BA 11 22 33 44 0B 0C.
	regs(5, 0xba9889ab, 6, 0x332211ba9889abcd, 7, 0x0c0b4433)(&want)
	want.At, want.Status = codeAt+len(m.Regions[0].Bytes), api.Halted
	want.Regions[1].Bytes = "\xef\xcd\xab\x89\x98\xba\x11\x22\x33\x44" + counted(64)[10:]
	if !same(got, want) {
		t.Errorf("%+v;\nwant %+v", got, want)
	}
}

func TestRunGoesAtMostSoFar(t *testing.T) {
	m := summing(t, 3)
	whole, all := xstep.Run(m, 1000)
	for _, most := range []int{math.MinInt, -1, 0, 1, 2, 3, 8, 10, 11, 12, 1000} {
		was := twin(m)
		got, leaks := xstep.Run(m, most)
		made := max(0, min(most, 11))
		want := m
		for range made {
			want, _ = xstep.Step(want)
		}
		if !same(got, want) || !slices.Equal(leaks, all[:made]) || (most >= 11) != same(got, whole) {
			t.Errorf("Run(%d): %+v, %+v", most, got, leaks)
		}
		if !same(m, was) {
			t.Errorf("Run(%d) changed what was handed in", most)
		}
	}
}

func TestAStepThatFaultsIsOne(t *testing.T) {
	for name, c := range map[string]struct {
		x      api.X
		status int
		leaks  []api.Leak
	}{
		"a load":     {api.X{Op: api.XLoad, B: 3}, api.Faulted, []api.Leak{{At: 100, Addr: 7}}},
		"a jump":     {api.X{Op: api.XJmp, N: 50}, api.Faulted, []api.Leak{{At: 100, Addr: -1}, {At: 155, Addr: -1}}},
		"a quotient": {api.X{Op: api.XDiv, B: 6}, api.Divided, []api.Leak{{At: 100, Addr: -1, Num: 9}}},
		"a stop":     {api.X{Op: api.XStop}, api.Stopped, []api.Leak{{At: 100, Addr: -1}}},
		"the host":   {api.X{Op: api.XHost}, api.Asks, []api.Leak{{At: 100, Addr: -1}}},
		"the end":    {api.X{Op: api.XMov}, api.Faulted, []api.Leak{{At: 100, Addr: -1}, {At: 102, Addr: -1}}},
	} {
		t.Run(name, func(t *testing.T) {
			m := machine(t, c.x)
			regs(0, 9, 3, 7)(&m)
			if got, leaks := xstep.Run(m, 50); got.Status != c.status || !slices.Equal(leaks, c.leaks) {
				t.Errorf("%+v, %+v", got, leaks)
			}
		})
	}
}

func TestALoopWithoutEndIsLeft(t *testing.T) {
	m := machine(t, api.X{Op: api.XJmp, N: -5})
	got, leaks := xstep.Run(m, 100000)
	if !same(got, m) || len(leaks) != 100000 {
		t.Errorf("%+v, %d leaks", got, len(leaks))
	}
}

// P3 and P4

func TestNothingHandedInIsWrittenInto(t *testing.T) {
	m := machine(t, api.X{Op: api.XStore, Wide: true, R: 3, B: 4}, api.X{Op: api.XCall, N: 0}, api.X{Op: api.XHlt})
	whole := append(twin(m).Regions, api.Region{At: 5, Bytes: "what stands behind"}, api.Region{At: 2000, Bytes: counted(9)})
	m.Regions = whole[:2]
	was := slices.Clone(whole)
	xstep.Put(m, 1000, 8, -1)
	xstep.Put(m, 5, 8, -1)
	xstep.Step(m)
	xstep.Run(m, 9)
	xstep.Read(m, 1000, 8)
	if !slices.Equal(whole, was) {
		t.Errorf("%+v; was %+v", whole, was)
	}
}

func TestAnswersAreOfTheirOwn(t *testing.T) {
	m := machine(t, api.X{Op: api.XMovI, Wide: true, N: 3}, api.X{Op: api.XStore, Wide: true, R: 3, B: 4}, api.X{Op: api.XHlt})
	ended := m
	ended.Status = api.Halted
	was := twin(m)
	for name, answer := range map[string]func() api.Machine{
		"Put":           func() api.Machine { n, _ := xstep.Put(m, 1000, 8, 1); return n },
		"Put of none":   func() api.Machine { n, _ := xstep.Put(m, 0, 8, 1); return n },
		"Step":          func() api.Machine { n, _ := xstep.Step(m); return n },
		"Step of none":  func() api.Machine { n, _ := xstep.Step(ended); return n },
		"Run":           func() api.Machine { n, _ := xstep.Run(m, 9); return n },
		"Run of none":   func() api.Machine { n, _ := xstep.Run(m, 0); return n },
		"Run of an end": func() api.Machine { n, _ := xstep.Run(ended, 9); return n },
	} {
		one, other := answer(), answer()
		kept := twin(other)
		for i := range one.Regions {
			one.Regions[i] = api.Region{At: -7, Bytes: "spoilt"}
		}
		// Spare room behind a list is nobody else's either.
		_ = append(one.Regions, api.Region{At: -8}, api.Region{At: -9})
		if !same(other, kept) || !same(m, was) {
			t.Errorf("%s: two answers, or an answer and what was handed in, share memory", name)
		}
	}
}
