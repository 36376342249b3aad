package asm_test

import (
	"math"
	"math/rand/v2"
	"slices"
	"strings"
	"testing"

	"oubliette/api"
	"oubliette/asm"
	"oubliette/xcode"
	"oubliette/xstep"
)

// shown is a list's beginning, of such as are too long to be read.
func shown(l []api.Item) []api.Item { return l[:min(len(l), 50)] }

func holdPlaces(t *testing.T, l []api.Item, want []int, err api.Errno) {
	t.Helper()
	if p, e := asm.Places(l); !slices.Equal(p, want) || e != err {
		t.Errorf("Places(%+v) = %v, %d; want %v, %d", shown(l), p, e, want, err)
	}
}

func holdAssemble(t *testing.T, l []api.Item, want string, err api.Errno) {
	t.Helper()
	if b, e := asm.Assemble(l); b != want || e != err {
		t.Errorf("Assemble(%+v) = %x, %d; want %x, %d", shown(l), b, e, want, err)
	}
}

func holdStarts(t *testing.T, code string, want []int, err api.Errno) {
	t.Helper()
	if p, e := asm.Starts(code); !slices.Equal(p, want) || e != err {
		t.Errorf("Starts(%x) = %v, %d; want %v, %d", code, p, e, want, err)
	}
}

// wrong holds that one of l is no item.
func wrong(t *testing.T, l ...api.Item) {
	t.Helper()
	holdPlaces(t, l, nil, api.ErrArg)
	holdAssemble(t, l, "", api.ErrArg)
}

func label(n int) api.Item   { return api.Item{Label: n} }
func plain(x api.X) api.Item { return api.Item{X: x} }
func ret() api.Item          { return plain(api.X{Op: api.XRet}) }
func jmp(to int) api.Item    { return api.Item{X: api.X{Op: api.XJmp}, To: to} }
func call(to int) api.Item   { return api.Item{X: api.X{Op: api.XCall}, To: to} }
func jcc(c, to int) api.Item { return api.Item{X: api.X{Op: api.XJcc, C: c}, To: to} }

// spelling is an instruction and its bytes, put down by hand.
type spelling struct {
	x api.X
	b string
}

// spellings are of every kind, and of every length.
func spellings() []spelling {
	return []spelling{
		{api.X{Op: api.XMov, R: 1, B: 2}, "\x89\xca"},
		{api.X{Op: api.XMov, Wide: true, R: 0, B: 3}, "\x48\x89\xc3"},
		{api.X{Op: api.XMovI, Wide: true, R: 12, N: 0x0123456789abcdef}, "\x49\xbc\xef\xcd\xab\x89\x67\x45\x23\x01"},
		{api.X{Op: api.XAlu, C: api.Xor, R: 2, B: 2}, "\x31\xd2"},
		{api.X{Op: api.XAluI, C: api.Add, B: 0, N: 1}, "\x81\xc0\x01\x00\x00\x00"},
		{api.X{Op: api.XAluI, C: api.Sub, Wide: true, B: 4, N: 16}, "\x48\x81\xec\x10\x00\x00\x00"},
		{api.X{Op: api.XTest, R: 0, B: 0}, "\x85\xc0"},
		{api.X{Op: api.XMul, Wide: true, R: 8, B: 9}, "\x4d\x0f\xaf\xc1"},
		{api.X{Op: api.XShift, C: api.Shr, B: 3}, "\xd3\xeb"},
		{api.X{Op: api.XDiv, B: 1}, "\xf7\xf1"},
		{api.X{Op: api.XIdiv, Wide: true, B: 3}, "\x48\xf7\xfb"},
		{api.X{Op: api.XSign}, "\x99"},
		{api.X{Op: api.XLoad, R: 0, B: 15, N: 8}, "\x41\x8b\x84\x27\x08\x00\x00\x00"},
		{api.X{Op: api.XStore, R: 2, B: 5, I: 6}, "\x89\x94\x2d\x00\x00\x00\x00"},
		{api.X{Op: api.XSet, C: api.CB}, "\x0f\x92\xc0"},
		{api.X{Op: api.XByte}, "\x0f\xb6\xc0"},
		{api.X{Op: api.XCmov, C: api.CNE, R: 0, B: 1}, "\x0f\x45\xc1"},
		{api.X{Op: api.XWiden, Wide: true, R: 8, B: 1}, "\x4c\x63\xc1"},
		{api.X{Op: api.XJmp, N: math.MaxInt32}, "\xe9\xff\xff\xff\x7f"},
		{api.X{Op: api.XJcc, C: api.CAE, N: 0x12345678}, "\x0f\x83\x78\x56\x34\x12"},
		{api.X{Op: api.XCall, N: math.MinInt32}, "\xe8\x00\x00\x00\x80"},
		{api.X{Op: api.XJmp}, "\xe9\x00\x00\x00\x00"},
		{api.X{Op: api.XRet}, "\xc3"},
		{api.X{Op: api.XHlt}, "\xf4"},
		{api.X{Op: api.XStop}, "\x0f\x0b"},
		{api.X{Op: api.XHost}, "\xcc"},
	}
}

// known is all spellings one behind the other: as items, as bytes, and the place of each.
func known() (l []api.Item, code string, starts []int) {
	for _, s := range spellings() {
		l, starts, code = append(l, plain(s.x)), append(starts, len(code)), code+s.b
	}
	return l, code, starts
}

// P13.1

func TestTheChaptersExample(t *testing.T) {
	l := []api.Item{label(1), ret(), jmp(1)}
	holdAssemble(t, l, "\xc3\xe9\xfa\xff\xff\xff", api.OK)
	holdPlaces(t, l, []int{0, 0, 1, 6}, api.OK)
}

func TestNothing(t *testing.T) {
	for _, l := range [][]api.Item{nil, {}} {
		holdPlaces(t, l, []int{0}, api.OK)
		holdAssemble(t, l, "", api.OK)
	}
}

func TestInstructionsWithoutLabels(t *testing.T) {
	l, code, starts := known()
	holdPlaces(t, l, append(starts, len(code)), api.OK)
	holdAssemble(t, l, code, api.OK)
	for _, s := range spellings() {
		holdPlaces(t, []api.Item{plain(s.x)}, []int{0, len(s.b)}, api.OK)
		holdAssemble(t, []api.Item{plain(s.x)}, s.b, api.OK)
	}
}

func TestLabelsAlone(t *testing.T) {
	l := []api.Item{label(3), label(1), label(2), label(math.MaxInt)}
	holdPlaces(t, l, []int{0, 0, 0, 0, 0}, api.OK)
	holdAssemble(t, l, "", api.OK)
}

func TestJumpsOnAndBack(t *testing.T) {
	l := []api.Item{
		jmp(10),          // 0
		label(20),        // 5
		jcc(api.CE, 30),  // 5
		call(20),         // 11
		label(10),        // 16
		jcc(api.CGE, 20), // 16
		ret(),            // 22
		label(30),        // 23
		call(30),         // 23
	}
	holdPlaces(t, l, []int{0, 5, 5, 11, 16, 16, 22, 23, 23, 28}, api.OK)
	holdAssemble(t, l, "\xe9\x0b\x00\x00\x00"+"\x0f\x84\x0c\x00\x00\x00"+"\xe8\xf5\xff\xff\xff"+"\x0f\x8d\xef\xff\xff\xff"+"\xc3"+"\xe8\xfb\xff\xff\xff", api.OK)
}

func TestAJumpToItselfAndToRightBehind(t *testing.T) {
	holdAssemble(t, []api.Item{label(1), jmp(1)}, "\xe9\xfb\xff\xff\xff", api.OK)
	holdAssemble(t, []api.Item{jmp(1), label(1)}, "\xe9\x00\x00\x00\x00", api.OK)
	holdAssemble(t, []api.Item{label(1), call(1)}, "\xe8\xfb\xff\xff\xff", api.OK)
	holdAssemble(t, []api.Item{label(1), jcc(api.CL, 1)}, "\x0f\x8c\xfa\xff\xff\xff", api.OK)
	holdAssemble(t, []api.Item{ret(), jcc(api.CL, 1), label(1)}, "\xc3\x0f\x8c\x00\x00\x00\x00", api.OK)
}

func TestEachConditionGoesToItsLabel(t *testing.T) {
	for c, second := range map[int]string{
		api.CB: "\x82", api.CAE: "\x83", api.CE: "\x84", api.CNE: "\x85", api.CBE: "\x86",
		api.CA: "\x87", api.CL: "\x8c", api.CGE: "\x8d", api.CLE: "\x8e", api.CG: "\x8f",
	} {
		l := []api.Item{jcc(c, 4), ret(), label(4)}
		holdAssemble(t, l, "\x0f"+second+"\x01\x00\x00\x00\xc3", api.OK)
		holdPlaces(t, l, []int{0, 6, 7, 7}, api.OK)
	}
}

func TestSeveralLabelsAtOnePlaceAndSeveralJumpsToOne(t *testing.T) {
	l := []api.Item{jmp(1), jmp(math.MaxInt), label(1), label(5), label(math.MaxInt), jmp(5), jmp(1)}
	holdAssemble(t, l, "\xe9\x05\x00\x00\x00\xe9\x00\x00\x00\x00\xe9\xfb\xff\xff\xff\xe9\xf6\xff\xff\xff", api.OK)
}

func TestJumpsWithoutALabelStayAsTheyAre(t *testing.T) {
	for _, n := range []int{0, 1, -1, 5, -6, math.MaxInt32, math.MinInt32} {
		for _, x := range []api.X{{Op: api.XJmp, N: n}, {Op: api.XCall, N: n}, {Op: api.XJcc, C: api.CA, N: n}} {
			want, _ := xcode.Encode(x)
			holdAssemble(t, []api.Item{ret(), label(1), plain(x)}, "\xc3"+want, api.OK)
		}
	}
}

func TestFarJumpsHaveAsManyBytesAsNearOnes(t *testing.T) {
	for _, between := range []int{1, 127, 128, 129, 255, 256, 32767, 32768, 65535, 65536, 200000} {
		rets := slices.Repeat([]api.Item{ret()}, between)
		l := slices.Concat([]api.Item{label(1), jcc(api.CB, 2)}, rets, []api.Item{jmp(1), label(2)})
		on, _ := xcode.Encode(api.X{Op: api.XJcc, C: api.CB, N: between + 5})
		back, _ := xcode.Encode(api.X{Op: api.XJmp, N: -(between + 11)})
		holdAssemble(t, l, on+strings.Repeat("\xc3", between)+back, api.OK)
		p, e := asm.Places(l)
		if e != api.OK || len(p) != len(l)+1 || p[2] != 6 || p[len(l)-2] != between+6 || p[len(l)] != between+11 {
			t.Errorf("Places with %d between = .., %d", between, e)
		}
	}
}

// wrongs are what is no item, by what it has that may not be.
func wrongs() map[string]api.Item {
	return map[string]api.Item{
		"nothing":                       {},
		"a label below 0":               {Label: -1},
		"the least label":               {Label: math.MinInt},
		"a label with an instruction":   {Label: 9, X: api.X{Op: api.XRet}},
		"a label with a field":          {Label: 9, X: api.X{C: 1}},
		"a label that is wide":          {Label: 9, X: api.X{Wide: true}},
		"a label with a number":         {Label: 9, X: api.X{N: 1}},
		"a label that goes":             {Label: 9, To: 1},
		"a label that jumps":            {Label: 9, X: api.X{Op: api.XJmp}, To: 1},
		"a label below 0 and Ret":       {Label: -1, X: api.X{Op: api.XRet}},
		"Ret that goes":                 {X: api.X{Op: api.XRet}, To: 1},
		"Hlt that goes below 0":         {X: api.X{Op: api.XHlt}, To: -1},
		"MovI that goes":                {X: api.X{Op: api.XMovI, Wide: true}, To: 1},
		"Host that goes":                {X: api.X{Op: api.XHost}, To: 1},
		"Cmov that goes":                {X: api.X{Op: api.XCmov, C: api.CE}, To: 1},
		"nothing that goes":             {To: 1},
		"Jmp to below 0":                {X: api.X{Op: api.XJmp}, To: -1},
		"Jcc to the least":              {X: api.X{Op: api.XJcc, C: api.CE}, To: math.MinInt},
		"Call to below 0":               {X: api.X{Op: api.XCall}, To: -1},
		"Jmp with a number":             {X: api.X{Op: api.XJmp, N: 1}, To: 1},
		"Jcc with a number":             {X: api.X{Op: api.XJcc, C: api.CE, N: -1}, To: 1},
		"Call with a number":            {X: api.X{Op: api.XCall, N: 1 << 32}, To: 1},
		"Jmp with a condition":          {X: api.X{Op: api.XJmp, C: api.CE}, To: 1},
		"Jmp that is wide":              {X: api.X{Op: api.XJmp, Wide: true}, To: 1},
		"Jcc without a condition":       {X: api.X{Op: api.XJcc}, To: 1},
		"Jcc with one that is none":     {X: api.X{Op: api.XJcc, C: 8}, To: 1},
		"Call with a register":          {X: api.X{Op: api.XCall, R: 1}, To: 1},
		"register 99":                   {X: api.X{Op: api.XMov, R: 99}},
		"Jmp too far":                   {X: api.X{Op: api.XJmp, N: 1 << 31}},
		"no kind":                       {X: api.X{Op: 24}},
		"a kind below 0":                {X: api.X{Op: -1}},
		"no kind that goes":             {X: api.X{Op: 1<<32 + api.XJmp}, To: 1},
		"the stack's register as index": {X: api.X{Op: api.XLoad, I: 5}},
	}
}

func TestWhatIsNoItem(t *testing.T) {
	for why, bad := range wrongs() {
		t.Run(why, func(t *testing.T) {
			wrong(t, bad)
			wrong(t, label(1), bad)
			wrong(t, bad, label(1))
			wrong(t, label(1), bad, ret())
			l, _, _ := known()
			for at := range len(l) + 1 {
				wrong(t, slices.Insert(append([]api.Item{label(1)}, l...), at, bad)...)
			}
		})
	}
}

func TestTwoLabelsThatAreTheSame(t *testing.T) {
	l := []api.Item{label(4), ret(), label(4)}
	holdAssemble(t, l, "", api.ErrArg)
	holdPlaces(t, l, []int{0, 0, 1, 1}, api.OK)
	holdAssemble(t, []api.Item{label(4), label(4)}, "", api.ErrArg)
	holdAssemble(t, []api.Item{label(1), label(math.MaxInt), jmp(1), label(math.MaxInt)}, "", api.ErrArg)
	holdAssemble(t, []api.Item{jmp(2), label(2), ret(), label(3), label(2)}, "", api.ErrArg)
}

func TestAJumpWithoutItsLabel(t *testing.T) {
	for _, j := range []api.Item{jmp(3), call(3), jcc(api.CE, 3)} {
		holdAssemble(t, []api.Item{j}, "", api.ErrArg)
		holdAssemble(t, []api.Item{label(1), label(2), j, label(4)}, "", api.ErrArg)
		holdAssemble(t, []api.Item{label(1), jmp(1), ret(), j}, "", api.ErrArg)
	}
	holdAssemble(t, []api.Item{label(1), jmp(math.MaxInt)}, "", api.ErrArg)
	holdAssemble(t, []api.Item{label(1), jmp(1<<32 + 1)}, "", api.ErrArg)
	holdPlaces(t, []api.Item{jmp(3), jcc(api.CE, 5), call(3)}, []int{0, 5, 11, 16}, api.OK)
}

// P13.2

func TestStartsOfKnownInstructions(t *testing.T) {
	holdStarts(t, "", nil, api.OK)
	for _, s := range spellings() {
		holdStarts(t, s.b, []int{0}, api.OK)
		holdStarts(t, s.b+s.b, []int{0, len(s.b)}, api.OK)
	}
	_, code, starts := known()
	holdStarts(t, code, starts, api.OK)
}

func TestStartsOfInstructionsThatAreCutOff(t *testing.T) {
	_, code, starts := known()
	for long := range len(code) {
		if n := slices.Index(starts, long); n >= 0 {
			holdStarts(t, code[:long], starts[:n], api.OK)
		} else {
			holdStarts(t, code[:long], nil, api.ErrForm)
		}
	}
}

func TestStartsOfOtherBytes(t *testing.T) {
	_, code, starts := known()
	for _, b := range []string{"\x90", "\x00", "\xff", "\x0f", "\x48", "\x40\x89\xc3", "\x48\xc3", "\x0f\x80\x00\x00\x00\x00", "\xe9\x00", "no code"} {
		holdStarts(t, b, nil, api.ErrForm)
		holdStarts(t, "\xc3"+b, nil, api.ErrForm)
		holdStarts(t, code+b, nil, api.ErrForm)
	}
	for _, at := range append(starts, len(code)) {
		holdStarts(t, code[:at]+"\x90"+code[at:], nil, api.ErrForm)
	}
}

func TestInstructionsWithinOthersAreNone(t *testing.T) {
	holdStarts(t, "\x48\xb8\xc3\xc3\xc3\xc3\xc3\xc3\xc3\xc3\xf4", []int{0, 10}, api.OK)
	holdStarts(t, "\xc3\xe9\xc3\x90\x90\xc3\xc3", []int{0, 1, 6}, api.OK)
}

// P13.1 and P13.3, by chance.

func pick[T any](r *rand.Rand, l ...T) T { return l[r.IntN(len(l))] }

// goods are items by chance, with each label once, and jumps to these alone.
func goods(r *rand.Rand) []api.Item {
	var l []api.Item
	names := r.Perm(40)[:1+r.IntN(8)]
	for range r.IntN(30) {
		to := 1 + pick(r, names...)
		l = append(l, pick(r, jmp(to), call(to), jcc(pick(r, api.CB, api.CAE, api.CE, api.CNE, api.CBE, api.CA, api.CL, api.CGE, api.CLE, api.CG), to), plain(pick(r, spellings()...).x), plain(pick(r, spellings()...).x)))
	}
	for _, n := range names {
		l = slices.Insert(l, r.IntN(len(l)+1), label(n+1))
	}
	return l
}

// anyItem has fields by chance, such as may be together more often.
func anyItem(r *rand.Rand) api.Item {
	few := func() int { return pick(r, 0, 0, 0, 1, 2, 4, 7, -1, 16, 1<<31, math.MinInt, math.MaxInt) }
	i := pick(r, plain(pick(r, spellings()...).x), label(1+r.IntN(4)), jmp(1+r.IntN(4)), call(1+r.IntN(4)), jcc(api.CE, 1+r.IntN(4)))
	for _, field := range []*int{&i.X.Op, &i.X.R, &i.X.B, &i.X.I, &i.X.C, &i.X.N, &i.Label, &i.To} {
		if r.IntN(30) == 0 {
			*field = few()
		}
	}
	i.X.Wide = i.X.Wide != (r.IntN(40) == 0)
	return i
}

func TestItemsByChance(t *testing.T) {
	r := rand.New(rand.NewPCG(13, 1))
	// How often each was told: a test of errors alone would hold as well.
	told := map[api.Errno]int{}
	for i := range 40000 {
		l := goods(r)
		if i%2 == 0 {
			l = nil
			for range r.IntN(8) {
				l = append(l, anyItem(r))
			}
		}
		places, e := placesOf(l)
		holdPlaces(t, l, places, e)
		code, e := assembled(l)
		holdAssemble(t, l, code, e)
		told[e]++
	}
	if told[api.OK] < 1000 || told[api.ErrArg] < 1000 {
		t.Errorf("told %v", told)
	}
}

func TestWhatWasAssembledIsAsManyInstructions(t *testing.T) {
	r := rand.New(rand.NewPCG(13, 2))
	for range 5000 {
		l := goods(r)
		code, e := asm.Assemble(l)
		if e != api.OK {
			t.Fatalf("Assemble(%+v): %d", l, e)
		}
		places, _ := asm.Places(l)
		var starts []int
		for at, i := range l {
			if i.Label != 0 {
				continue
			}
			starts = append(starts, places[at])
			x, n, e := xcode.Decode(code[places[at]:])
			if e != api.OK || x != placed(l, at) || places[at]+n != places[at+1] {
				t.Errorf("%+v, %d bytes, %d at %d of %x; want %+v", x, n, e, places[at], code, placed(l, at))
			}
		}
		holdStarts(t, code, starts, api.OK)
		if places[len(l)] != len(code) {
			t.Errorf("%d bytes of %+v; want %d", len(code), l, places[len(l)])
		}
	}
}

// holding are flags by which a condition holds.
func holding(c int) api.Flags {
	switch c {
	case api.CB, api.CBE:
		return api.Flags{C: true}
	case api.CE:
		return api.Flags{Z: true}
	case api.CL, api.CLE:
		return api.Flags{S: true}
	}
	return api.Flags{}
}

func TestTheMachineGoesToTheLabel(t *testing.T) {
	r := rand.New(rand.NewPCG(13, 3))
	const begin = 1000
	for range 2000 {
		l := goods(r)
		code, _ := asm.Assemble(l)
		places, _ := asm.Places(l)
		for at, i := range l {
			if i.To == 0 {
				continue
			}
			m := api.Machine{At: begin + places[at], Flags: holding(i.X.C), Regions: []api.Region{{At: begin, Bytes: code, Code: true}, {Bytes: "a stack's bytes."}}}
			m.Regs[4] = 16
			m, _ = xstep.Step(m)
			if want := begin + places[slices.Index(l, label(i.To))]; m.At != want || m.Status != api.Going {
				t.Errorf("%+v of %+v goes to %d (%d); want %d", i, l, m.At, m.Status, want)
			}
		}
	}
}

// P3 and P4.

func TestTheListHandedInStaysAsItWas(t *testing.T) {
	whole := []api.Item{label(2), jmp(2), call(2), jcc(api.CE, 2), ret(), label(3), jmp(7), {X: api.X{Op: -4}, To: 9}, label(2)}
	kept := slices.Clone(whole)
	for long := range len(whole) + 1 {
		asm.Places(whole[:long])
		asm.Assemble(whole[:long])
		if !slices.Equal(whole, kept) {
			t.Fatalf("%+v after %d; was %+v", whole, long, kept)
		}
	}
}

// spoil writes into a list and into its spare room.
func spoil(l []int) {
	l = l[:cap(l)]
	for i := range l {
		l[i] = -77
	}
}

func TestAnswersAreOfTheirOwnAndStayTheSame(t *testing.T) {
	l, code, starts := known()
	for range 3 {
		places, _ := asm.Places(l)
		other, _ := asm.Places(l)
		spoil(places)
		if want := append(slices.Clone(starts), len(code)); !slices.Equal(other, want) {
			t.Errorf("Places is %v after another answer was written into; want %v", other, want)
		}
		first, _ := asm.Starts(code)
		second, _ := asm.Starts(code)
		spoil(first)
		if !slices.Equal(second, starts) {
			t.Errorf("Starts is %v after another answer was written into; want %v", second, starts)
		}
		holdAssemble(t, l, code, api.OK)
		holdAssemble(t, []api.Item{jmp(1)}, "", api.ErrArg)
		holdAssemble(t, []api.Item{label(1)}, "", api.OK)
	}
}
