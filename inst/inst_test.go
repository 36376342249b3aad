package inst_test

import (
	"math"
	"slices"
	"strings"
	"testing"

	"oubliette/api"
	"oubliette/inst"
)

const greatest32 = 1<<32 - 1

// Instructions of every kind, their bytes as the chapter and its examples give them.
type spelling struct {
	x api.Instr
	b string
}

func spellings() []spelling {
	return []spelling{
		{api.Instr{Op: api.Unreachable}, "\x00"},
		{api.Instr{Op: api.Nop}, "\x01"},
		{api.Instr{Op: api.Else}, "\x05"},
		{api.Instr{Op: api.End}, "\x0b"},
		{api.Instr{Op: api.Return}, "\x0f"},
		{api.Instr{Op: api.Drop}, "\x1a"},
		{api.Instr{Op: api.Select}, "\x1b"},
		{api.Instr{Op: api.I32Eqz}, "\x45"},
		{api.Instr{Op: api.I64GeU}, "\x5a"},
		{api.Instr{Op: api.I32Add}, "\x6a"},
		{api.Instr{Op: api.I64DivU}, "\x80"},
		{api.Instr{Op: api.I64Rotr}, "\x8a"},
		{api.Instr{Op: api.I32Wrap}, "\xa7"},
		{api.Instr{Op: api.I64ExtendS}, "\xac"},
		{api.Instr{Op: api.I64ExtendU}, "\xad"},
		{api.Instr{Op: api.Classify}, "\xf0"},
		{api.Instr{Op: api.Declassify}, "\xf1"},
		{api.Instr{Op: api.Block}, "\x02\x40"},
		{api.Instr{Op: api.Block, M: 1 + api.S64}, "\x02\x7c"},
		{api.Instr{Op: api.Loop, M: 1 + api.S32}, "\x03\x7d"},
		{api.Instr{Op: api.Loop, M: 1 + api.I64}, "\x03\x7e"},
		{api.Instr{Op: api.If, M: 1 + api.I32}, "\x04\x7f"},
		{api.Instr{Op: api.If}, "\x04\x40"},
		{api.Instr{Op: api.Br}, "\x0c\x00"},
		{api.Instr{Op: api.BrIf, N: 127}, "\x0d\x7f"},
		{api.Instr{Op: api.Call, N: 128}, "\x10\x80\x01"},
		{api.Instr{Op: api.LocalGet, N: 1}, "\x20\x01"},
		{api.Instr{Op: api.LocalSet, N: 64}, "\x21\x40"},
		{api.Instr{Op: api.LocalTee, N: 16384}, "\x22\x80\x80\x01"},
		{api.Instr{Op: api.GlobalGet, N: 300}, "\x23\xac\x02"},
		{api.Instr{Op: api.GlobalSet, N: greatest32}, "\x24\xff\xff\xff\xff\x0f"},
		{api.Instr{Op: api.I32Load}, "\x28\x00\x00"},
		{api.Instr{Op: api.I32Load, N: 300, M: 1}, "\x28\x01\xac\x02"},
		{api.Instr{Op: api.I64Load, N: 1}, "\x29\x00\x01"},
		{api.Instr{Op: api.I32Store, M: 1}, "\x36\x01\x00"},
		{api.Instr{Op: api.I64Store, N: greatest32, M: 1}, "\x37\x01\xff\xff\xff\xff\x0f"},
		{api.Instr{Op: api.I32Const, N: -1 << 31}, "\x41\x80\x80\x80\x80\x78"},
		{api.Instr{Op: api.I32Const, N: -65}, "\x41\xbf\x7f"},
		{api.Instr{Op: api.I32Const, N: -1}, "\x41\x7f"},
		{api.Instr{Op: api.I32Const}, "\x41\x00"},
		{api.Instr{Op: api.I32Const, N: 63}, "\x41\x3f"},
		{api.Instr{Op: api.I32Const, N: 64}, "\x41\xc0\x00"},
		{api.Instr{Op: api.I32Const, N: 1<<31 - 1}, "\x41\xff\xff\xff\xff\x07"},
		{api.Instr{Op: api.I64Const, N: math.MinInt}, "\x42\x80\x80\x80\x80\x80\x80\x80\x80\x80\x7f"},
		{api.Instr{Op: api.I64Const, N: -1}, "\x42\x7f"},
		{api.Instr{Op: api.I64Const}, "\x42\x00"},
		{api.Instr{Op: api.I64Const, N: 1 << 31}, "\x42\x80\x80\x80\x80\x08"},
		{api.Instr{Op: api.I64Const, N: math.MaxInt}, "\x42\xff\xff\xff\xff\xff\xff\xff\xff\xff\x00"},
	}
}

// wrongs are instructions that are not right, with why.
func wrongs() map[string]api.Instr {
	return map[string]api.Instr{
		"no instruction, -1":            {Op: -1},
		"no instruction, 6":             {Op: 6},
		"no instruction, 255":           {Op: 255},
		"no instruction, 256":           {Op: 256},
		"no instruction, the least":     {Op: math.MinInt},
		"no instruction, the greatest":  {Op: math.MaxInt},
		"Nop and 256":                   {Op: 256 + api.Nop},
		"Nop and 2^32":                  {Op: 1<<32 + api.Nop},
		"Nop less 256":                  {Op: api.Nop - 256},
		"I32Const and 2^63":             {Op: math.MinInt + api.I32Const},
		"N where nothing stands":        {Op: api.Nop, N: 1},
		"N below 0 where nothing":       {Op: api.I64Rotr, N: -1},
		"N of 2^32 where nothing":       {Op: api.Declassify, N: 1 << 32},
		"M where nothing stands":        {Op: api.End, M: 1},
		"M below 0 where nothing":       {Op: api.I32Eqz, M: -1},
		"N of a block":                  {Op: api.Block, N: 1},
		"N of a block that brings":      {Op: api.If, N: -1, M: 1},
		"M of a block below 0":          {Op: api.Loop, M: -1},
		"M of a block above the types":  {Op: api.Block, M: 5},
		"M of a block, the least":       {Op: api.Block, M: math.MinInt},
		"M of a block, the greatest":    {Op: api.Block, M: math.MaxInt},
		"M of a block, 64":              {Op: api.Block, M: 64},
		"an index below 0":              {Op: api.Br, N: -1},
		"an index of 2^32":              {Op: api.Call, N: 1 << 32},
		"an index, the least":           {Op: api.LocalGet, N: math.MinInt},
		"an index, the greatest":        {Op: api.GlobalSet, N: math.MaxInt},
		"M beside an index":             {Op: api.LocalTee, M: 1},
		"M below 0 beside an index":     {Op: api.GlobalGet, N: 3, M: -1},
		"a memory of 2":                 {Op: api.I32Load, M: 2},
		"a memory of -1":                {Op: api.I64Load, M: -1},
		"a memory, the least":           {Op: api.I64Load, M: math.MinInt},
		"a memory of 2^32 and 1":        {Op: api.I32Store, M: 1<<32 + 1},
		"an offset below 0":             {Op: api.I64Store, N: -1, M: 1},
		"an offset of 2^32":             {Op: api.I32Store, N: 1 << 32},
		"a constant below 32 bits":      {Op: api.I32Const, N: -1<<31 - 1},
		"a constant above 32 bits":      {Op: api.I32Const, N: 1 << 31},
		"a constant, bits without sign": {Op: api.I32Const, N: greatest32},
		"a constant, the least":         {Op: api.I32Const, N: math.MinInt},
		"a constant, the greatest":      {Op: api.I32Const, N: math.MaxInt},
		"M beside a constant":           {Op: api.I32Const, M: 1},
		"M beside a constant of 64":     {Op: api.I64Const, N: 7, M: 1},
		"M below 0 beside one of 64":    {Op: api.I64Const, M: -1},
	}
}

func holdBytes(t *testing.T, x api.Instr, want string, wantE api.Errno) {
	t.Helper()
	if b, e := inst.Bytes(x); b != want || e != wantE {
		t.Errorf("Bytes(%x) = %x, %d; want %x, %d", x, b, e, want, wantE)
	}
}

func holdTake(t *testing.T, b string, want api.Instr, wantRest string, wantE api.Errno) {
	t.Helper()
	if x, rest, e := inst.Take(b); x != want || rest != wantRest || e != wantE {
		t.Errorf("Take(%x) = %x, %x, %d; want %x, %x, %d", b, x, rest, e, want, wantRest, wantE)
	}
}

func holdBody(t *testing.T, l []api.Instr, want string, wantE api.Errno) {
	t.Helper()
	if b, e := inst.Body(l); b != want || e != wantE {
		t.Errorf("Body(%x) = %x, %d; want %x, %d", l, b, e, want, wantE)
	}
}

func refused(t *testing.T, b string) {
	t.Helper()
	holdTake(t, b, api.Instr{}, "", api.ErrForm)
}

// holdReading holds Take against a reading by the form of the numbers.
func holdReading(t *testing.T, b string) {
	t.Helper()
	x, rest, ok := taken(b)
	if !ok {
		refused(t, b)
		return
	}
	holdTake(t, b, x, rest, api.OK)
}

// P4.1

func TestKindOfEachFirstByte(t *testing.T) {
	count := map[int]int{}
	for op := range 256 {
		got := inst.Kind(op)
		if want := kindOf(op); got != want {
			t.Errorf("Kind(%x) = %d; want %d", op, got, want)
		}
		count[got]++
	}
	for kind, want := range []int{256 - 81, 64, 3, 8, 4, 1, 1} {
		if count[kind] != want {
			t.Errorf("%d first bytes of kind %d; want %d", count[kind], kind, want)
		}
	}
}

func TestKindOfKnownInstructions(t *testing.T) {
	for op, want := range map[int]int{
		0x00: 1, 0x01: 1, 0x05: 1, 0x0b: 1, 0x0f: 1, 0x1a: 1, 0x1b: 1, 0xf0: 1, 0xf1: 1,
		0x45: 1, 0x4f: 1, 0x50: 1, 0x5a: 1, 0x6a: 1, 0x78: 1, 0x7c: 1, 0x8a: 1, 0xa7: 1, 0xac: 1, 0xad: 1,
		0x02: 2, 0x03: 2, 0x04: 2,
		0x0c: 3, 0x0d: 3, 0x10: 3, 0x20: 3, 0x21: 3, 0x22: 3, 0x23: 3, 0x24: 3,
		0x28: 4, 0x29: 4, 0x36: 4, 0x37: 4,
		0x41: 5, 0x42: 6,
		0x06: 0, 0x0a: 0, 0x0e: 0, 0x11: 0, 0x19: 0, 0x1c: 0, 0x1f: 0, 0x25: 0, 0x27: 0, 0x2a: 0, 0x35: 0, 0x38: 0, 0x40: 0, 0x43: 0, 0x44: 0,
		0x5b: 0, 0x69: 0, 0x79: 0, 0x7b: 0, 0x8b: 0, 0xa6: 0, 0xa8: 0, 0xab: 0, 0xae: 0, 0xef: 0, 0xf2: 0, 0xff: 0,
	} {
		if got := inst.Kind(op); got != want {
			t.Errorf("Kind(%x) = %d; want %d", op, got, want)
		}
	}
}

func TestNumbersThatAreNoInstruction(t *testing.T) {
	for _, op := range noInstructions() {
		if got := inst.Kind(op); got != 0 {
			t.Errorf("Kind(%x) = %d; want 0", op, got)
		}
		for _, n := range []int{0, 1, -1, math.MinInt, math.MaxInt} {
			for _, m := range []int{0, 1, -1} {
				x := api.Instr{Op: op, N: n, M: m}
				if inst.Right(x) {
					t.Errorf("Right(%x)", x)
				}
				holdBytes(t, x, "", api.ErrArg)
			}
		}
	}
}

func TestKnownInstructionsAreRight(t *testing.T) {
	for _, s := range spellings() {
		if !inst.Right(s.x) {
			t.Errorf("not Right(%x)", s.x)
		}
	}
	for why, x := range wrongs() {
		if inst.Right(x) {
			t.Errorf("Right(%x): %s", x, why)
		}
	}
}

func TestRightIsAsTheKindSays(t *testing.T) {
	for op := -2; op < 260; op++ {
		for _, n := range numbers() {
			for _, m := range seconds() {
				x := api.Instr{Op: op, N: n, M: m}
				if got, want := inst.Right(x), right(x); got != want {
					t.Errorf("Right(%x) = %v; want %v", x, got, want)
				}
			}
		}
	}
}

// P4.2: what is written.

func TestBytesOfKnownInstructions(t *testing.T) {
	for _, s := range spellings() {
		holdBytes(t, s.x, s.b, api.OK)
	}
	for _, x := range wrongs() {
		holdBytes(t, x, "", api.ErrArg)
	}
}

func TestBytesAreAsTheKindSays(t *testing.T) {
	for op := -2; op < 260; op++ {
		for _, n := range numbers() {
			for _, m := range seconds() {
				x := api.Instr{Op: op, N: n, M: m}
				if right(x) {
					holdBytes(t, x, written(x), api.OK)
				} else {
					holdBytes(t, x, "", api.ErrArg)
				}
			}
		}
	}
}

func TestBodyIsTheBytesOfAll(t *testing.T) {
	holdBody(t, nil, "", api.OK)
	holdBody(t, []api.Instr{}, "", api.OK)
	holdBody(t, []api.Instr{{Op: api.End}}, "\x0b", api.OK)
	holdBody(t, []api.Instr{
		{Op: api.LocalGet, N: 1}, {Op: api.If, M: 1 + api.S32}, {Op: api.I32Const, N: 64}, {Op: api.I32Load, N: 300, M: 1}, {Op: api.Classify},
		{Op: api.Else}, {Op: api.I64Const, N: -1}, {Op: api.I32Wrap}, {Op: api.End}, {Op: api.Drop}, {Op: api.End},
	}, "\x20\x01\x04\x7d\x41\xc0\x00\x28\x01\xac\x02\xf0\x05\x42\x7f\xa7\x0b\x1a\x0b", api.OK)
	var l []api.Instr
	want := ""
	for _, s := range spellings() {
		l, want = append(l, s.x), want+s.b
		holdBody(t, l, want, api.OK)
	}
}

func TestBodyWithOneThatIsNotRight(t *testing.T) {
	for _, x := range wrongs() {
		for _, long := range []int{1, 2, 3, 7} {
			for at := range long {
				l := make([]api.Instr, long)
				for i := range l {
					l[i] = spellings()[5*i].x
				}
				l[at] = x
				holdBody(t, l, "", api.ErrArg)
			}
		}
		holdBody(t, []api.Instr{x, x}, "", api.ErrArg)
	}
}

// P4.2: what is read, and what is refused.

func TestTakeOfKnownBytes(t *testing.T) {
	for _, s := range spellings() {
		for _, rest := range []string{"", "\x00", "\x0b", "\x7f", "\x80", "\xff\xff", "any text"} {
			holdTake(t, s.b+rest, s.x, rest, api.OK)
		}
	}
}

func TestTakeOfEachFirstByte(t *testing.T) {
	refused(t, "")
	for op := range 256 {
		first := string([]byte{byte(op)})
		if kindOf(op) == 1 {
			holdTake(t, first, api.Instr{Op: op}, "", api.OK)
			holdTake(t, first+"\x00\x00", api.Instr{Op: op}, "\x00\x00", api.OK)
		} else {
			refused(t, first)
		}
		if kindOf(op) == 0 {
			refused(t, first+"\x00\x00")
			refused(t, first+"\x40\x0b")
		}
	}
}

func TestTakeOfEachByteBehindABlock(t *testing.T) {
	brings := map[int]int{0x40: 0, 0x7f: 1 + api.I32, 0x7e: 1 + api.I64, 0x7d: 1 + api.S32, 0x7c: 1 + api.S64}
	for _, op := range []int{api.Block, api.Loop, api.If} {
		for behind := range 256 {
			b := string([]byte{byte(op), byte(behind)})
			if m, ok := brings[behind]; ok {
				holdTake(t, b+"\x40", api.Instr{Op: op, M: m}, "\x40", api.OK)
				continue
			}
			refused(t, b)
			refused(t, b+"\x40\x0b")
		}
	}
}

func TestBytesThatAreCutOffAreRefused(t *testing.T) {
	for _, x := range instructions() {
		b := written(x)
		for i := range len(b) {
			refused(t, b[:i])
		}
	}
}

func TestFormsThatAreNotTheShortestAreRefused(t *testing.T) {
	for _, b := range []string{
		"\x0c\x80\x00", "\x10\x81\x00", "\x20\xff\x80\x00", "\x24\xff\xff\xff\xff\x8f\x00",
		"\x28\x80\x00\x00", "\x28\x81\x00\x00", "\x29\x00\x80\x00", "\x36\x01\xac\x82\x00", "\x37\x01\xff\xff\xff\xff\x8f\x00",
		"\x41\x80\x00", "\x41\xbf\x00", "\x41\xff\x7f", "\x41\xc0\x7f", "\x41\xc0\x80\x00", "\x41\xff\xff\xff\xff\x87\x00", "\x41\x80\x80\x80\x80\xf8\x7f",
		"\x42\x80\x00", "\x42\xff\x7f", "\x42\xff\xff\xff\xff\xff\xff\xff\xff\xff\x80\x00", "\x42\x80\x80\x80\x80\x80\x80\x80\x80\x80\xff\x7f",
	} {
		refused(t, b)
		refused(t, b+"\x00")
	}
}

func TestNumbersOfTooManyBitsAreRefused(t *testing.T) {
	for _, b := range []string{
		"\x0c\x80\x80\x80\x80\x10", "\x23\xff\xff\xff\xff\x1f", "\x10\xff\xff\xff\xff\x7f", "\x22\xff\xff\xff\xff\xff\x01",
		"\x28\x02\x00", "\x29\x03\x00", "\x36\x7f\x00", "\x37\x80\x01\x00", "\x28\x00\x80\x80\x80\x80\x10", "\x28\x01\x80\x80\x80\x80\x10",
		"\x41\x80\x80\x80\x80\x08", "\x41\xff\xff\xff\xff\x0f", "\x41\xff\xff\xff\xff\x77", "\x41\x80\x80\x80\x80\x70",
		"\x42\x80\x80\x80\x80\x80\x80\x80\x80\x80\x01", "\x42\xff\xff\xff\xff\xff\xff\xff\xff\xff\x7e", "\x42\x80\x80\x80\x80\x80\x80\x80\x80\x80\x80\x01",
	} {
		refused(t, b)
		refused(t, b+"\x00")
	}
}

func TestShortBytes(t *testing.T) {
	for a := range 256 {
		for b := range 256 {
			holdReading(t, string([]byte{byte(a), byte(b)}))
			if kindOf(a) == 0 || kindOf(a) == 1 {
				continue
			}
			for _, c := range []byte{0, 1, 2, 0x3f, 0x40, 0x7f, 0x80, 0x81, 0xff} {
				holdReading(t, string([]byte{byte(a), byte(b), c}))
				holdReading(t, string([]byte{byte(a), byte(b), c, 0x01, 0x02}))
			}
		}
	}
}

func TestLongBytes(t *testing.T) {
	for _, first := range []string{"\x02", "\x0c", "\x28", "\x28\x00", "\x37\x01", "\x41", "\x42"} {
		for _, fill := range []string{"\x80", "\xff", "\xc0", "\xbf", "\xaa"} {
			for long := range 12 {
				for last := range 256 {
					b := first + strings.Repeat(fill, long) + string([]byte{byte(last)})
					holdReading(t, b)
					holdReading(t, b+"\x00")
					holdReading(t, b+"\x7f\x01")
				}
			}
		}
	}
}

// P4.3: what follows.

func TestWhatWasWrittenIsReadAsItWas(t *testing.T) {
	for _, x := range instructions() {
		b, e := inst.Bytes(x)
		if e != api.OK {
			t.Errorf("Bytes(%x): %d", x, e)
		}
		for _, rest := range []string{"", "\x00", "\x7f\x80", "\xff"} {
			holdTake(t, b+rest, x, rest, api.OK)
		}
	}
}

func TestABodyIsReadOneBehindTheOther(t *testing.T) {
	all := instructions()
	rest, e := inst.Body(all)
	if e != api.OK {
		t.Fatalf("Body: %d", e)
	}
	for i, want := range all {
		var x api.Instr
		if x, rest, e = inst.Take(rest); x != want || e != api.OK {
			t.Fatalf("read %x, %d as the %d.; want %x", x, e, i, want)
		}
	}
	if rest != "" {
		t.Errorf("%d bytes are left over", len(rest))
	}
}

// P3 and P4.

func TestTheListHandedInStaysAsItWas(t *testing.T) {
	whole := []api.Instr{{Op: api.I32Load, N: 5, M: 1}, {Op: api.Block, M: 2}, {Op: api.I64Const, N: -9}, {Op: api.Nop, N: 3}, {Op: -1, M: 8}}
	kept := slices.Clone(whole)
	for long := range len(whole) + 1 {
		inst.Body(whole[:long])
		if !slices.Equal(whole, kept) {
			t.Fatalf("%x after a Body of %d; was %x", whole, long, kept)
		}
	}
}

func TestAnswersStayTheSame(t *testing.T) {
	for range 2 {
		for _, s := range spellings() {
			holdBytes(t, s.x, s.b, api.OK)
			holdTake(t, s.b+s.b, s.x, s.b, api.OK)
			refused(t, "\x28\x02"+s.b)
			holdBytes(t, api.Instr{Op: s.x.Op, N: s.x.N, M: 9}, "", api.ErrArg)
			holdBody(t, []api.Instr{s.x, s.x}, s.b+s.b, api.OK)
		}
	}
}
