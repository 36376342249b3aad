package xcode_test

import (
	"math"
	"slices"
	"strings"
	"testing"

	"oubliette/api"
	"oubliette/xcode"
)

func holdEncode(t *testing.T, x api.X, want string) {
	t.Helper()
	if b, e := xcode.Encode(x); b != want || e != api.OK {
		t.Errorf("Encode(%+v) = %x, %d; want %x", x, b, e, want)
	}
	if !xcode.Right(x) {
		t.Errorf("not Right(%+v)", x)
	}
}

// wrong holds that x is no instruction, alone and among others.
func wrong(t *testing.T, x api.X) {
	t.Helper()
	if xcode.Right(x) {
		t.Errorf("Right(%+v)", x)
	}
	if b, e := xcode.Encode(x); b != "" || e != api.ErrArg {
		t.Errorf("Encode(%+v) = %x, %d; want ErrArg", x, b, e)
	}
}

func holdAll(t *testing.T, l []api.X, want string, err api.Errno) {
	t.Helper()
	if b, e := xcode.All(l); b != want || e != err {
		t.Errorf("All(%+v) = %x, %d; want %x, %d", l, b, e, want, err)
	}
}

func holdDecode(t *testing.T, b string, want api.X, long int) {
	t.Helper()
	if x, n, e := xcode.Decode(b); x != want || n != long || e != api.OK {
		t.Errorf("Decode(%x) = %+v, %d, %d; want %+v, %d", b, x, n, e, want, long)
	}
}

func refused(t *testing.T, b string) {
	t.Helper()
	if x, n, e := xcode.Decode(b); x != (api.X{}) || n != 0 || e != api.ErrForm {
		t.Errorf("Decode(%x) = %+v, %d, %d; want ErrForm", b, x, n, e)
	}
}

// holdReading holds Decode against the table, whatever b is.
func holdReading(t *testing.T, b string) {
	t.Helper()
	if x, n, ok := taken(b); ok {
		holdDecode(t, b, x, n)
	} else {
		refused(t, b)
	}
}

type spelling struct {
	x api.X
	b string
}

// spellings are put down by hand, as bytes that the real machine reads so.
func spellings() []spelling {
	return []spelling{
		{api.X{Op: api.XMov, Wide: true, R: 0, B: 3}, "\x48\x89\xc3"},
		{api.X{Op: api.XMov, R: 1, B: 2}, "\x89\xca"},
		{api.X{Op: api.XMov, R: 8, B: 7}, "\x44\x89\xc7"},
		{api.X{Op: api.XMov, R: 7, B: 8}, "\x41\x89\xf8"},
		{api.X{Op: api.XMov, Wide: true, R: 15, B: 12}, "\x4d\x89\xfc"},
		{api.X{Op: api.XMovI, Wide: true, R: 0, N: 7}, "\x48\xb8\x07\x00\x00\x00\x00\x00\x00\x00"},
		{api.X{Op: api.XMovI, Wide: true, R: 12, N: 0x0123456789abcdef}, "\x49\xbc\xef\xcd\xab\x89\x67\x45\x23\x01"},
		{api.X{Op: api.XMovI, Wide: true, R: 7, N: math.MinInt}, "\x48\xbf\x00\x00\x00\x00\x00\x00\x00\x80"},
		{api.X{Op: api.XAlu, C: api.Add, R: 1, B: 0}, "\x01\xc8"},
		{api.X{Op: api.XAlu, C: api.Or, R: 1, B: 0}, "\x09\xc8"},
		{api.X{Op: api.XAlu, C: api.And, R: 9, B: 0}, "\x44\x21\xc8"},
		{api.X{Op: api.XAlu, C: api.Sub, Wide: true, R: 1, B: 10}, "\x49\x29\xca"},
		{api.X{Op: api.XAlu, C: api.Xor, R: 2, B: 2}, "\x31\xd2"},
		{api.X{Op: api.XAlu, C: api.Cmp, Wide: true, R: 15, B: 15}, "\x4d\x39\xff"},
		{api.X{Op: api.XAluI, C: api.Add, B: 0, N: 1}, "\x81\xc0\x01\x00\x00\x00"},
		{api.X{Op: api.XAluI, C: api.Sub, Wide: true, B: 4, N: 16}, "\x48\x81\xec\x10\x00\x00\x00"},
		{api.X{Op: api.XAluI, C: api.Cmp, B: 15, N: -1}, "\x41\x81\xff\xff\xff\xff\xff"},
		{api.X{Op: api.XAluI, C: api.And, Wide: true, B: 9, N: math.MaxInt32}, "\x49\x81\xe1\xff\xff\xff\x7f"},
		{api.X{Op: api.XAluI, C: api.Xor, B: 3, N: math.MinInt32}, "\x81\xf3\x00\x00\x00\x80"},
		{api.X{Op: api.XTest, R: 0, B: 0}, "\x85\xc0"},
		{api.X{Op: api.XTest, Wide: true, R: 8, B: 1}, "\x4c\x85\xc1"},
		{api.X{Op: api.XMul, R: 0, B: 1}, "\x0f\xaf\xc1"},
		{api.X{Op: api.XMul, Wide: true, R: 8, B: 9}, "\x4d\x0f\xaf\xc1"},
		{api.X{Op: api.XShift, C: api.Rol, B: 0}, "\xd3\xc0"},
		{api.X{Op: api.XShift, C: api.Ror, B: 8}, "\x41\xd3\xc8"},
		{api.X{Op: api.XShift, C: api.Shl, Wide: true, B: 0}, "\x48\xd3\xe0"},
		{api.X{Op: api.XShift, C: api.Shr, B: 3}, "\xd3\xeb"},
		{api.X{Op: api.XShift, C: api.Sar, Wide: true, B: 15}, "\x49\xd3\xff"},
		{api.X{Op: api.XDiv, B: 1}, "\xf7\xf1"},
		{api.X{Op: api.XDiv, Wide: true, B: 9}, "\x49\xf7\xf1"},
		{api.X{Op: api.XIdiv, B: 9}, "\x41\xf7\xf9"},
		{api.X{Op: api.XIdiv, Wide: true, B: 3}, "\x48\xf7\xfb"},
		{api.X{Op: api.XSign}, "\x99"},
		{api.X{Op: api.XSign, Wide: true}, "\x48\x99"},
		{api.X{Op: api.XLoad, R: 0, B: 15, N: 8}, "\x41\x8b\x84\x27\x08\x00\x00\x00"},
		{api.X{Op: api.XLoad, R: 0, B: 0}, "\x8b\x84\x20\x00\x00\x00\x00"},
		{api.X{Op: api.XLoad, Wide: true, R: 9, B: 4, I: 13, N: -8}, "\x4e\x8b\x8c\x24\xf8\xff\xff\xff"},
		{api.X{Op: api.XLoad, Wide: true, R: 9, B: 4, N: -8}, "\x4c\x8b\x8c\x24\xf8\xff\xff\xff"},
		{api.X{Op: api.XLoad, R: 2, B: 5, I: 4}, "\x8b\x94\x1d\x00\x00\x00\x00"},
		{api.X{Op: api.XStore, R: 2, B: 5, I: 6}, "\x89\x94\x2d\x00\x00\x00\x00"},
		{api.X{Op: api.XStore, Wide: true, R: 15, B: 14, I: 16, N: 0x10000}, "\x4f\x89\xbc\x3e\x00\x00\x01\x00"},
		{api.X{Op: api.XSet, C: api.CB}, "\x0f\x92\xc0"},
		{api.X{Op: api.XSet, C: api.CG}, "\x0f\x9f\xc0"},
		{api.X{Op: api.XByte}, "\x0f\xb6\xc0"},
		{api.X{Op: api.XCmov, C: api.CNE, R: 0, B: 1}, "\x0f\x45\xc1"},
		{api.X{Op: api.XCmov, C: api.CLE, Wide: true, R: 8, B: 15}, "\x4d\x0f\x4e\xc7"},
		{api.X{Op: api.XWiden, Wide: true, R: 0, B: 0}, "\x48\x63\xc0"},
		{api.X{Op: api.XWiden, Wide: true, R: 8, B: 1}, "\x4c\x63\xc1"},
		{api.X{Op: api.XJmp, N: -5}, "\xe9\xfb\xff\xff\xff"},
		{api.X{Op: api.XJmp, N: math.MaxInt32}, "\xe9\xff\xff\xff\x7f"},
		{api.X{Op: api.XCall, N: math.MinInt32}, "\xe8\x00\x00\x00\x80"},
		{api.X{Op: api.XJcc, C: api.CAE, N: 0x12345678}, "\x0f\x83\x78\x56\x34\x12"},
		{api.X{Op: api.XJcc, C: api.CGE}, "\x0f\x8d\x00\x00\x00\x00"},
		{api.X{Op: api.XRet}, "\xc3"},
		{api.X{Op: api.XHlt}, "\xf4"},
		{api.X{Op: api.XStop}, "\x0f\x0b"},
		{api.X{Op: api.XHost}, "\xcc"},
	}
}

// wrongs are instructions with one thing that may not be, by what that is.
func wrongs() map[string]api.X {
	return map[string]api.X{
		"nothing":                       {},
		"no kind":                       {Op: 24},
		"a kind below 0":                {Op: -1},
		"low bits of a kind":            {Op: 1<<32 + api.XRet},
		"register 16":                   {Op: api.XMov, R: 16},
		"register -1":                   {Op: api.XMov, B: -1},
		"a register's low bits":         {Op: api.XTest, R: 1 << 32},
		"register 16, MovI":             {Op: api.XMovI, Wide: true, R: 16},
		"B of MovI":                     {Op: api.XMovI, Wide: true, B: 1},
		"MovI not wide":                 {Op: api.XMovI},
		"Widen not wide":                {Op: api.XWiden},
		"N of Mov":                      {Op: api.XMov, N: 1},
		"I of Mov":                      {Op: api.XMov, I: 1},
		"C of Mov":                      {Op: api.XMov, C: 1},
		"C of Mul":                      {Op: api.XMul, C: api.CE},
		"no sum":                        {Op: api.XAlu, C: 2},
		"no sum with a number":          {Op: api.XAluI, C: 3},
		"a sum below 0":                 {Op: api.XAlu, C: -1},
		"a sum's low bits":              {Op: api.XAluI, C: 8 + api.Sub},
		"R of AluI":                     {Op: api.XAluI, R: 1},
		"33 bits":                       {Op: api.XAluI, N: 1 << 31},
		"33 bits below 0":               {Op: api.XAluI, N: -1<<31 - 1},
		"no shift: 2":                   {Op: api.XShift, C: 2},
		"no shift: 6":                   {Op: api.XShift, C: api.Xor},
		"R of Shift":                    {Op: api.XShift, R: 1},
		"N of Shift":                    {Op: api.XShift, N: 1},
		"R of Div":                      {Op: api.XDiv, R: 6},
		"C of Div":                      {Op: api.XDiv, C: 6},
		"C of Idiv":                     {Op: api.XIdiv, C: 7},
		"B of Sign":                     {Op: api.XSign, B: 2},
		"the stack's register as index": {Op: api.XLoad, I: 5},
		"index 17":                      {Op: api.XLoad, I: 17},
		"index -1":                      {Op: api.XStore, I: -1},
		"the least index":               {Op: api.XStore, I: math.MinInt},
		"a load's N":                    {Op: api.XLoad, N: math.MaxUint32},
		"C of Store":                    {Op: api.XStore, C: 1},
		"no condition: 0":               {Op: api.XSet},
		"no condition: 8":               {Op: api.XSet, C: 8},
		"no condition: 11":              {Op: api.XCmov, C: 11},
		"no condition: 1":               {Op: api.XJcc, C: 1},
		"no condition: 16":              {Op: api.XJcc, C: 16},
		"a condition's low bits":        {Op: api.XJcc, C: 16 + api.CE},
		"Set of another register":       {Op: api.XSet, C: api.CE, R: 1},
		"Set wide":                      {Op: api.XSet, C: api.CE, Wide: true},
		"Byte of another register":      {Op: api.XByte, B: 1},
		"Byte wide":                     {Op: api.XByte, Wide: true},
		"Jmp wide":                      {Op: api.XJmp, Wide: true},
		"Jmp too far":                   {Op: api.XJmp, N: math.MaxInt},
		"Call too far":                  {Op: api.XCall, N: math.MinInt},
		"Jmp with a condition":          {Op: api.XJmp, C: api.CE},
		"Jcc too far":                   {Op: api.XJcc, C: api.CE, N: 1 << 31},
		"Ret wide":                      {Op: api.XRet, Wide: true},
		"N of Ret":                      {Op: api.XRet, N: 1},
		"R of Hlt":                      {Op: api.XHlt, R: 1},
		"I of Stop":                     {Op: api.XStop, I: 1},
		"C of Host":                     {Op: api.XHost, C: 2},
	}
}

// P11.1

func TestExamples(t *testing.T) {
	holdEncode(t, api.X{Op: api.XMov, Wide: true, R: 0, B: 3}, "\x48\x89\xc3")
	holdEncode(t, api.X{Op: api.XAluI, C: api.Sub, Wide: true, B: 4, N: 16}, "\x48\x81\xec\x10\x00\x00\x00")
	holdEncode(t, api.X{Op: api.XLoad, R: 0, B: 15, N: 8}, "\x41\x8b\x84\x27\x08\x00\x00\x00")
}

func TestBytesOfKnownInstructions(t *testing.T) {
	for _, s := range spellings() {
		holdEncode(t, s.x, s.b)
	}
}

func TestBytesAreAsTheTableSays(t *testing.T) {
	instructions(func(x api.X, b string) { holdEncode(t, x, b) })
}

func TestWrongInstructions(t *testing.T) {
	for why, x := range wrongs() {
		t.Run(why, func(t *testing.T) { wrong(t, x) })
	}
}

// fieldValues are all that a field may be, and such as have their low bits.
func fieldValues() []int {
	out := []int{math.MinInt, math.MinInt + 4, -1 << 32, -256, -16, -8, -1, 1 << 8, 1<<8 + 4, 1 << 32, 1<<32 + 2, math.MaxInt}
	for n := range 33 {
		out = append(out, n)
	}
	return out
}

func TestRightIsAsTheTableSaysWhereOneFieldIsAnother(t *testing.T) {
	values := append(fieldValues(), numbers()...)
	for _, h := range heads {
		x := h.x
		hold := func() {
			if got, want := xcode.Right(x), right(x); got != want {
				t.Errorf("Right(%+v) = %v; want %v", x, got, want)
			}
		}
		x.Wide = !x.Wide
		hold()
		x = h.x
		for _, field := range []*int{&x.Op, &x.R, &x.B, &x.I, &x.C, &x.N} {
			kept := *field
			for _, *field = range values {
				hold()
			}
			*field = kept
		}
	}
}

func TestRightIsAsTheTableSaysOfAnyFields(t *testing.T) {
	for op := -1; op <= 25; op++ {
		for _, w := range both {
			for _, r := range []int{0, 7, 8, 15, 16, -1} {
				for _, b := range []int{0, 4, 15, 16, -1} {
					for _, i := range []int{0, 1, 5, 13, 16, 17, -1} {
						for c := -1; c <= 17; c++ {
							for _, n := range []int{0, 1, -1, math.MaxInt32, math.MinInt32, math.MaxInt32 + 1, math.MinInt32 - 1} {
								x := api.X{Op: op, Wide: w, R: r, B: b, I: i, C: c, N: n}
								if got, want := xcode.Right(x), right(x); got != want {
									t.Errorf("Right(%+v) = %v; want %v", x, got, want)
								} else if !want && (op+r+b+i+c+n)%16 == 0 {
									wrong(t, x)
								}
							}
						}
					}
				}
			}
		}
	}
}

func TestAllIsTheBytesOfAll(t *testing.T) {
	holdAll(t, nil, "", api.OK)
	holdAll(t, []api.X{}, "", api.OK)
	holdAll(t, []api.X{{Op: api.XRet}}, "\xc3", api.OK)
	var l []api.X
	want := ""
	for _, s := range spellings() {
		l, want = append(l, s.x), want+s.b
		holdAll(t, l, want, api.OK)
	}
}

func TestAllWithOneThatIsNotRight(t *testing.T) {
	for _, x := range wrongs() {
		holdAll(t, []api.X{x}, "", api.ErrArg)
		holdAll(t, []api.X{x, x}, "", api.ErrArg)
		for at := range 5 {
			l := make([]api.X, 5)
			for i := range l {
				l[i] = spellings()[7*i].x
			}
			l[at] = x
			holdAll(t, l, "", api.ErrArg)
		}
	}
}

// P11.2

// behinds are what may stand behind an instruction.
func behinds() []string {
	return []string{"", "\x00", "\x90", "\xff", "\x48", "\x0f", "\xc3", "\x00\x00\x00\x00\x00\x00\x00\x00\x00", "\xff\xff\xff\xff\xff\xff\xff\xff\xff", "any text that is long"}
}

func TestDecodeOfKnownBytes(t *testing.T) {
	for _, s := range spellings() {
		for _, behind := range behinds() {
			holdDecode(t, s.b+behind, s.x, len(s.b))
		}
	}
}

func TestBytesThatAreNoInstruction(t *testing.T) {
	for why, b := range map[string]string{
		"nothing": "", "no code": "\x90", "a REX alone": "\x48", "a REX that says nothing": "\x40\x89\xc3", "two of REX": "\x48\x48\x89\xc3", "half a code": "\x0f", "REX and half a code": "\x48\x0f",
		"a width that may not be": "\x48\xc3", "a width of Jmp": "\x48\xe9\x00\x00\x00\x00", "a width of Set": "\x48\x0f\x94\xc0", "a width that must be: MovI": "\xb8\x01\x00\x00\x00\x00\x00\x00\x00", "a width that must be: Widen": "\x63\xc0",
		"REX of a part that is none: r": "\x44\xd3\xe0", "REX of a part that is none: x": "\x4a\x89\xc3", "REX of a part that is none: b": "\x49\x99", "REX of Ret": "\x41\xc3", "REX of MovI's index": "\x4a\xb8\x00\x00\x00\x00\x00\x00\x00\x00",
		"Mov in memory": "\x89\x03", "Mov in memory near by": "\x89\x43\x00", "Load without index": "\x8b\x80\x00\x00\x00\x00", "Load of a register": "\x8b\xc3", "Load near by": "\x8b\x44\x27\x08", "Load with a scale": "\x8b\x84\x64\x00\x00\x00\x00",
		"no condition: overflow": "\x0f\x80\x00\x00\x00\x00", "no condition: sign": "\x0f\x88\x00\x00\x00\x00", "no condition: parity": "\x0f\x9a\xc0", "no condition of Cmov": "\x0f\x4b\xc0",
		"no sum: with carry": "\x11\xc0", "no sum: with borrow": "\x81\xd8\x01\x00\x00\x00", "no shift: 2": "\xd3\xd0", "no shift: 6": "\xd3\xf0", "no division: 0": "\xf7\xc0\x00\x00\x00\x00", "no division: 5": "\xf7\xe9",
		"Set of another register": "\x0f\x94\xc1", "Set in a middle": "\x0f\x94\xc8", "Byte of another register": "\x0f\xb6\xc1", "Byte in memory": "\x0f\xb6\x00",
		"a cut number": "\xe9\x00\x00\x00", "a cut number of 64 bits": "\x48\xb8\x00\x00\x00\x00\x00\x00\x00", "a cut place": "\x41\x8b\x84\x27\x08\x00\x00", "no MR": "\x48\x89",
	} {
		t.Run(why, func(t *testing.T) { refused(t, b) })
	}
}

func TestBytesThatAreCutOffAreRefused(t *testing.T) {
	instructions(func(_ api.X, b string) {
		for long := range len(b) {
			refused(t, b[:long])
		}
	})
}

// prefixes are nothing, each REX, and such as are none.
func prefixes() []string {
	out := []string{"", "\x66", "\xf2", "\x48\x48", "\x40\x48"}
	for n := range 16 {
		out = append(out, bytesOf(0x40+n))
	}
	return out
}

func TestEachCodeWithEachByteBehind(t *testing.T) {
	for _, prefix := range prefixes() {
		for first := range 256 {
			holdReading(t, prefix+bytesOf(first))
			for second := range 256 {
				b := prefix + bytesOf(first, second)
				holdReading(t, b)
				holdReading(t, b+"\x24\x78\x56\x34\x92\xef\xcd\xab\x89")
			}
		}
	}
}

func TestEachCodeOfTwoBytesWithEachByteBehind(t *testing.T) {
	for _, prefix := range prefixes() {
		for second := range 256 {
			for third := range 256 {
				holdReading(t, prefix+bytesOf(0x0f, second, third))
				holdReading(t, prefix+bytesOf(0x0f, second, third, 0xff, 0xff, 0x7f, 0xff))
			}
		}
	}
}

func TestEachPlace(t *testing.T) {
	for _, prefix := range prefixes() {
		for _, code := range []int{0x89, 0x8b} {
			for second := range 256 {
				for third := range 256 {
					holdReading(t, prefix+bytesOf(code, second, third, 0xf8, 0xff, 0xff, 0x7f))
				}
			}
		}
	}
}

func TestManyBytes(t *testing.T) {
	seed := uint64(1)
	next := func() byte {
		seed = seed*6364136223846793005 + 1442695040888963407
		return byte(seed >> 56)
	}
	firsts := []byte{0x0f, 0x48, 0x49, 0x89, 0x8b, 0x81, 0xb8, 0xe9, 0xf7, 0xd3}
	for range 300000 {
		b := make([]byte, 1+next()%14)
		for i := range b {
			if b[i] = next(); i < 3 && next()%2 == 0 {
				b[i] = firsts[int(next())%len(firsts)]
			}
		}
		holdReading(t, string(b))
	}
}

// P11.3

func TestWhatWasWrittenIsReadAsItWas(t *testing.T) {
	instructions(func(x api.X, _ string) {
		b, _ := xcode.Encode(x)
		for _, behind := range behinds() {
			holdDecode(t, b+behind, x, len(b))
		}
		holdDecode(t, b+b, x, len(b))
	})
}

func TestNoInstructionsBytesBeginWithAnotherOnes(t *testing.T) {
	var all []string
	instructions(func(x api.X, _ string) {
		b, _ := xcode.Encode(x)
		all = append(all, b)
	})
	slices.Sort(all)
	// Whatever begins with a text stands right behind it.
	for i := 1; i < len(all); i++ {
		if all[i-1] == "" || strings.HasPrefix(all[i], all[i-1]) {
			t.Errorf("%x begins with %x", all[i], all[i-1])
		}
	}
}

func TestAllIsReadOneBehindTheOther(t *testing.T) {
	var l []api.X
	instructions(func(x api.X, _ string) { l = append(l, x) })
	code, e := xcode.All(l)
	if e != api.OK {
		t.Fatalf("All: %d", e)
	}
	for i, want := range l {
		x, n, e := xcode.Decode(code)
		if x != want || e != api.OK {
			t.Fatalf("read %+v, %d as the %d.; want %+v", x, e, i, want)
		}
		code = code[n:]
	}
	if code != "" {
		t.Errorf("%d bytes are left over", len(code))
	}
}

// P3 and P4.

func TestTheListHandedInStaysAsItWas(t *testing.T) {
	whole := []api.X{{Op: api.XLoad, R: 3, B: 9, I: 2, N: 8}, {Op: api.XIdiv, B: 2}, {Op: api.XAluI, C: api.Cmp, B: 1, N: 5}, {Op: -3, R: 2}, {Op: api.XRet, N: 9}}
	kept := slices.Clone(whole)
	for long := range len(whole) + 1 {
		xcode.All(whole[:long])
		if !slices.Equal(whole, kept) {
			t.Fatalf("%+v after All of %d; was %+v", whole, long, kept)
		}
	}
}

func TestAnswersStayTheSame(t *testing.T) {
	for range 2 {
		for _, s := range spellings() {
			holdEncode(t, s.x, s.b)
			holdDecode(t, s.b+s.b, s.x, len(s.b))
			refused(t, "\x40"+s.b)
			x := s.x
			x.R = 99
			wrong(t, x)
			holdAll(t, []api.X{s.x, s.x}, s.b+s.b, api.OK)
		}
	}
}
