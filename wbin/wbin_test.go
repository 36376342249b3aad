package wbin_test

import (
	"errors"
	"math"
	"math/rand/v2"
	"slices"
	"strings"
	"testing"

	"oubliette/api"
	"oubliette/wbin"
)

const greatest32 = 1<<32 - 1

func end() api.Instr { return api.Instr{Op: api.End} }

// ends is a body of its End alone.
func ends() []api.Instr { return []api.Instr{end()} }

// nested is a body with blocks of all sorts within one another and beside one another.
func nested() []api.Instr {
	return []api.Instr{
		{Op: api.Block, M: 1 + api.S64}, {Op: api.Loop}, {Op: api.If}, {Op: api.Else}, end(), end(), {Op: api.Block}, end(), {Op: api.I64Const, N: -1}, end(), end(),
	}
}

// everything is a module with something of every section.
func everything() api.Module {
	return api.Module{
		Sigs: []api.Sig{
			{Params: []int{api.I32, api.S64}, Results: []int{api.S32}},
			{},
			{Params: []int{api.I64, api.I64, api.S32, api.I32}, Results: []int{api.I64}},
		},
		Imports: []int{1, 300},
		Funcs: []api.Func{
			{Sig: 2, Trusted: true, Locals: []int{api.I64, api.S32}, Body: nested()},
			{Body: ends()},
			{Sig: 1, Locals: []int{api.S64}, Body: []api.Instr{{Op: api.I32Load, N: 300, M: 1}, {Op: api.Return}, end()}},
		},
		Mems:    [2]int{3, 12},
		Globals: []api.Global{{T: api.I32, V: greatest32}, {T: api.I64, V: -65}, {T: api.S32, V: 64}, {T: api.S64, V: 1 << 32}},
		Data:    []api.Data{{At: 1, Bytes: "hi"}, {Mem: 1, At: 200}},
	}
}

// everythingSections are its bytes behind the Head, written out by hand.
func everythingSections() []string {
	return []string{
		"\x01\x0f\x03" + "\x02\x7f\x7c\x01\x7d" + "\x00\x00" + "\x04\x7e\x7e\x7d\x7f\x01\x7e",
		"\x02\x04\x02" + "\x01" + "\xac\x02",
		"\x03\x07\x03" + "\x02\x01" + "\x00\x00" + "\x01\x00",
		"\x05\x03\x02" + "\x03" + "\x0c",
		"\x06\x0f\x04" + "\x7f\x7f" + "\x7e\xbf\x7f" + "\x7d\xc0\x00" + "\x7c\x80\x80\x80\x80\x10",
		"\x0a\x21\x03" + "\x02\x7e\x7d\x10" + "\x02\x7c\x03\x40\x04\x40\x05\x0b\x0b\x02\x40\x0b\x42\x7f\x0b\x0b" +
			"\x00\x01\x0b" + "\x01\x7c\x06\x28\x01\xac\x02\x0f\x0b",
		"\x0b\x0a\x02" + "\x00\x01\x02hi" + "\x01\xc8\x01\x00",
	}
}

func everythingBytes() string { return theHead + strings.Join(everythingSections(), "") }

// spelling is a module and its bytes behind the Head.
type spelling struct {
	m api.Module
	b string
}

func spellings() map[string]spelling {
	return map[string]spelling{
		"nothing":                 {api.Module{}, ""},
		"empty lists":             {api.Module{Sigs: []api.Sig{}, Imports: []int{}, Funcs: []api.Func{}, Globals: []api.Global{}, Data: []api.Data{}}, ""},
		"everything":              {everything(), strings.Join(everythingSections(), "")},
		"signatures alone":        {api.Module{Sigs: []api.Sig{{Params: []int{api.I32, api.I64, api.S32, api.S64}}, {Results: []int{api.S64}}}}, "\x01\x0a\x02\x04\x7f\x7e\x7d\x7c\x00\x00\x01\x7c"},
		"a signature of nothing":  {api.Module{Sigs: []api.Sig{{}}}, "\x01\x03\x01\x00\x00"},
		"imports alone":           {api.Module{Imports: []int{0, 127, 128}}, "\x02\x05\x03\x00\x7f\x80\x01"},
		"functions alone":         {api.Module{Funcs: []api.Func{{Sig: 5, Body: ends()}, {Trusted: true, Body: ends()}}}, "\x03\x05\x02\x05\x00\x00\x01\x0a\x07\x02\x00\x01\x0b\x00\x01\x0b"},
		"a public memory alone":   {api.Module{Mems: [2]int{3, 0}}, "\x05\x03\x02\x03\x00"},
		"a secret memory alone":   {api.Module{Mems: [2]int{0, 3}}, "\x05\x03\x02\x00\x03"},
		"the greatest public one": {api.Module{Mems: [2]int{12, 0}}, "\x05\x03\x02\x0c\x00"},
		"the greatest secret one": {api.Module{Mems: [2]int{0, 12}}, "\x05\x03\x02\x00\x0c"},
		"both memories":           {api.Module{Mems: [2]int{12, 3}}, "\x05\x03\x02\x0c\x03"},
		"globals of 32 bits, least and greatest": {
			api.Module{Globals: []api.Global{{T: api.I32}, {T: api.I32, V: greatest32}, {T: api.S32}, {T: api.S32, V: greatest32}}},
			"\x06\x09\x04\x7f\x00\x7f\x7f\x7d\x00\x7d\x7f",
		},
		"globals of 32 bits, about their sign": {
			api.Module{Globals: []api.Global{{T: api.I32, V: 1<<31 - 1}, {T: api.S32, V: 1 << 31}}},
			"\x06\x0d\x02\x7f\xff\xff\xff\xff\x07\x7d\x80\x80\x80\x80\x78",
		},
		"globals of 64 bits, least and greatest": {
			api.Module{Globals: []api.Global{{T: api.I64, V: math.MinInt}, {T: api.S64, V: math.MaxInt}}},
			"\x06\x17\x02\x7e\x80\x80\x80\x80\x80\x80\x80\x80\x80\x7f\x7c\xff\xff\xff\xff\xff\xff\xff\xff\xff\x00",
		},
		"globals of 64 bits, the other way": {
			api.Module{Globals: []api.Global{{T: api.I64, V: math.MaxInt}, {T: api.S64, V: math.MinInt}}},
			"\x06\x17\x02\x7e\xff\xff\xff\xff\xff\xff\xff\xff\xff\x00\x7c\x80\x80\x80\x80\x80\x80\x80\x80\x80\x7f",
		},
		"globals of 64 bits, as great as 32": {
			api.Module{Globals: []api.Global{{T: api.I64, V: greatest32}, {T: api.S64, V: -1}}},
			"\x06\x09\x02\x7e\xff\xff\xff\xff\x0f\x7c\x7f",
		},
		"a datum at the last place":  {api.Module{Data: []api.Data{{At: greatest32, Bytes: "\x00\xff"}}}, "\x0b\x0a\x01\x00\xff\xff\xff\xff\x0f\x02\x00\xff"},
		"a datum of no bytes":        {api.Module{Data: []api.Data{{Mem: 1}}}, "\x0b\x04\x01\x01\x00\x00"},
		"an import, the last index":  {api.Module{Imports: []int{greatest32}}, "\x02\x06\x01\xff\xff\xff\xff\x0f"},
		"a function, the last index": {api.Module{Funcs: []api.Func{{Sig: greatest32, Body: ends()}}}, "\x03\x07\x01\xff\xff\xff\xff\x0f\x00\x0a\x04\x01\x00\x01\x0b"},
		"an instruction, the last index": {
			api.Module{Funcs: []api.Func{{Body: []api.Instr{{Op: api.Call, N: greatest32}, end()}}}},
			"\x03\x03\x01\x00\x00\x0a\x0a\x01\x00\x07\x10\xff\xff\xff\xff\x0f\x0b",
		},
		"a body with nested blocks": {
			api.Module{Funcs: []api.Func{{Body: nested()}}},
			"\x03\x03\x01\x00\x00\x0a\x13\x01\x00\x10\x02\x7c\x03\x40\x04\x40\x05\x0b\x0b\x02\x40\x0b\x42\x7f\x0b\x0b",
		},
		"an Else that has no If": {
			api.Module{Funcs: []api.Func{{Body: []api.Instr{{Op: api.Else}, end()}}}},
			"\x03\x03\x01\x00\x00\x0a\x05\x01\x00\x02\x05\x0b",
		},
	}
}

// The helpers that hold a call against what it must tell.

// same: whether two modules are one; a list of nothing may be nil or empty.
func same(a, b api.Module) bool {
	return slices.EqualFunc(a.Sigs, b.Sigs, func(x, y api.Sig) bool {
		return slices.Equal(x.Params, y.Params) && slices.Equal(x.Results, y.Results)
	}) && slices.Equal(a.Imports, b.Imports) && slices.EqualFunc(a.Funcs, b.Funcs, func(x, y api.Func) bool {
		return x.Sig == y.Sig && x.Trusted == y.Trusted && slices.Equal(x.Locals, y.Locals) && slices.Equal(x.Body, y.Body)
	}) && a.Mems == b.Mems && slices.Equal(a.Globals, b.Globals) && slices.Equal(a.Data, b.Data)
}

// holdError asks an error as its user would: by errors.Is of every code, and by errors.As.
func holdError(t *testing.T, what string, err error, code api.Errno, at int) {
	t.Helper()
	for _, c := range []api.Errno{api.OK, api.ErrLimit, api.ErrMalformed, api.ErrInvalid, api.ErrArg, api.ErrScript, api.ErrForm} {
		if is := c != api.OK && c == code; errors.Is(err, c) != is {
			t.Errorf("%s: errors.Is(%v, %d) = %v", what, err, c, !is)
		}
	}
	var f *api.Fault
	if !errors.As(err, &f) {
		if code != api.OK || err != nil {
			t.Errorf("%s: %v is no Fault; want %d at %d", what, err, code, at)
		}
		return
	}
	if f.Code != code || f.At != at {
		t.Errorf("%s: %d at %d; want %d at %d", what, f.Code, f.At, code, at)
	}
	if whole, ok := err.(*api.Fault); !ok || whole != f {
		t.Errorf("%s: the error is a %T, and no Fault itself", what, err)
	}
}

func holdFits(t *testing.T, what string, m api.Module, want api.Errno) {
	t.Helper()
	if e := wbin.Fits(m); e != want {
		t.Errorf("%s: Fits = %d; want %d", what, e, want)
	}
}

func holdEncode(t *testing.T, what string, m api.Module, want string, code api.Errno) {
	t.Helper()
	b, err := wbin.Encode(m)
	if b != want {
		t.Errorf("%s: Encode = %x; want %x", what, b, want)
	}
	holdError(t, what+", written", err, code, 0)
}

func holdDecode(t *testing.T, what, b string, want telling) {
	t.Helper()
	m, err := wbin.Decode(b)
	if !same(m, want.m) {
		t.Errorf("%s: Decode(%x) = %v; want %v", what, b, m, want.m)
	}
	holdError(t, what+", read", err, want.code, want.at)
}

// holdWrong holds a module that does not fit, as a module.
func holdWrong(t *testing.T, what string, m api.Module, code api.Errno) {
	t.Helper()
	holdFits(t, what, m, code)
	holdEncode(t, what, m, "", code)
}

// holdMalformed holds bytes that are none of a module, and where.
func holdMalformed(t *testing.T, what, b string, at int) {
	t.Helper()
	holdDecode(t, what, b, telling{code: api.ErrMalformed, at: at})
}

// P5.2, P5.3: known bytes

func TestHead(t *testing.T) {
	if b := wbin.Head(); b != theHead {
		t.Errorf("Head() = %x", b)
	}
}

func TestKnownBytes(t *testing.T) {
	for what, s := range spellings() {
		b := theHead + s.b
		holdFits(t, what, s.m, api.OK)
		holdEncode(t, what, s.m, b, api.OK)
		holdDecode(t, what, b, telling{m: s.m})
	}
}

// The reckoning is held against the known bytes, too: else it could be wrong together with the package.
func TestReckoning(t *testing.T) {
	for what, s := range spellings() {
		b := theHead + s.b
		if e := fits(s.m); e != api.OK {
			t.Errorf("%s: fits = %d", what, e)
		}
		if got := spell(s.m); got != b {
			t.Errorf("%s: spell = %x; want %x", what, got, b)
		}
		if got := told(b); !same(got.m, s.m) || got.code != api.OK || got.at != 0 {
			t.Errorf("%s: told = %v", what, got)
		}
	}
}

// P5.1: limits

// limited makes a module with n of something, and tells how many there may be.
type limited struct {
	most int
	of   func(n int) api.Module
}

func limits() map[string]limited {
	return map[string]limited{
		"signatures": {16, func(n int) api.Module { return api.Module{Sigs: make([]api.Sig, n)} }},
		"imports":    {8, func(n int) api.Module { return api.Module{Imports: make([]int, n)} }},
		"globals":    {8, func(n int) api.Module { return api.Module{Globals: make([]api.Global, n)} }},
		"data":       {8, func(n int) api.Module { return api.Module{Data: make([]api.Data, n)} }},
		"functions": {8, func(n int) api.Module {
			return api.Module{Funcs: slices.Repeat([]api.Func{{Body: ends()}}, n)}
		}},
		"parameters": {4, func(n int) api.Module {
			return api.Module{Sigs: []api.Sig{{}, {Params: make([]int, n)}}}
		}},
		"locals": {8, func(n int) api.Module {
			return api.Module{Funcs: []api.Func{{Body: ends()}, {Locals: make([]int, n), Body: ends()}}}
		}},
		"instructions": {200, func(n int) api.Module {
			nops := slices.Repeat([]api.Instr{{Op: api.Nop}}, max(n-1, 0))
			return api.Module{Funcs: []api.Func{{Body: ends()}, {Body: append(nops, end())}}}
		}},
		"the public memory": {12, func(n int) api.Module { return api.Module{Mems: [2]int{n, 3}} }},
		"the secret memory": {12, func(n int) api.Module { return api.Module{Mems: [2]int{3, n}} }},
	}
}

func TestLimits(t *testing.T) {
	for what, l := range limits() {
		for n := max(l.most-9, 3); n <= l.most; n++ {
			m := l.of(n)
			holdFits(t, what, m, api.OK)
			holdEncode(t, what, m, spell(m), api.OK)
			holdDecode(t, what, spell(m), telling{m: m})
		}
		for n := l.most + 1; n < l.most+9; n++ {
			m := l.of(n)
			holdWrong(t, what, m, api.ErrLimit)
			holdDecode(t, what, spell(m), telling{code: api.ErrLimit})
		}
	}
}

// All limits at once, with nothing beyond one of them.
func TestAsMuchAsMayBe(t *testing.T) {
	m := api.Module{Imports: make([]int, 8), Mems: [2]int{12, 12}, Globals: make([]api.Global, 8), Data: make([]api.Data, 8)}
	for range 16 {
		m.Sigs = append(m.Sigs, api.Sig{Params: make([]int, 4), Results: make([]int, 1)})
	}
	for range 8 {
		body := append(slices.Repeat([]api.Instr{{Op: api.I64Rotr}}, 199), end())
		m.Funcs = append(m.Funcs, api.Func{Locals: make([]int, 8), Body: body})
	}
	holdFits(t, "as much as may be", m, api.OK)
	holdEncode(t, "as much as may be", m, spell(m), api.OK)
	holdDecode(t, "as much as may be", spell(m), telling{m: m})
}

func TestMemorySizes(t *testing.T) {
	for n := range 256 {
		for _, mems := range [][2]int{{n, 0}, {0, n}, {n, 3}, {12, n}} {
			m, code := api.Module{Mems: mems}, api.OK
			if n > 0 && n < 3 || n > 12 {
				code = api.ErrLimit
			}
			holdFits(t, "memories", m, code)
			if n == 0 && mems[0] == mems[1] {
				holdEncode(t, "no memories", m, theHead, api.OK)
				holdMalformed(t, "no memories", theHead+"\x05\x03\x02\x00\x00", 6)
				continue
			}
			b := theHead + "\x05\x03\x02" + octet(mems[0]) + octet(mems[1])
			if code == api.OK {
				holdEncode(t, "memories", m, b, code)
				holdDecode(t, "memories", b, telling{m: m})
				continue
			}
			holdEncode(t, "memories", m, "", code)
			holdDecode(t, "memories", b, telling{code: code})
		}
	}
	for _, n := range []int{-1, -3, -12, 256, 256 + 3, 3 - 256, 1<<32 + 3, math.MinInt, math.MinInt + 3, math.MaxInt} {
		holdWrong(t, "a memory far off", api.Module{Mems: [2]int{n, 3}}, api.ErrLimit)
		holdWrong(t, "a memory far off", api.Module{Mems: [2]int{0, n}}, api.ErrLimit)
	}
}

// P5.1: what may not be

// wrongs are modules with one thing that may not be, with why.
func wrongs() map[string]api.Module {
	out := map[string]api.Module{
		"two results":       {Sigs: []api.Sig{{}, {Results: []int{api.I32, api.I64}}}},
		"three results":     {Sigs: []api.Sig{{Results: []int{api.I32, api.I32, api.I32}}}},
		"many results":      {Sigs: []api.Sig{{Results: make([]int, 300)}}},
		"a memory of -1":    {Data: []api.Data{{}, {Mem: -1}}},
		"a memory of 2":     {Data: []api.Data{{Mem: 2}, {}}},
		"an At of -1":       {Data: []api.Data{{At: -1}}},
		"an At of 2^32":     {Data: []api.Data{{At: 1 << 32}}},
		"a memory far off":  {Data: []api.Data{{Mem: 1<<32 + 1}}},
		"an At far off":     {Data: []api.Data{{At: math.MinInt}}},
		"no body":           {Funcs: []api.Func{{}}},
		"no body behind":    {Funcs: []api.Func{{Body: ends()}, {}}},
		"no End":            {Funcs: []api.Func{{Body: []api.Instr{{Op: api.Nop}}}}},
		"an End too many":   {Funcs: []api.Func{{Body: []api.Instr{end(), end()}}}},
		"an End at once":    {Funcs: []api.Func{{Body: []api.Instr{end(), {Op: api.Block}, end(), end()}}}},
		"behind the End":    {Funcs: []api.Func{{Body: []api.Instr{end(), {Op: api.Nop}}}}},
		"a block behind":    {Funcs: []api.Func{{Body: []api.Instr{end(), {Op: api.Block}}}}},
		"a block for End":   {Funcs: []api.Func{{Body: []api.Instr{end(), {Op: api.Loop}, end()}}}},
		"an open Block":     {Funcs: []api.Func{{Body: []api.Instr{{Op: api.Block}, end()}}}},
		"an open Loop":      {Funcs: []api.Func{{Body: []api.Instr{{Op: api.Loop}, {Op: api.Nop}, end()}}}},
		"an open If":        {Funcs: []api.Func{{Body: []api.Instr{{Op: api.If}, {Op: api.Else}, end()}}}},
		"open ones":         {Funcs: []api.Func{{Body: []api.Instr{{Op: api.Block}, {Op: api.Loop}, {Op: api.If}, end(), end()}}}},
		"nested, less one":  {Funcs: []api.Func{{Body: nested()[:len(nested())-1]}}},
		"nested, one more":  {Funcs: []api.Func{{Body: append(nested(), end())}}},
		"nested, with more": {Funcs: []api.Func{{Body: append(nested(), api.Instr{Op: api.Drop})}}},
	}
	for why, x := range map[string]api.Instr{
		"no instruction":     {Op: 6},
		"one below 0":        {Op: -1},
		"End and 256":        {Op: api.End + 256},
		"N of an End":        {Op: api.End, N: 1},
		"M of a Nop":         {Op: api.Nop, M: 1},
		"an index of 2^32":   {Op: api.Br, N: 1 << 32},
		"an index below 0":   {Op: api.LocalGet, N: -1},
		"a third memory":     {Op: api.I64Store, M: 2},
		"too great a number": {Op: api.I32Const, N: 1 << 31},
	} {
		out["an instruction: "+why] = api.Module{Funcs: []api.Func{{Body: ends()}, {Body: []api.Instr{{Op: api.Nop}, x, end()}}}}
	}
	out["a block of no type"] = api.Module{Funcs: []api.Func{{Body: []api.Instr{{Op: api.Block, M: 5}, end(), end()}}}}
	out["an End that is not right"] = api.Module{Funcs: []api.Func{{Body: []api.Instr{{Op: api.End, M: 1}}}}}
	return out
}

func TestWrongModules(t *testing.T) {
	for what, m := range wrongs() {
		holdWrong(t, what, m, api.ErrArg)
	}
}

// Of these the bytes can be written, though the module may not be: no place is told, as each section has its form.
func TestWrongModulesRead(t *testing.T) {
	wrong := wrongs()
	for _, what := range []string{
		"two results", "three results", "many results", "a memory of 2", "no body", "no body behind", "no End", "an End too many", "an End at once", "behind the End", "a block behind",
		"a block for End", "an open Block", "an open Loop", "an open If", "open ones", "nested, less one", "nested, one more", "nested, with more",
	} {
		holdMalformed(t, what, spell(wrong[what]), 0)
	}
	holdMalformed(t, "the last memory", theHead+"\x0b\x08\x01\xff\xff\xff\xff\x0f\x00\x00", 0)
}

func noTypes() []int {
	return []int{-1, 4, 5, 63, 64, 127, 128, -128, 256, 1<<32 + 1, 1 << 62, math.MinInt, math.MinInt + 2, math.MaxInt}
}

func TestNoTypes(t *testing.T) {
	for _, n := range noTypes() {
		for i := range 4 {
			l := []int{api.I32, api.I64, api.S32, api.S64}
			l[i] = n
			holdWrong(t, "a parameter", api.Module{Sigs: []api.Sig{{}, {Params: l}}}, api.ErrArg)
			holdWrong(t, "a local", api.Module{Funcs: []api.Func{{Body: ends()}, {Locals: l, Body: ends()}}}, api.ErrArg)
		}
		holdWrong(t, "a result", api.Module{Sigs: []api.Sig{{}, {Results: []int{n}}}}, api.ErrArg)
		holdWrong(t, "a global", api.Module{Globals: []api.Global{{}, {T: n}}}, api.ErrArg)
	}
}

// numbers are such at which a bound of something lies, or far off.
func numbers() []int {
	out := []int{300, -300, 0x123456789abcdef}
	for bit := range 64 {
		for off := -2; off <= 2; off++ {
			out = append(out, 1<<bit+off, -1<<bit+off)
		}
	}
	slices.Sort(out)
	return slices.Compact(out)
}

// Every number of a module, wherever it stands, at every bound.
func TestAnyNumbers(t *testing.T) {
	for _, n := range numbers() {
		for what, m := range map[string]api.Module{
			"an import":             {Imports: []int{0, n}},
			"a function":            {Funcs: []api.Func{{Sig: n, Body: ends()}}},
			"a datum's memory":      {Data: []api.Data{{}, {Mem: n}}},
			"a datum's At":          {Data: []api.Data{{}, {At: n}}},
			"a parameter":           {Sigs: []api.Sig{{Params: []int{n}}}},
			"a result":              {Sigs: []api.Sig{{Results: []int{n}}}},
			"a local":               {Funcs: []api.Func{{Locals: []int{0, n}, Body: ends()}}},
			"a global's type":       {Globals: []api.Global{{T: n}}},
			"a public V of 32 bits": {Globals: []api.Global{{T: api.I32, V: n}}},
			"a secret V of 32 bits": {Globals: []api.Global{{T: api.S32, V: n}}},
			"a public V of 64 bits": {Globals: []api.Global{{T: api.I64, V: n}}},
			"a secret V of 64 bits": {Globals: []api.Global{{T: api.S64, V: n}}},
			"a public memory":       {Mems: [2]int{n, 0}},
			"a secret memory":       {Mems: [2]int{3, n}},
			"an instruction":        {Funcs: []api.Func{{Body: []api.Instr{{Op: n}, end()}}}},
			"N of an instruction":   {Funcs: []api.Func{{Body: []api.Instr{{Op: api.Call, N: n}, end()}}}},
			"M of an instruction":   {Funcs: []api.Func{{Body: []api.Instr{{Op: api.I32Store, M: n}, end()}}}},
		} {
			code := fits(m)
			if code != api.OK {
				holdWrong(t, what, m, code)
				continue
			}
			holdFits(t, what, m, code)
			holdEncode(t, what, m, spell(m), code)
			holdDecode(t, what, spell(m), telling{m: m})
		}
	}
}

// both is a module with all that two have.
func both(a, b api.Module) api.Module {
	m := api.Module{
		Sigs:    slices.Concat(a.Sigs, b.Sigs),
		Imports: slices.Concat(a.Imports, b.Imports),
		Funcs:   slices.Concat(a.Funcs, b.Funcs),
		Mems:    a.Mems,
		Globals: slices.Concat(a.Globals, b.Globals),
		Data:    slices.Concat(a.Data, b.Data),
	}
	if m.Mems == [2]int{} {
		m.Mems = b.Mems
	}
	return m
}

// Limits are asked first, of the whole module, wherever the two things stand.
func TestLimitsAreAskedFirst(t *testing.T) {
	for what, l := range limits() {
		over := l.of(l.most + 1)
		for why, wrong := range wrongs() {
			holdWrong(t, what+" and "+why, both(over, wrong), api.ErrLimit)
			holdWrong(t, why+" and "+what, both(wrong, over), api.ErrLimit)
		}
		two := api.Module{Sigs: []api.Sig{{Results: []int{0, 0}}}}
		holdDecode(t, what+" and two results", spell(both(two, over)), telling{code: api.ErrLimit})
	}
	twice := api.Module{Sigs: []api.Sig{{Params: make([]int, 5), Results: []int{7, 7}}}}
	holdWrong(t, "in one signature", twice, api.ErrLimit)
}

// P5.2, P5.3: how many bytes there may be

// ofSize is a module of that many bytes, most of them a datum's.
func ofSize(size int) api.Module {
	return api.Module{Data: []api.Data{{Bytes: strings.Repeat("x", size-len(theHead)-8)}}}
}

func TestManyBytes(t *testing.T) {
	for _, size := range []int{3000, 3999, 4000} {
		m := ofSize(size)
		b := spell(m)
		if len(b) != size {
			t.Fatalf("%d bytes; want %d", len(b), size)
		}
		holdFits(t, "many bytes", m, api.OK)
		holdEncode(t, "many bytes", m, b, api.OK)
		holdDecode(t, "many bytes", b, telling{m: m})
	}
	for _, size := range []int{4001, 4002, 5000, 100000} {
		m := ofSize(size)
		holdFits(t, "too many bytes", m, api.OK)
		holdEncode(t, "too many bytes", m, "", api.ErrLimit)
		b := spell(m)
		holdDecode(t, "too many bytes", b, telling{code: api.ErrLimit})
	}
	holdDecode(t, "too many, and no Head", strings.Repeat("\x00", 4001), telling{code: api.ErrLimit})
	holdDecode(t, "just as many, and no Head", strings.Repeat("\x00", 4000), telling{code: api.ErrMalformed})
	holdDecode(t, "too many, and no section", theHead+strings.Repeat("\x04", 3995), telling{code: api.ErrLimit})
	holdDecode(t, "just as many, and no section", theHead+strings.Repeat("\x04", 3994), telling{code: api.ErrMalformed, at: 6})
}

// Several data, none of them too long by itself.
func TestManyBytesInAll(t *testing.T) {
	m := api.Module{Data: slices.Repeat([]api.Data{{Bytes: strings.Repeat("y", 600)}}, 7)}
	holdFits(t, "many data", m, api.OK)
	holdEncode(t, "many data", m, "", api.ErrLimit)
	m.Data = m.Data[:6]
	holdEncode(t, "less data", m, spell(m), api.OK)
}

// P5.3: wrong bytes

func TestHeadIsNotThere(t *testing.T) {
	all := everythingBytes()
	for i := range len(theHead) {
		holdMalformed(t, "a Head cut off", theHead[:i], 0)
		for bit := range 8 {
			b := []byte(all)
			b[i] ^= 1 << bit
			holdMalformed(t, "another Head", string(b), 0)
		}
	}
	holdMalformed(t, "something ahead", "\x00"+all, 0)
	holdMalformed(t, "no Head at all", all[6:], 0)
	holdMalformed(t, "WebAssembly's own head", "\x00asm\x01\x00\x00\x00", 0)
	holdDecode(t, "Head alone", theHead, telling{})
}

// places are where the sections of everything begin, and where the last one ends.
func places() []int {
	out := []int{len(theHead)}
	for _, s := range everythingSections() {
		out = append(out, out[len(out)-1]+len(s))
	}
	return out
}

// begun is a module with all that stands in the first sections of everything.
func begun(sections int) api.Module {
	m, all := api.Module{}, everything()
	for i := range sections {
		switch i {
		case 0:
			m.Sigs = all.Sigs
		case 1:
			m.Imports = all.Imports
		case 2, 5:
			m.Funcs = all.Funcs
		case 3:
			m.Mems = all.Mems
		case 4:
			m.Globals = all.Globals
		case 6:
			m.Data = all.Data
		}
	}
	return m
}

func TestCutOff(t *testing.T) {
	all, starts := everythingBytes(), places()
	for i := len(theHead); i <= len(all); i++ {
		section, whole := slices.BinarySearch(starts, i)
		switch {
		case !whole:
			holdMalformed(t, "cut off within a section", all[:i], starts[section-1])
		case section >= 3 && section <= 5:
			holdMalformed(t, "cut off ahead of the code", all[:i], 0)
		default:
			holdDecode(t, "cut off behind a section", all[:i], telling{m: begun(section)})
		}
	}
}

func TestUnknownSections(t *testing.T) {
	for of := range 256 {
		if slices.Contains(theSections(), of) {
			continue
		}
		for _, inside := range []string{"", "\x00", "\x01\x00", "\x01\x01", "\x02\x01\x00", "\x03\x01\x00\x00", "\x05\x00"} {
			holdMalformed(t, "an unknown section alone", theHead+octet(of)+inside, 6)
		}
		all := everythingBytes()
		for _, at := range places() {
			holdMalformed(t, "an unknown section", all[:at]+octet(of)+"\x02\x01\x00"+all[at:], at)
		}
	}
}

func TestOrderOfSections(t *testing.T) {
	sections := everythingSections()
	for i, a := range sections {
		holdMalformed(t, "a section twice", theHead+a+a, 6+len(a))
		for _, b := range sections[:i] {
			holdMalformed(t, "sections out of their order", theHead+a+b, 6+len(a))
		}
		all := strings.Join(sections[:i], "") + strings.Join(sections[i:], "")
		holdMalformed(t, "a section behind all", theHead+all+a, 6+len(all))
	}
}

func TestSizesOfSections(t *testing.T) {
	sections, starts := everythingSections(), places()
	for i, s := range sections {
		ahead, behind := theHead+strings.Join(sections[:i], ""), strings.Join(sections[i+1:], "")
		size := int(s[1])
		for n := range 128 {
			if n != size {
				holdMalformed(t, "a section of another size", ahead+s[:1]+octet(n)+s[2:]+behind, starts[i])
			}
		}
		for _, n := range []int{1000, 4000, 1 << 31, greatest32} {
			holdMalformed(t, "a section of far more bytes", ahead+s[:1]+unsigned(n)+s[2:]+behind, starts[i])
		}
		for _, more := range []string{"\x00", "\x01", "\x0b", "\x7f", "\x80", "\x00\x00"} {
			holdMalformed(t, "something left over", ahead+s[:1]+octet(size+len(more))+s[2:]+more+behind, starts[i])
		}
		holdMalformed(t, "a section without a size", ahead+s[:1], starts[i])
		holdMalformed(t, "a section of no bytes", ahead+s[:1]+"\x00"+behind, starts[i])
		holdMalformed(t, "a section of no things", ahead+s[:1]+"\x01\x00"+behind, starts[i])
		holdMalformed(t, "no things, and something", ahead+s[:1]+octet(size)+"\x00"+s[3:]+behind, starts[i])
		for n := range 128 {
			if n != int(s[2]) {
				holdMalformed(t, "another number of things", ahead+s[:2]+octet(n)+s[3:]+behind, starts[i])
			}
		}
	}
}

func TestMemoriesRead(t *testing.T) {
	for what, b := range map[string]string{
		"both 0":             "\x05\x03\x02\x00\x00",
		"one alone":          "\x05\x02\x01\x03",
		"one alone, of 0":    "\x05\x02\x01\x00",
		"one of two":         "\x05\x02\x02\x03",
		"one, and one more":  "\x05\x03\x01\x03\x03",
		"three":              "\x05\x04\x03\x03\x03\x03",
		"three, the last 0":  "\x05\x04\x03\x03\x03\x00",
		"three, two of 0":    "\x05\x04\x03\x00\x00\x03",
		"two, and one more":  "\x05\x04\x02\x03\x03\x03",
		"a number of them":   "\x05\x04\x02\x80\x00\x03",
		"two, as long":       "\x05\x04\x82\x00\x03\x03",
		"many, but not here": "\x05\x06\xff\xff\xff\xff\x0f\x03",
	} {
		holdMalformed(t, "memories: "+what, theHead+b, 6)
	}
}

func TestAsManyBodiesAsFunctions(t *testing.T) {
	for functions := range 12 {
		for bodies := range 12 {
			f := (&pen{}).section(3, api.Module{Funcs: make([]api.Func, functions)})
			c := (&pen{}).section(10, api.Module{Funcs: slices.Repeat([]api.Func{{Body: ends()}}, bodies)})
			switch b := theHead + f + c; {
			case functions != bodies:
				holdMalformed(t, "functions and bodies", b, 0)
			case functions > 8:
				holdDecode(t, "too many functions", b, telling{code: api.ErrLimit})
			default:
				holdDecode(t, "functions and bodies", b, telling{m: api.Module{Funcs: slices.Repeat([]api.Func{{Body: ends()}}, bodies)}})
			}
		}
	}
	holdMalformed(t, "a body too few, and a section", theHead+"\x03\x05\x02\x00\x00\x00\x00"+"\x0a\x04\x01\x00\x01\x0b"+"\x0c", 19)
	holdMalformed(t, "no body, and too great a memory", theHead+"\x03\x03\x01\x00\x00"+"\x05\x03\x02\x0d\x00", 0)
}

// What is amiss in a section counts ahead of limits, and of what stands in sections behind it.
func TestFirstThingAmiss(t *testing.T) {
	tooMany := (&pen{}).section(2, api.Module{Imports: make([]int, 9)})
	wrongData := (&pen{}).section(11, api.Module{Data: []api.Data{{Mem: 2}}})
	holdDecode(t, "too many imports", theHead+tooMany, telling{code: api.ErrLimit})
	holdMalformed(t, "a wrong datum", theHead+wrongData, 0)
	holdDecode(t, "both", theHead+tooMany+wrongData, telling{code: api.ErrLimit})
	holdMalformed(t, "and a section", theHead+tooMany+"\x04\x00"+wrongData, 6+len(tooMany))
	holdMalformed(t, "and a section ahead", theHead+"\x01\x01\x00"+tooMany+"\x04\x00", 6)
	holdMalformed(t, "and a function", theHead+tooMany+"\x03\x03\x01\x00\x00"+wrongData, 0)
}

// longer is a number in a form of one more byte; of one with a sign the byte goes on with that.
func longer(b string, sign bool) string {
	last := b[len(b)-1]
	more := "\x00"
	if sign && last&64 != 0 {
		more = "\x7f"
	}
	return b[:len(b)-1] + octet(int(last)|128) + more
}

// holdOdd writes everything with one thing of a sort otherwise, and asks for the place of its section; each thing of that sort in its turn.
func holdOdd(t *testing.T, sort string, most int, how func(usual string) string) {
	t.Helper()
	usual := everythingSections()
	for place := range most {
		p := &pen{sort: sort, place: place, how: how}
		odd := p.sections(everything())
		if p.seen != most {
			t.Fatalf("%d things of the sort %s; want %d", p.seen, sort, most)
		}
		at := len(theHead)
		for i := 0; odd[i] == usual[i]; i++ {
			at += len(usual[i])
		}
		holdMalformed(t, sort, theHead+strings.Join(odd, ""), at)
	}
}

func TestOddNumbers(t *testing.T) {
	const most = 37
	holdOdd(t, "number", most, func(b string) string { return longer(b, false) })
	holdOdd(t, "number", most, func(b string) string { return longer(longer(b, false), false) })
	for _, b := range []string{
		unsigned(1 << 32), unsigned(1 << 35), unsigned(math.MaxInt), strings.Repeat("\xff", 9) + "\x01", strings.Repeat("\x80", 20),
		strings.Repeat("\x80", 9) + "\x02", "\x80\x80\x80\x80\x80\x01",
	} {
		holdOdd(t, "number", most, func(string) string { return b })
	}
}

func TestOddGlobals(t *testing.T) {
	for _, sort := range []string{"V of 32", "V of 64"} {
		holdOdd(t, sort, 2, func(b string) string { return longer(b, true) })
		holdOdd(t, sort, 2, func(b string) string { return longer(longer(b, true), true) })
		for _, b := range []string{
			strings.Repeat("\x80", 9) + "\x01", strings.Repeat("\xff", 9) + "\x7e", strings.Repeat("\xff", 9) + "\x01", strings.Repeat("\x80", 20),
			strings.Repeat("\xff", 10) + "\x7f",
		} {
			holdOdd(t, sort, 2, func(string) string { return b })
		}
	}
	for _, n := range []int{1 << 31, greatest32, -1<<31 - 1, 1 << 32, -1 << 32, math.MaxInt, math.MinInt} {
		holdOdd(t, "V of 32", 2, func(string) string { return signed(n) })
	}
}

// A byte of a type that is none stands in no section that can be written.
func TestOddTypes(t *testing.T) {
	for b := range 256 {
		if b < 124 || b > 127 {
			holdOdd(t, "type", 15, func(string) string { return octet(b) })
		}
	}
}

func TestOddTrust(t *testing.T) {
	for b := 2; b < 256; b++ {
		holdOdd(t, "trust", 3, func(string) string { return octet(b) })
	}
	holdOdd(t, "trust", 3, func(usual string) string { return longer(usual, false) })
}

func TestOddInstructions(t *testing.T) {
	for what, b := range map[string]string{
		"none":                      "\x06",
		"another that is none":      "\xff",
		"a block of no type":        "\x02\x7b",
		"a block of no type, below": "\x02\x80",
		"a third memory":            "\x28\x02\x00",
		"an index, longer":          "\x10\x80\x00",
		"an index of 33 bits":       "\x10\x80\x80\x80\x80\x10",
		"a constant, longer":        "\x41\xff\x7f",
		"a constant of 33 bits":     "\x41\x80\x80\x80\x80\x08",
		"one that has no end":       "\x42" + strings.Repeat("\x80", 12),
	} {
		holdOdd(t, "instruction", 15, func(string) string { return b })
		one := "\x0a" + octet(len(b)+4) + "\x01\x00" + octet(len(b)+1) + b + "\x0b"
		holdMalformed(t, what, theHead+"\x03\x03\x01\x00\x00"+one, 11)
	}
	for what, body := range map[string]string{
		"a body that says more bytes":  "\x0a\x04\x01\x00\x02\x0b",
		"a body that says fewer bytes": "\x0a\x05\x01\x00\x01\x01\x0b",
		"an instruction cut in two":    "\x0a\x06\x01\x00\x01\x41\x00\x0b",
		"the next body's bytes":        "\x0a\x07\x02\x00\x01\x41\x00\x01\x0b",
		"a body without a size":        "\x0a\x02\x01\x00",
		"a body without locals":        "\x0a\x01\x01",
		"more locals than bytes":       "\x0a\x05\x01\x09\x7f\x7f\x7f",
	} {
		holdMalformed(t, what, theHead+"\x03\x03\x01\x00\x00"+body, 11)
	}
}

// Numbers of things far beyond what there is must neither take long nor much room.
func TestFarTooManyThings(t *testing.T) {
	far := unsigned(greatest32)
	for what, b := range map[string]string{
		"signatures":   "\x01\x07" + far + "\x00\x00",
		"parameters":   "\x01\x07\x01" + far + "\x7f",
		"results":      "\x01\x07\x01\x00" + far,
		"imports":      "\x02\x06" + far + "\x00",
		"functions":    "\x03\x07" + far + "\x00\x00",
		"memories":     "\x05\x07" + far + "\x03\x03",
		"globals":      "\x06\x07" + far + "\x7f\x00",
		"bodies":       "\x0a\x08" + far + "\x00\x01\x0b",
		"locals":       "\x0a\x08\x01" + far + "\x01\x0b",
		"instructions": "\x0a\x08\x01\x00" + far + "\x0b",
		"data":         "\x0b\x08" + far + "\x00\x00\x00",
		"bytes":        "\x0b\x08\x01\x00\x00" + far,
	} {
		holdMalformed(t, what, theHead+b, 6)
	}
}

// P5.4

// holdRead holds any bytes against the reckoning; those that are a module's must be written as they stood.
func holdRead(t *testing.T, b string) {
	t.Helper()
	want := told(b)
	holdDecode(t, "any bytes", b, want)
	if want.code == api.OK {
		holdEncode(t, "what was read", want.m, b, api.OK)
	}
}

func TestEveryByteAnother(t *testing.T) {
	for _, s := range spellings() {
		all := theHead + s.b
		for i := range len(all) {
			holdRead(t, all[:i]+all[i+1:])
			for n := range 256 {
				holdRead(t, all[:i]+octet(n)+all[i+1:])
			}
		}
	}
	all := everythingBytes()
	for i := range len(all) + 1 {
		for n := 0; n < 256; n += 3 {
			holdRead(t, all[:i]+octet(n)+all[i:])
		}
	}
}

func TestShortBytes(t *testing.T) {
	small := []byte{0, 1, 2, 3, 5, 6, 10, 11, 127, 128}
	var grow func(b string, left int)
	grow = func(b string, left int) {
		holdRead(t, theHead+b)
		if left == 0 {
			return
		}
		for _, n := range small {
			grow(b+octet(int(n)), left-1)
		}
	}
	grow("", 4)
}

// chance makes modules by a rule that is the same each time.
type chance struct{ *rand.Rand }

func (c chance) types(most int) []int {
	var out []int
	for range c.IntN(most + 1) {
		out = append(out, c.IntN(4))
	}
	return out
}

func (c chance) number() int { return int(c.Uint64()>>32) >> c.IntN(33) }

func (c chance) body() []api.Instr {
	var out []api.Instr
	for range c.IntN(6) {
		switch c.IntN(6) {
		case 0:
			out = slices.Concat(out, []api.Instr{{Op: api.Block + c.IntN(3), M: c.IntN(5)}}, c.body())
		case 1:
			out = append(out, api.Instr{Op: api.Call, N: c.number()})
		case 2:
			out = append(out, api.Instr{Op: api.I64Load, N: c.number(), M: c.IntN(2)})
		case 3:
			out = append(out, api.Instr{Op: api.I32Const, N: int(int32(c.Uint32())) >> c.IntN(32)})
		case 4:
			out = append(out, api.Instr{Op: api.I64Const, N: int(c.Uint64()) >> c.IntN(64)})
		case 5:
			out = append(out, api.Instr{Op: api.I32Add})
		}
	}
	return append(out[:min(len(out), 190)], end())
}

func (c chance) module() api.Module {
	var m api.Module
	for range c.IntN(5) {
		m.Sigs = append(m.Sigs, api.Sig{Params: c.types(4), Results: c.types(1)})
	}
	for range c.IntN(5) {
		m.Imports = append(m.Imports, c.number())
	}
	for range c.IntN(4) {
		m.Funcs = append(m.Funcs, api.Func{Sig: c.number(), Trusted: c.IntN(2) == 1, Locals: c.types(8), Body: c.body()})
	}
	for i := range m.Mems {
		m.Mems[i] = []int{0, 3 + c.IntN(10)}[c.IntN(2)]
	}
	for range c.IntN(5) {
		g := api.Global{T: c.IntN(4), V: c.number()}
		if g.T == api.I64 || g.T == api.S64 {
			g.V = int(c.Uint64()) >> c.IntN(64)
		}
		m.Globals = append(m.Globals, g)
	}
	for range c.IntN(4) {
		m.Data = append(m.Data, api.Data{Mem: c.IntN(2), At: c.number(), Bytes: strings.Repeat("z", c.IntN(200))})
	}
	return m
}

func TestManyModules(t *testing.T) {
	c := chance{rand.New(rand.NewPCG(5, 4))}
	written := 0
	for range 3000 {
		m := c.module()
		holdFits(t, "any module", m, fits(m))
		if fits(m) != api.OK {
			holdEncode(t, "any module", m, "", fits(m))
			continue
		}
		written++
		b := spell(m)
		holdEncode(t, "any module", m, b, api.OK)
		holdDecode(t, "any module", b, telling{m: m})
		for range 10 {
			i := c.IntN(len(b))
			holdRead(t, b[:i]+octet(c.IntN(256))+b[i+1:])
		}
	}
	if written < 1000 {
		t.Errorf("%d modules fit: too few", written)
	}
}

// P3, P4

// roomy is a copy of a list with a mark behind it.
func roomy[T any](l []T, mark T) []T {
	out := make([]T, len(l), len(l)+3)
	copy(out, l)
	for i := len(l); i < cap(out); i++ {
		out[:cap(out)][i] = mark
	}
	return out
}

// marked: whether what stands behind a list is its mark still.
func marked[T any](l []T, is func(T) bool) bool {
	return !slices.ContainsFunc(l[len(l):cap(l)], func(x T) bool { return !is(x) })
}

func TestNothingIsWrittenInto(t *testing.T) {
	m := everything()
	m.Sigs, m.Imports, m.Funcs = roomy(m.Sigs, api.Sig{Params: []int{77}}), roomy(m.Imports, 77), roomy(m.Funcs, api.Func{Sig: 77})
	m.Globals, m.Data = roomy(m.Globals, api.Global{T: 77}), roomy(m.Data, api.Data{Mem: 77})
	for i := range m.Funcs {
		m.Funcs[i].Locals, m.Funcs[i].Body = roomy(m.Funcs[i].Locals, 77), roomy(m.Funcs[i].Body, api.Instr{Op: 77})
	}
	for i := range m.Sigs {
		m.Sigs[i].Params, m.Sigs[i].Results = roomy(m.Sigs[i].Params, 77), roomy(m.Sigs[i].Results, 77)
	}
	holdFits(t, "everything", m, api.OK)
	holdEncode(t, "everything", m, everythingBytes(), api.OK)
	is77 := func(n int) bool { return n == 77 }
	kept := same(m, everything()) && marked(m.Imports, is77) &&
		marked(m.Sigs, func(s api.Sig) bool { return slices.Equal(s.Params, []int{77}) && s.Results == nil }) &&
		marked(m.Funcs, func(f api.Func) bool { return f.Sig == 77 && f.Locals == nil && f.Body == nil }) &&
		marked(m.Globals, func(g api.Global) bool { return g == api.Global{T: 77} }) &&
		marked(m.Data, func(d api.Data) bool { return d == api.Data{Mem: 77} })
	for _, f := range m.Funcs {
		kept = kept && marked(f.Locals, is77) && marked(f.Body, func(x api.Instr) bool { return x == api.Instr{Op: 77} })
	}
	for _, s := range m.Sigs {
		kept = kept && marked(s.Params, is77) && marked(s.Results, is77)
	}
	if !kept {
		t.Errorf("a module that was handed in is another one now: %v", m)
	}
}

// fill writes into a list and into its spare room.
func fill[T any](l []T, x T) {
	l = l[:cap(l)]
	for i := range l {
		l[i] = x
	}
}

// Lists that are told share nothing: each in its turn is written over in one answer, and the rest of it and the other answer stay.
func TestListsShareNothing(t *testing.T) {
	b := everythingBytes()
	spoil := map[string]func(m *api.Module){
		"imports":    func(m *api.Module) { fill(m.Imports, 9) },
		"globals":    func(m *api.Module) { fill(m.Globals, api.Global{V: 9}) },
		"data":       func(m *api.Module) { fill(m.Data, api.Data{At: 9}) },
		"signatures": func(m *api.Module) { fill(m.Sigs, api.Sig{Params: []int{9}}) },
		"functions":  func(m *api.Module) { fill(m.Funcs, api.Func{Sig: 9}) },
	}
	for i := range everything().Sigs {
		spoil["parameters "+octet('0'+i)] = func(m *api.Module) { fill(m.Sigs[i].Params, 9) }
		spoil["results "+octet('0'+i)] = func(m *api.Module) { fill(m.Sigs[i].Results, 9) }
	}
	for i := range everything().Funcs {
		spoil["locals "+octet('0'+i)] = func(m *api.Module) { fill(m.Funcs[i].Locals, 9) }
		spoil["body "+octet('0'+i)] = func(m *api.Module) { fill(m.Funcs[i].Body, api.Instr{Op: 9}) }
	}
	for what, f := range spoil {
		m, _ := wbin.Decode(b)
		other, _ := wbin.Decode(b)
		want := everything()
		f(&m)
		f(&want)
		if !same(m, want) {
			t.Errorf("%s: written over, the answer is %v; want %v", what, m, want)
		}
		if !same(other, everything()) {
			t.Errorf("%s: written over, another answer is %v", what, other)
		}
	}
}

// An answer hangs on nothing that was done ahead.
func TestAgain(t *testing.T) {
	b := everythingBytes()
	for range 3 {
		holdEncode(t, "everything", everything(), b, api.OK)
		holdMalformed(t, "a section", b+"\x04", len(b))
		holdWrong(t, "two results", wrongs()["two results"], api.ErrArg)
		holdDecode(t, "everything", b, telling{m: everything()})
		holdDecode(t, "Head alone", wbin.Head(), telling{})
	}
	_, first := wbin.Decode("")
	_, second := wbin.Decode("")
	first.(*api.Fault).At = 7
	holdError(t, "an error told ahead and changed since", second, api.ErrMalformed, 0)
}
