package linmem_test

import (
	"math"
	"math/rand/v2"
	"slices"
	"strings"
	"testing"

	"oubliette/api"
	"oubliette/linmem"
)

func holdNew(t *testing.T, m api.Module, k int, want string) {
	t.Helper()
	if got := linmem.New(m, k); got != want {
		t.Errorf("New(%v %v, %d) = %x; want %x", m.Mems, m.Data, k, got, want)
	}
}

func holdLoad(t *testing.T, mem string, addr, offset, n, v int, ok bool) {
	t.Helper()
	if gv, gok := linmem.Load(mem, addr, offset, n); gv != v || gok != ok {
		t.Errorf("Load(%d bytes, %x, %x, %d) = %x, %v; want %x, %v", len(mem), addr, offset, n, gv, gok, v, ok)
	}
}

func holdStore(t *testing.T, mem string, addr, offset, n, v int, want string, ok bool) {
	t.Helper()
	if got, gok := linmem.Store(mem, addr, offset, n, v); got != want || gok != ok {
		t.Errorf("Store(%d bytes, %x, %x, %d, %x) = %x, %v; want %x, %v", len(mem), addr, offset, n, v, got, gok, want, ok)
	}
}

// outside holds that an access is refused, to load and to store.
func outside(t *testing.T, mem string, addr, offset, n int) {
	t.Helper()
	holdLoad(t, mem, addr, offset, n, 0, false)
	for _, v := range []int{0, -1, math.MinInt, math.MaxInt} {
		holdStore(t, mem, addr, offset, n, v, "", false)
	}
}

// holdAccess holds both accesses against the reckoning without bounds.
func holdAccess(t *testing.T, mem string, addr, offset, n, v int) {
	t.Helper()
	want, ok := loaded(mem, addr, offset, n)
	holdLoad(t, mem, addr, offset, n, want, ok)
	after, ok := stored(mem, addr, offset, n, v)
	holdStore(t, mem, addr, offset, n, v, after, ok)
}

func holdApply(t *testing.T, mems [2]string, l []api.Write, want [2]string, ok bool) {
	t.Helper()
	if got, gok := linmem.Apply(mems, l); got != want || gok != ok {
		t.Errorf("Apply(%q, %v) = %q, %v; want %q, %v", mems, l[:min(len(l), 20)], got, gok, want, ok)
	}
}

// P8.1: ordinary memories.

func TestBothMemoriesWithDataOfEach(t *testing.T) {
	m := api.Module{Mems: [2]int{4, 3}, Data: []api.Data{
		{Mem: 0, At: 2, Bytes: "abcdef"},
		{Mem: 1, At: 1, Bytes: "ABCD"},
		{Mem: 0, At: 4, Bytes: "12"},
		{Mem: 1, At: 0, Bytes: "xy"},
		{Mem: 0, At: 12, Bytes: "\xff\x80"},
	}}
	holdNew(t, m, 0, "\x00\x00ab12ef\x00\x00\x00\x00\xff\x80\x00\x00")
	holdNew(t, m, 1, "xyBCD\x00\x00\x00")
}

func TestTheLaterDatumLiesOverTheEarlier(t *testing.T) {
	long, short := api.Data{At: 1, Bytes: "abcde"}, api.Data{At: 3, Bytes: "XY"}
	holdNew(t, api.Module{Mems: [2]int{3, 0}, Data: []api.Data{long, short}}, 0, "\x00abXYe\x00\x00")
	holdNew(t, api.Module{Mems: [2]int{3, 0}, Data: []api.Data{short, long}}, 0, "\x00abcde\x00\x00")
	holdNew(t, api.Module{Mems: [2]int{3, 0}, Data: []api.Data{long, {At: 2, Bytes: "\x00\x00"}}}, 0, "\x00a\x00\x00de\x00\x00")
	holdNew(t, api.Module{Mems: [2]int{3, 0}, Data: []api.Data{{Bytes: "12345678"}, {Bytes: "abc"}, {At: 5, Bytes: "xyz"}}}, 0, "abc45xyz")
}

func TestAMemoryWithoutDataIsNought(t *testing.T) {
	for exponent, size := range sizes() {
		nought := strings.Repeat("\x00", size)
		holdNew(t, api.Module{Mems: [2]int{exponent, 0}}, 0, nought)
		holdNew(t, api.Module{Mems: [2]int{0, exponent}, Data: []api.Data{}}, 1, nought)
		holdNew(t, api.Module{Mems: [2]int{exponent, exponent}, Data: []api.Data{{Mem: 1, Bytes: "abc"}}}, 0, nought)
		holdNew(t, api.Module{Mems: [2]int{exponent, exponent}, Data: []api.Data{{Mem: 0, Bytes: "abc"}}}, 1, nought)
		holdNew(t, api.Module{Mems: [2]int{exponent, exponent}, Data: []api.Data{{Mem: 0}, {Mem: 1, At: 3}}}, 1, nought)
	}
}

func TestEverythingElseOfAModuleCountsForNothing(t *testing.T) {
	m := api.Module{
		Sigs: []api.Sig{{Params: []int{9}}}, Imports: []int{-1}, Funcs: []api.Func{{Sig: 77}}, Globals: []api.Global{{T: -5, V: math.MinInt}},
		Mems: [2]int{3, 4}, Data: []api.Data{{At: 1, Bytes: "b"}},
	}
	holdNew(t, m, 0, "\x00b\x00\x00\x00\x00\x00\x00")
	holdNew(t, m, 1, strings.Repeat("\x00", 16))
}

// P8.1: the edges.

func TestDataAtTheEndsOfTheLeastAndTheGreatest(t *testing.T) {
	for _, exponent := range []int{3, 12} {
		size := sizes()[exponent]
		nought := func(n int) string { return strings.Repeat("\x00", n) }
		for name, c := range map[string]struct {
			at          int
			bytes, want string
		}{
			"all of it":                         {0, counted(size), counted(size)},
			"one byte more than all of it":      {0, counted(size + 1), counted(size)},
			"the first byte":                    {0, "a", "a" + nought(size-1)},
			"ends where the memory ends":        {size - 3, "abc", nought(size-3) + "abc"},
			"the last byte":                     {size - 1, "a", nought(size-1) + "a"},
			"reaches one byte beyond":           {size - 2, "abc", nought(size-2) + "ab"},
			"one byte within, the rest beyond":  {size - 1, "abc", nought(size-1) + "a"},
			"reaches far beyond":                {1, counted(3 * size), nought(1) + counted(size-1)},
			"begins where the memory ends":      {size, "abc", nought(size)},
			"begins one behind":                 {size + 1, "abc", nought(size)},
			"of no bytes where the memory ends": {size, "", nought(size)},
			"of no bytes behind it":             {size + 1, "", nought(size)},
			"begins where the array could end":  {4096, "abc", nought(size)},
			"at the greatest number":            {math.MaxInt, "abc", nought(size)},
			"near the greatest number":          {math.MaxInt - 1, "abc", nought(size)},
			"a place whose low bits are within": {1 << 32, "abc", nought(size)},
		} {
			t.Run(name, func(t *testing.T) {
				for k := range 2 {
					m := api.Module{Data: []api.Data{{Mem: k, At: c.at, Bytes: c.bytes}}}
					m.Mems[k] = exponent
					holdNew(t, m, k, c.want)
					holdNew(t, m, 1-k, "")
				}
			})
		}
	}
}

// P8.1: wrong inputs.

func TestADatumBelowNoughtHasNoByteWithin(t *testing.T) {
	for _, at := range []int{-1, -2, -3, -7, -8, -1 << 32, 2 - 1<<32, math.MinInt, math.MinInt + 1} {
		m := api.Module{Mems: [2]int{3, 3}, Data: []api.Data{{At: 2, Bytes: "p"}, {Mem: 1, At: 3, Bytes: "s"}, {Mem: 0, At: at, Bytes: counted(30)}, {Mem: 1, At: at, Bytes: counted(30)}, {At: 4, Bytes: "q"}}}
		holdNew(t, m, 0, "\x00\x00p\x00q\x00\x00\x00")
		holdNew(t, m, 1, "\x00\x00\x00s\x00\x00\x00\x00")
	}
}

func TestAMemoryThatIsNotThere(t *testing.T) {
	data := []api.Data{{Bytes: "abc"}, {Mem: 1, Bytes: "abc"}}
	for _, k := range []int{-1, -2, 2, 3, 4, 1 << 32, 1<<32 + 1, -1 << 32, math.MinInt, math.MinInt + 1, math.MaxInt} {
		holdNew(t, api.Module{Mems: [2]int{3, 12}, Data: append(data, api.Data{Mem: k, Bytes: "abc"})}, k, "")
	}
	holdNew(t, api.Module{Mems: [2]int{0, 3}, Data: data}, 0, "")
	holdNew(t, api.Module{Mems: [2]int{3, 0}, Data: data}, 1, "")
	holdNew(t, api.Module{Data: data}, 0, "")
	holdNew(t, api.Module{}, 1, "")
}

func TestADatumOfNoMemoryIsLeftOut(t *testing.T) {
	for _, k := range []int{-1, 2, 1 << 32, math.MinInt, math.MaxInt} {
		m := api.Module{Mems: [2]int{3, 3}, Data: []api.Data{{At: 1, Bytes: "ab"}, {Mem: k, At: 0, Bytes: "12345678"}, {Mem: 1, At: 7, Bytes: "z"}}}
		holdNew(t, m, 0, "\x00ab\x00\x00\x00\x00\x00")
		holdNew(t, m, 1, "\x00\x00\x00\x00\x00\x00\x00z")
	}
}

func TestASizeThatIsNone(t *testing.T) {
	for _, exponent := range []int{math.MinInt, math.MinInt + 3, -61, -4, -3, -1, 0, 1, 2, 13, 14, 31, 32, 62, 63, 64, 67, 1<<32 + 3, math.MaxInt} {
		m := api.Module{Mems: [2]int{exponent, 3}, Data: []api.Data{{Bytes: "abc"}, {Mem: 1, Bytes: "d"}}}
		holdNew(t, m, 0, "")
		holdNew(t, m, 1, "d\x00\x00\x00\x00\x00\x00\x00")
		m.Mems = [2]int{3, exponent}
		holdNew(t, m, 0, "abc\x00\x00\x00\x00\x00")
		holdNew(t, m, 1, "")
	}
	for exponent := -100; exponent <= 200; exponent++ {
		for k := range 2 {
			var m api.Module
			m.Mems[k] = exponent
			if got := len(linmem.New(m, k)); got != sizes()[exponent] {
				t.Errorf("a memory of the size %d has %d bytes; want %d", exponent, got, sizes()[exponent])
			}
		}
	}
}

func TestModulesByChance(t *testing.T) {
	r := rand.New(rand.NewPCG(8, 1))
	for range 3000 {
		m := api.Module{Mems: [2]int{r.IntN(9), r.IntN(9)}}
		for range r.IntN(10) {
			k := r.IntN(2)
			if r.IntN(8) == 0 {
				k = near(r, 2)
			}
			m.Data = append(m.Data, api.Data{Mem: k, At: near(r, 1<<m.Mems[r.IntN(2)]), Bytes: text(r, 40)})
		}
		for k := -1; k <= 2; k++ {
			holdNew(t, m, k, made(m, k))
		}
	}
}

// P8.2: ordinary numbers.

func TestTheChaptersExample(t *testing.T) {
	holdLoad(t, "\x01\x02\x03\x04\x05", 1, 0, 4, 0x05040302, true)
	holdLoad(t, "\x01\x02\x03\x04\x05", 2, 0, 4, 0, false)
}

func TestKnownNumbersAreLoaded(t *testing.T) {
	mem := "\x00\x01\x7f\x80\xff\xfe\x08\x09\x0a\xff\xff\xff\xff\xff\xff\xff\xff\x00\x00\x00\x00\x00\x00\x00\x80"
	for _, c := range []struct{ at, n, v int }{
		{0, 4, 0x807f0100}, {1, 4, 0xff807f01}, {2, 4, 0xfeff807f}, {3, 4, 0x08feff80}, {9, 4, 0xffffffff}, {17, 4, 0}, {21, 4, 0x80000000},
		{0, 8, 0x0908feff807f0100}, {2, 8, -0x00f5f6f701007f81}, {9, 8, -1}, {17, 8, math.MinInt}, {10, 8, 0x00ffffffffffffff}, {16, 8, 0xff},
	} {
		holdLoad(t, mem, c.at, 0, c.n, c.v, true)
		holdLoad(t, mem, 0, c.at, c.n, c.v, true)
	}
}

func TestKnownNumbersAreStored(t *testing.T) {
	mem := "abcdefghijkl"
	for _, c := range []struct {
		at, n, v int
		want     string
	}{
		{0, 4, 0x31323334, "4321efghijkl"},
		{3, 4, 0x31323334, "abc4321hijkl"},
		{8, 4, 0x31323334, "abcdefgh4321"},
		{0, 4, 0, "\x00\x00\x00\x00efghijkl"},
		{2, 4, -1, "ab\xff\xff\xff\xffghijkl"},
		{0, 8, 0x3132333435363738, "87654321ijkl"},
		{1, 8, 0x3132333435363738, "a87654321jkl"},
		{4, 8, 0x3132333435363738, "abcd87654321"},
		{2, 8, math.MinInt, "ab\x00\x00\x00\x00\x00\x00\x00\x80kl"},
		{2, 8, math.MaxInt, "ab\xff\xff\xff\xff\xff\xff\xff\x7fkl"},
		{2, 8, -2, "ab\xfe\xff\xff\xff\xff\xff\xff\xffkl"},
		{2, 8, 1, "ab\x01\x00\x00\x00\x00\x00\x00\x00kl"},
	} {
		holdStore(t, mem, c.at, 0, c.n, c.v, c.want, true)
		holdStore(t, mem, 0, c.at, c.n, c.v, c.want, true)
	}
}

func TestNumbersAtManyPlaces(t *testing.T) {
	for _, size := range []int{8, 9, 15, 16, 31, 64} {
		mem := counted(size)
		for at := range size + 2 {
			for offset := range at + 1 {
				for _, v := range values() {
					holdAccess(t, mem, at-offset, offset, 4, v)
					holdAccess(t, mem, at-offset, offset, 8, v)
				}
			}
		}
	}
	for _, size := range []int{4096, 70000} {
		mem := counted(size)
		for at := 0; at <= size; at += 97 {
			holdAccess(t, mem, at, 0, 4, 0x0102030405060708)
			holdAccess(t, mem, 0, at, 8, 0x0102030405060708)
			holdAccess(t, mem, size, at-size, 8, -1)
		}
	}
}

// P8.2: the edges.

func TestTheLastByteAndOneFurther(t *testing.T) {
	for _, size := range []int{4, 5, 7, 8, 9, 16, 64, 4096} {
		mem := counted(size)
		for _, n := range []int{4, 8} {
			if n > size {
				outside(t, mem, 0, 0, n)
				continue
			}
			for offset := range min(size-n+1, 20) {
				last := size - n - offset
				v, ok := loaded(mem, last, offset, n)
				if !ok {
					t.Fatalf("%d bytes at %d and %d lie within %d", n, last, offset, size)
				}
				holdLoad(t, mem, last, offset, n, v, true)
				holdStore(t, mem, last, offset, n, 0, mem[:size-n]+strings.Repeat("\x00", n), true)
				for beyond := 1; beyond <= n+1; beyond++ {
					outside(t, mem, last+beyond, offset, n)
					outside(t, mem, last, offset+beyond, n)
				}
			}
		}
	}
}

func TestTheLow32BitsCount(t *testing.T) {
	mem := "abcdefghijkl"
	for _, a := range far() {
		for _, o := range far() {
			holdLoad(t, mem, a+1, o+2, 4, 0x67666564, true)
			holdLoad(t, mem, a+2, o+1, 8, 0x6b6a696867666564, true)
			holdStore(t, mem, a+3, o+2, 4, 0x31323334, "abcde4321jkl", true)
			holdStore(t, mem, a+1, o, 8, 0x3132333435363738, "a87654321jkl", true)
			holdLoad(t, mem, a+8, o, 4, 0x6c6b6a69, true)
			holdLoad(t, mem, a, o+8, 4, 0x6c6b6a69, true)
			outside(t, mem, a+8, o+1, 4)
			outside(t, mem, a+5, o, 8)
			outside(t, mem, a-1, o, 4)
			outside(t, mem, a, o-1, 4)
			outside(t, mem, a-1, o+1, 4)
			outside(t, mem, a+1, o-1, 8)
			outside(t, mem, a-4, o+4, 4)
			outside(t, mem, a+4, o-4, 4)
		}
	}
}

func TestAnAddressBelowNoughtIsAGreatOne(t *testing.T) {
	mem := counted(64)
	for _, n := range []int{4, 8} {
		for _, a := range []int{-1, -2, -4, -8, -64, -1 << 31, math.MinInt + 1<<31, math.MinInt32 + 1} {
			for _, offset := range []int{0, 1, 4, 8, 64, -a, 1 - a, 8 - a} {
				outside(t, mem, a, offset, n)
				outside(t, mem, offset, a, n)
			}
		}
	}
}

func TestASumOf33BitsDoesNotComeRound(t *testing.T) {
	mem := counted(64)
	for _, n := range []int{4, 8} {
		for _, c := range [][2]int{
			{1<<32 - 1, 1}, {1<<32 - 1, 2}, {1<<32 - 8, 8}, {1<<32 - 8, 16}, {1 << 31, 1 << 31}, {1 << 31, 1<<31 + 8}, {1<<32 - 1, 1<<32 - 1},
			{-1, -1}, {-1, 1}, {-1 << 31, -1 << 31}, {math.MaxInt, 1}, {math.MaxInt, math.MaxInt}, {1<<32 - 1, 1<<32 + 1}, {1 << 31, 0}, {1<<31 - 1, 1}, {1<<31 - 1, 1<<31 - 1},
		} {
			outside(t, mem, c[0], c[1], n)
			outside(t, mem, c[1], c[0], n)
		}
	}
}

func TestHighBytesAreNotStored(t *testing.T) {
	mem := strings.Repeat("z", 16)
	for _, high := range append(far(), 0x7f<<32, -0x80<<32, -0x5a5a5b<<40) {
		holdStore(t, mem, 5, 0, 4, high|0x64636261, "zzzzzabcdzzzzzzz", true)
		holdStore(t, mem, 12, 0, 4, high|0x64636261, "zzzzzzzzzzzzabcd", true)
	}
	holdStore(t, mem, 0, 0, 4, -1<<32, "\x00\x00\x00\x00zzzzzzzzzzzz", true)
}

func TestANumberOf4BytesHasNoSign(t *testing.T) {
	for high := range 256 {
		mem := "\x01\x02\x03" + string([]byte{byte(high)})
		holdLoad(t, mem, 0, 0, 4, high*0x1000000+0x030201, true)
	}
}

// P8.2: wrong inputs.

func TestOnly4And8BytesAreANumber(t *testing.T) {
	mem := counted(64)
	others := []int{math.MinInt, math.MinInt + 4, math.MinInt + 8, -1 << 32, 4 - 1<<32, 4 + 1<<32, 8 + 1<<32, math.MaxInt, math.MaxInt - 3}
	for n := -70; n <= 70; n++ {
		if n != 4 && n != 8 {
			others = append(others, n)
		}
	}
	for _, n := range others {
		for _, at := range []int{0, 1, 8, 60, 63, 64, 65, -1} {
			outside(t, mem, at, 0, n)
			outside(t, "", at, 0, n)
		}
	}
}

func TestNothingLiesWithinAnEmptyOrTooShortMemory(t *testing.T) {
	for size := range 8 {
		for _, at := range []int{0, 1, size, -1, 1 << 32, math.MinInt, math.MaxInt} {
			outside(t, counted(size), at, 0, 8)
			outside(t, counted(size), 0, at, 8)
			if size < 4 {
				outside(t, counted(size), at, 0, 4)
				outside(t, counted(size), 0, at, 4)
			}
		}
	}
}

func TestTheLeastAndTheGreatestOfEachArgument(t *testing.T) {
	ends := []int{math.MinInt, math.MinInt + 1, -1, 0, 1, 4, 8, math.MaxInt - 1, math.MaxInt}
	for _, mem := range []string{"", "abcd", counted(8), counted(4096)} {
		for _, addr := range ends {
			for _, offset := range ends {
				for _, n := range ends {
					for _, v := range ends {
						holdAccess(t, mem, addr, offset, n, v)
					}
				}
			}
		}
	}
}

func TestAccessesByChance(t *testing.T) {
	r := rand.New(rand.NewPCG(8, 2))
	for range 60000 {
		mem := text(r, 60)
		n := 4 + 4*r.IntN(2)
		if r.IntN(20) == 0 {
			n = near(r, 9)
		}
		addr := near(r, len(mem))
		offset := near(r, len(mem)/4) + far()[r.IntN(len(far()))]
		holdAccess(t, mem, addr, offset, n, int(r.Uint64()))
	}
}

// P8.3: ordinary writes.

func TestSeveralWritesToBothMemories(t *testing.T) {
	mems := [2]string{"abcdefgh", "ABCDEFGHIJ"}
	holdApply(t, mems, []api.Write{
		{Mem: 0, At: 1, Bytes: "12345"},
		{Mem: 1, At: 4, Bytes: "xyz"},
		{Mem: 0, At: 3, Bytes: "--"},
		{Mem: 1, At: 0, Bytes: "\x00\xff"},
		{Mem: 1, At: 6, Bytes: "0000"},
		{Mem: 0, At: 7, Bytes: "."},
	}, [2]string{"a12--5g.", "\x00\xffCDxy0000"}, true)
}

func TestTheLaterWriteLiesOverTheEarlier(t *testing.T) {
	long, short := api.Write{Mem: 1, At: 1, Bytes: "12345"}, api.Write{Mem: 1, At: 3, Bytes: "XY"}
	mems := [2]string{"abcdefgh", "abcdefgh"}
	holdApply(t, mems, []api.Write{long, short}, [2]string{"abcdefgh", "a12XY5gh"}, true)
	holdApply(t, mems, []api.Write{short, long}, [2]string{"abcdefgh", "a12345gh"}, true)
	holdApply(t, mems, []api.Write{short, long, short, {At: 3, Bytes: "??"}}, [2]string{"abc??fgh", "a12XY5gh"}, true)
}

func TestOneWriteAtEachPlace(t *testing.T) {
	mems := [2]string{counted(9), counted(16)}
	for k, mem := range mems {
		for at := range len(mem) + 2 {
			for n := range len(mem) + 2 {
				l := []api.Write{{Mem: k, At: at, Bytes: strings.Repeat("#", n)}}
				want, ok := mems, at+n <= len(mem)
				if ok {
					want[k] = mem[:at] + l[0].Bytes + mem[at+n:]
				} else {
					want = [2]string{}
				}
				holdApply(t, mems, l, want, ok)
			}
		}
	}
}

// P8.3: the edges.

func TestNoWrites(t *testing.T) {
	for _, mems := range [][2]string{{"abc", "xyz"}, {"", ""}, {"abc", ""}, {"", "xyz"}, {counted(4096), counted(8)}} {
		holdApply(t, mems, nil, mems, true)
		holdApply(t, mems, []api.Write{}, mems, true)
	}
}

func TestAWriteOfNoBytes(t *testing.T) {
	mems := [2]string{"abc", "uvwxyz"}
	for k, mem := range mems {
		for at := range len(mem) + 1 {
			holdApply(t, mems, []api.Write{{Mem: k, At: at}}, mems, true)
		}
		for _, at := range []int{len(mem) + 1, len(mem) + 2, -1, 1 << 32, math.MinInt, math.MaxInt} {
			holdApply(t, mems, []api.Write{{Mem: k, At: at}}, [2]string{}, false)
		}
	}
}

func TestAWriteToAnEmptyMemory(t *testing.T) {
	for k := range 2 {
		for _, mems := range [][2]string{{"", ""}, {"", "abc"}, {"abc", ""}} {
			if mems[k] != "" {
				continue
			}
			holdApply(t, mems, []api.Write{{Mem: k}}, mems, true)
			holdApply(t, mems, []api.Write{{Mem: k, At: 1}}, [2]string{}, false)
			holdApply(t, mems, []api.Write{{Mem: k, At: -1}}, [2]string{}, false)
			holdApply(t, mems, []api.Write{{Mem: k, Bytes: "a"}}, [2]string{}, false)
		}
	}
}

func TestAllOfAMemoryIsWritten(t *testing.T) {
	for _, size := range []int{1, 8, 4096} {
		mems := [2]string{strings.Repeat("p", size), strings.Repeat("s", size)}
		holdApply(t, mems, []api.Write{{Mem: 1, Bytes: counted(size)}}, [2]string{mems[0], counted(size)}, true)
		holdApply(t, mems, []api.Write{{Mem: 0, Bytes: counted(size)}, {Mem: 0, At: size - 1, Bytes: "!"}}, [2]string{counted(size)[:size-1] + "!", mems[1]}, true)
		holdApply(t, mems, []api.Write{{Mem: 0, Bytes: counted(size + 1)}}, [2]string{}, false)
	}
}

func TestManyWrites(t *testing.T) {
	mems := [2]string{strings.Repeat("\x00", 4096), strings.Repeat("\x00", 4096)}
	var l []api.Write
	for i := range 50000 {
		l = append(l, api.Write{Mem: i % 2, At: i % 4096, Bytes: string([]byte{byte(i / 4096)})})
	}
	var want [2][]byte
	for k := range 2 {
		want[k] = make([]byte, 4096)
		for i := k; i < 50000; i += 2 {
			want[k][i%4096] = byte(i / 4096)
		}
	}
	holdApply(t, mems, l, [2]string{string(want[0]), string(want[1])}, true)
}

// P8.3: wrong inputs.

// wrongWrites are such as may not be, into memories of 8 and of 16 bytes.
func wrongWrites() map[string]api.Write {
	return map[string]api.Write{
		"to memory 2":                            {Mem: 2, Bytes: "a"},
		"to memory 2, no bytes":                  {Mem: 2},
		"to memory -1":                           {Mem: -1, Bytes: "a"},
		"to memory -1, no bytes":                 {Mem: -1},
		"to a memory whose low bits are 0":       {Mem: 1 << 32, Bytes: "a"},
		"to a memory whose low bits are 1":       {Mem: math.MinInt + 1, Bytes: "a"},
		"to the least memory":                    {Mem: math.MinInt},
		"to the greatest memory":                 {Mem: math.MaxInt},
		"below 0":                                {At: -1, Bytes: "a"},
		"below 0, with bytes that reach within":  {At: -2, Bytes: "abcd"},
		"below 0, no bytes":                      {Mem: 1, At: -1},
		"at the least place":                     {At: math.MinInt, Bytes: "a"},
		"at the least place of memory 1":         {Mem: 1, At: math.MinInt},
		"one byte at the end":                    {At: 8, Bytes: "a"},
		"one byte at the end of memory 1":        {Mem: 1, At: 16, Bytes: "a"},
		"one byte too long":                      {At: 6, Bytes: "abc"},
		"one byte too long for memory 1":         {Mem: 1, At: 0, Bytes: "abcdefghijklmnopq"},
		"within the other memory alone":          {Mem: 0, At: 9, Bytes: "a"},
		"behind the end":                         {Mem: 1, At: 17, Bytes: "a"},
		"behind the end, no bytes":               {Mem: 1, At: 17},
		"at the greatest place":                  {At: math.MaxInt, Bytes: "a"},
		"so that place and bytes together wrap":  {Mem: 1, At: math.MaxInt - 1, Bytes: "abcd"},
		"at the greatest place, no bytes":        {At: math.MaxInt},
		"at a place whose low bits are within":   {At: 1 << 32, Bytes: "a"},
		"at a place below 0 that would be low 2": {At: 2 - 1<<32, Bytes: "a"},
	}
}

func TestAWrongWriteAnywhereRefusesAll(t *testing.T) {
	mems := [2]string{counted(8), counted(16)}
	good := []api.Write{{Mem: 0, At: 1, Bytes: "ab"}, {Mem: 1, At: 14, Bytes: "cd"}, {Mem: 0, At: 8}, {Mem: 1, At: 0, Bytes: "efghijkl"}}
	if _, ok := linmem.Apply(mems, good); !ok {
		t.Fatal("these may be")
	}
	for name, wrong := range wrongWrites() {
		t.Run(name, func(t *testing.T) {
			holdApply(t, mems, []api.Write{wrong}, [2]string{}, false)
			for at := range len(good) + 1 {
				holdApply(t, mems, slices.Insert(slices.Clone(good), at, wrong), [2]string{}, false)
			}
			holdApply(t, mems, slices.Concat(good, []api.Write{wrong, wrong}, good), [2]string{}, false)
		})
	}
}

func TestWritesByChance(t *testing.T) {
	r := rand.New(rand.NewPCG(8, 3))
	fine := 0
	for range 20000 {
		mems := [2]string{text(r, 30), text(r, 30)}
		var l []api.Write
		for range r.IntN(6) {
			k := r.IntN(2)
			at, bytes := r.IntN(len(mems[k])+1), text(r, 10)
			switch r.IntN(15) {
			case 0:
				at = near(r, len(mems[k]))
			case 1:
				k = near(r, 2)
			default:
				bytes = bytes[:min(len(bytes), len(mems[k])-at)]
			}
			l = append(l, api.Write{Mem: k, At: at, Bytes: bytes})
		}
		want, ok := applied(mems, l)
		if ok {
			fine++
		}
		holdApply(t, mems, l, want, ok)
	}
	if fine < 5000 || fine > 19000 {
		t.Errorf("%d of 20000 may be: too many of one sort", fine)
	}
}

// P8.4

func TestWhatWasStoredIsLoaded(t *testing.T) {
	for _, size := range []int{8, 13, 64} {
		mem := counted(size)
		for _, n := range []int{4, 8} {
			for at := range size - n + 1 {
				for _, v := range values() {
					after, ok := linmem.Store(mem, at, 0, n, v)
					if !ok || len(after) != size {
						t.Fatalf("Store(%d bytes, %d, 0, %d, %x) has %d bytes, %v", size, at, n, v, len(after), ok)
					}
					want := v
					if n == 4 {
						want = v & 0xffffffff
					}
					holdLoad(t, after, at, 0, n, want, true)
					holdLoad(t, after, 0, at, n, want, true)
					if after[:at] != mem[:at] || after[at+n:] != mem[at+n:] {
						t.Errorf("Store(%x, %d, 0, %d, %x) = %x: something beside it has changed", mem, at, n, v, after)
					}
				}
			}
		}
	}
}

func TestWhatIsLoadedMayBeStoredAgain(t *testing.T) {
	mem := counted(40)
	for _, n := range []int{4, 8} {
		for at := range 40 - n + 1 {
			v, ok := linmem.Load(mem, at, 0, n)
			if !ok {
				t.Fatalf("Load of %d bytes at %d", n, at)
			}
			holdStore(t, mem, at, 0, n, v, mem, true)
			holdStore(t, mem, 0, at, n, v, mem, true)
		}
	}
}

func TestStoresBesideOneAnotherStay(t *testing.T) {
	mem, kept := linmem.New(api.Module{Mems: [2]int{12, 0}}, 0), map[int]int{}
	for i := range 4096 / 8 {
		at := i * 85 % 512 * 8
		v := int(uint64(i+1) * 0x9e3779b97f4a7c15)
		after, ok := linmem.Store(mem, at, 0, 8, v)
		if !ok {
			t.Fatalf("Store at %d", at)
		}
		mem, kept[at] = after, v
	}
	if len(kept) != 512 {
		t.Fatalf("%d places", len(kept))
	}
	for at, v := range kept {
		holdLoad(t, mem, at, 0, 8, v, true)
		holdLoad(t, mem, at, 0, 4, v&0xffffffff, true)
		holdLoad(t, mem, at, 4, 4, v>>32&0xffffffff, true)
	}
}

func TestAWriteIsLoadedAndAStoreIsTheSameAsAWrite(t *testing.T) {
	mems := [2]string{counted(16), counted(32)}
	for bytes, v := range map[string]int{
		"\x05\x06\x07\xf8":                 0xf8070605,
		"\xf1\x02\x03\x04\x05\x06\x07\xf8": -0x07f8f9fafbfcfd0f,
	} {
		n := len(bytes)
		for k, mem := range mems {
			for at := range len(mem) - n + 1 {
				after, ok := linmem.Apply(mems, []api.Write{{Mem: k, At: at, Bytes: bytes}})
				if !ok || after[1-k] != mems[1-k] {
					t.Fatalf("Apply at %d of memory %d", at, k)
				}
				holdLoad(t, after[k], at, 0, n, v, true)
				holdStore(t, mem, at, 0, n, v, after[k], true)
			}
		}
	}
}

// P3 and P4

func TestNothingHandedInIsWrittenInto(t *testing.T) {
	data := []api.Data{{At: 1, Bytes: "abc"}, {Mem: 1, At: 7, Bytes: "defg"}, {At: -1, Bytes: "x"}, {At: 3, Bytes: "behind"}}
	writes := []api.Write{{At: 1, Bytes: "abc"}, {Mem: 1, Bytes: "de"}, {At: 2, Bytes: "f"}, {At: 99, Bytes: "behind"}}
	mems := [2]string{counted(8), counted(8)}
	keptData, keptWrites := slices.Clone(data), slices.Clone(writes)
	for range 3 {
		m := api.Module{Mems: [2]int{3, 3}, Data: data[:3]}
		holdNew(t, m, 0, "\x00abc\x00\x00\x00\x00")
		holdNew(t, m, 1, "\x00\x00\x00\x00\x00\x00\x00d")
		holdApply(t, mems, writes[:3], [2]string{counted(8)[:1] + "afc" + counted(8)[4:], "de" + counted(8)[2:]}, true)
		holdApply(t, mems, writes, [2]string{}, false)
		holdStore(t, mems[0], 0, 0, 4, 0, "\x00\x00\x00\x00"+counted(8)[4:], true)
	}
	if !slices.Equal(data, keptData) || !slices.Equal(writes, keptWrites) || mems != [2]string{counted(8), counted(8)} {
		t.Errorf("%v, %v or %x has changed", data, writes, mems)
	}
}

func TestOneTextAsBothMemoriesAndAsWhatIsWritten(t *testing.T) {
	mem := counted(16)
	holdApply(t, [2]string{mem, mem}, []api.Write{{At: 4, Bytes: mem[:8]}, {Mem: 1, At: 0, Bytes: mem[8:]}}, [2]string{mem[:4] + mem[:8] + mem[12:], mem[8:] + mem[8:]}, true)
	if mem != counted(16) {
		t.Errorf("the text has changed: %x", mem)
	}
}
