package leb_test

import (
	"math"
	"math/big"
	"slices"
	"strings"
	"testing"

	"oubliette/api"
	"oubliette/leb"
)

// P1.1: the bytes as the chapter and its examples give them.

func TestUOfKnownNumbers(t *testing.T) {
	for _, c := range []struct {
		n    int
		want string
	}{
		{0, "\x00"}, {1, "\x01"}, {63, "\x3f"}, {64, "\x40"}, {127, "\x7f"},
		{128, "\x80\x01"}, {300, "\xac\x02"}, {16383, "\xff\x7f"}, {16384, "\x80\x80\x01"},
		{1<<32 - 1, "\xff\xff\xff\xff\x0f"}, {1 << 32, "\x80\x80\x80\x80\x10"},
		{1 << 62, "\x80\x80\x80\x80\x80\x80\x80\x80\x40"},
		{math.MaxInt, "\xff\xff\xff\xff\xff\xff\xff\xff\x7f"},
	} {
		if got, e := leb.U(c.n); got != c.want || e != api.OK {
			t.Errorf("U(%d) = %x, %d; want %x", c.n, got, e, c.want)
		}
	}
}

func TestURefusesNumbersBelowNought(t *testing.T) {
	for _, n := range []int{-1, -64, -65, -128, math.MinInt32, math.MinInt + 1, math.MinInt} {
		if got, e := leb.U(n); got != "" || e != api.ErrArg {
			t.Errorf("U(%d) = %x, %d; want ErrArg", n, got, e)
		}
	}
}

func TestSOfKnownNumbers(t *testing.T) {
	for _, c := range []struct {
		n    int
		want string
	}{
		{0, "\x00"}, {1, "\x01"}, {-1, "\x7f"}, {63, "\x3f"}, {-64, "\x40"},
		{64, "\xc0\x00"}, {-65, "\xbf\x7f"}, {127, "\xff\x00"}, {128, "\x80\x01"}, {-128, "\x80\x7f"},
		{8191, "\xff\x3f"}, {8192, "\x80\xc0\x00"}, {-8192, "\x80\x40"}, {-8193, "\xff\xbf\x7f"},
		{math.MaxInt32, "\xff\xff\xff\xff\x07"}, {math.MinInt32, "\x80\x80\x80\x80\x78"},
		{1<<62 - 1, "\xff\xff\xff\xff\xff\xff\xff\xff\x3f"}, {-1 << 62, "\x80\x80\x80\x80\x80\x80\x80\x80\x40"},
		{1 << 62, "\x80\x80\x80\x80\x80\x80\x80\x80\xc0\x00"},
		{math.MaxInt, "\xff\xff\xff\xff\xff\xff\xff\xff\xff\x00"},
		{math.MinInt, "\x80\x80\x80\x80\x80\x80\x80\x80\x80\x7f"},
	} {
		if got := leb.S(c.n); got != c.want {
			t.Errorf("S(%d) = %x; want %x", c.n, got, c.want)
		}
		if got := leb.Size(c.n); got != len(c.want) {
			t.Errorf("Size(%d) = %d; want %d", c.n, got, len(c.want))
		}
	}
}

func TestEachNumberIsWrittenAsTheChapterSays(t *testing.T) {
	for _, n := range numbers() {
		signed := writtenS(big.NewInt(int64(n)))
		if got := leb.S(n); got != signed {
			t.Errorf("S(%d) = %x; want %x", n, got, signed)
		}
		if got := leb.Size(n); got != len(signed) {
			t.Errorf("Size(%d) = %d; want %d", n, got, len(signed))
		}
		want, wantE := "", api.ErrArg
		if n >= 0 {
			want, wantE = writtenU(big.NewInt(int64(n))), api.OK
		}
		if got, e := leb.U(n); got != want || e != wantE {
			t.Errorf("U(%d) = %x, %d; want %x, %d", n, got, e, want, wantE)
		}
	}
}

// P1.2: what is read, and what is refused.

// reading is one call of TakeU or TakeS, and its answer.
type reading struct {
	b    string
	bits int
	n    int
	rest string
	e    api.Errno
}

func (r reading) hold(t *testing.T, name string, take func(string, int) (int, string, api.Errno)) {
	t.Helper()
	if n, rest, e := take(r.b, r.bits); n != r.n || rest != r.rest || e != r.e {
		t.Errorf("%s(%x, %d) = %d, %x, %d; want %d, %x, %d", name, r.b, r.bits, n, rest, e, r.n, r.rest, r.e)
	}
}

func TestTakeUOfKnownBytes(t *testing.T) {
	greatest := "\xff\xff\xff\xff\xff\xff\xff\xff\x7f"
	for _, r := range []reading{
		{"\x00", 1, 0, "", api.OK},
		{"\x01\x02", 1, 1, "\x02", api.OK},
		{"\x02", 1, 0, "", api.ErrForm},
		{"\x7f", 7, 127, "", api.OK},
		{"\x7f", 6, 0, "", api.ErrForm},
		{"\x80\x01\x00", 8, 128, "\x00", api.OK},
		{"\x80\x01", 7, 0, "", api.ErrForm},
		{"\xff\xff\xff\xff\x0f\x80", 32, 1<<32 - 1, "\x80", api.OK},
		{"\x80\x80\x80\x80\x10", 32, 0, "", api.ErrForm},
		{greatest + "\xff", 63, math.MaxInt, "\xff", api.OK},
		{greatest, 62, 0, "", api.ErrForm},
	} {
		r.hold(t, "TakeU", leb.TakeU)
	}
}

func TestTakeSOfKnownBytes(t *testing.T) {
	greatest := "\xff\xff\xff\xff\xff\xff\xff\xff\xff\x00"
	least := "\x80\x80\x80\x80\x80\x80\x80\x80\x80\x7f"
	for _, r := range []reading{
		{"\x00", 1, 0, "", api.OK},
		{"\x7f\x7f", 1, -1, "\x7f", api.OK},
		{"\x01", 1, 0, "", api.ErrForm},
		{"\x7e", 1, 0, "", api.ErrForm},
		{"\x3f", 7, 63, "", api.OK},
		{"\x3f", 6, 0, "", api.ErrForm},
		{"\x40", 7, -64, "", api.OK},
		{"\x40", 6, 0, "", api.ErrForm},
		{"\xc0\x00", 8, 64, "", api.OK},
		{"\xc0\x00", 7, 0, "", api.ErrForm},
		{"\xbf\x7f\x80", 8, -65, "\x80", api.OK},
		{"\xbf\x7f", 7, 0, "", api.ErrForm},
		{"\x80\x01", 9, 128, "", api.OK},
		{"\x80\x01", 8, 0, "", api.ErrForm},
		{greatest + "\x00", 64, math.MaxInt, "\x00", api.OK},
		{greatest, 63, 0, "", api.ErrForm},
		{least + "\xff", 64, math.MinInt, "\xff", api.OK},
		{least, 63, 0, "", api.ErrForm},
		{"\xff\xff\xff\xff\xff\xff\xff\xff\x3f", 63, 1<<62 - 1, "", api.OK},
		{"\x80\x80\x80\x80\x80\x80\x80\x80\x40", 63, -1 << 62, "", api.OK},
	} {
		r.hold(t, "TakeS", leb.TakeS)
	}
}

func TestBytesThatAreCutOffAreRefused(t *testing.T) {
	for _, n := range numbers() {
		for i, s := 0, leb.S(n); i < len(s); i++ {
			reading{b: s[:i], bits: 64, e: api.ErrForm}.hold(t, "TakeS", leb.TakeS)
		}
		for i, u := 0, unsigned(n); i < len(u); i++ {
			reading{b: u[:i], bits: 63, e: api.ErrForm}.hold(t, "TakeU", leb.TakeU)
		}
	}
}

func TestLongerFormsAreRefused(t *testing.T) {
	for _, n := range numbers() {
		s, pad := leb.S(n), byte(0)
		if n < 0 {
			pad = 127
		}
		for range 12 {
			s = lengthened(s, pad)
			reading{b: s, bits: 64, e: api.ErrForm}.hold(t, "TakeS", leb.TakeS)
		}
		if n < 0 {
			continue
		}
		u := unsigned(n)
		for range 12 {
			u = lengthened(u, 0)
			reading{b: u, bits: 63, e: api.ErrForm}.hold(t, "TakeU", leb.TakeU)
		}
	}
}

func TestNumbersOfMoreBitsThanAskedAreRefused(t *testing.T) {
	for bits := 1; bits <= 62; bits++ {
		reading{b: unsigned(1<<bits - 1), bits: bits, n: 1<<bits - 1}.hold(t, "TakeU", leb.TakeU)
		reading{b: unsigned(1 << bits), bits: bits, e: api.ErrForm}.hold(t, "TakeU", leb.TakeU)
	}
	for bits := 1; bits <= 63; bits++ {
		half := 1 << (bits - 1)
		reading{b: leb.S(half - 1), bits: bits, n: half - 1}.hold(t, "TakeS", leb.TakeS)
		reading{b: leb.S(half), bits: bits, e: api.ErrForm}.hold(t, "TakeS", leb.TakeS)
		reading{b: leb.S(-half), bits: bits, n: -half}.hold(t, "TakeS", leb.TakeS)
		reading{b: leb.S(-half - 1), bits: bits, e: api.ErrForm}.hold(t, "TakeS", leb.TakeS)
	}
}

// A count of bits that may not be is told ahead of bytes that are no form (P2, P6).
func TestCountsOfBitsThatMayNotBe(t *testing.T) {
	for _, b := range []string{"", "\x00", "\x7fx", "\x80", "\x80\x00", strings.Repeat("\xff", 20)} {
		for _, bits := range []int{math.MinInt, math.MinInt32, -64, -1, 0, 65, 66, 128, 1 << 32, 1<<32 + 1, math.MaxInt} {
			reading{b: b, bits: bits, e: api.ErrArg}.hold(t, "TakeU", leb.TakeU)
			reading{b: b, bits: bits, e: api.ErrArg}.hold(t, "TakeS", leb.TakeS)
		}
		reading{b: b, bits: 64, e: api.ErrArg}.hold(t, "TakeU", leb.TakeU)
	}
}

// TestShortBytes and TestLongBytes hold each answer against one that is reckoned without bounds, at every count of bits.

func TestShortBytes(t *testing.T) {
	holdAtAllBits(t, "")
	for a := range 256 {
		holdAtAllBits(t, string([]byte{byte(a)}))
	}
	for _, a := range edgeBytes() {
		for b := range 256 {
			holdAtAllBits(t, string([]byte{a, byte(b)}))
			holdAtAllBits(t, string([]byte{a, byte(b), 0x55}))
		}
	}
}

func TestLongBytes(t *testing.T) {
	for _, fill := range []string{"\x80", "\xff", "\xc0", "\xbf", "\xaa"} {
		for long := 1; long <= 11; long++ {
			for _, a := range edgeBytes() {
				for _, b := range edgeBytes() {
					holdAtAllBits(t, strings.Repeat(fill, long)+string([]byte{a, b}))
				}
			}
		}
	}
}

// P1.3: what follows.

func TestWhatWasWrittenIsReadAsItWas(t *testing.T) {
	behind := []string{"", "\x00", "\x7f", "\x80", "\xff\xff", strings.Repeat("\x80", 30), "any text"}
	for _, n := range numbers() {
		for _, rest := range behind {
			reading{leb.S(n) + rest, 64, n, rest, api.OK}.hold(t, "TakeS", leb.TakeS)
			if n >= 0 {
				reading{unsigned(n) + rest, 63, n, rest, api.OK}.hold(t, "TakeU", leb.TakeU)
			}
		}
	}
}

func TestNumbersOneBehindTheOther(t *testing.T) {
	var text strings.Builder
	for _, n := range numbers() {
		text.WriteString(leb.S(n))
		text.WriteString(unsigned(max(n, 0)))
	}
	rest := text.String()
	for _, n := range numbers() {
		var s, u int
		var e, f api.Errno
		s, rest, e = leb.TakeS(rest, 64)
		u, rest, f = leb.TakeU(rest, 63)
		if s != n || u != max(n, 0) || e != api.OK || f != api.OK {
			t.Fatalf("read %d, %d and %d, %d; want %d", s, e, u, f, n)
		}
	}
	if rest != "" {
		t.Errorf("left over: %x", rest)
	}
}

func TestNoNumbersBytesBeginWithAnothers(t *testing.T) {
	var signed, plain []string
	for _, n := range numbers() {
		signed = append(signed, leb.S(n))
		if n >= 0 {
			plain = append(plain, unsigned(n))
		}
	}
	for _, all := range [][]string{signed, plain} {
		// Sorted, a text stands right ahead of one that begins with it, if there is any.
		slices.Sort(all)
		for i := 1; i < len(all); i++ {
			if strings.HasPrefix(all[i], all[i-1]) {
				t.Errorf("%x begins with %x", all[i], all[i-1])
			}
		}
	}
}

// P1, P4: every call ends, and answers the same again, whatever was done ahead.
func TestAnswersHangOnArgumentsAlone(t *testing.T) {
	type answers struct {
		u, s, restU, restS   string
		size, takenU, takenS int
		e, eU, eS            api.Errno
	}
	ask := func(n int) (a answers) {
		b := leb.S(n) + "tail"
		a.u, a.e = leb.U(n)
		a.s, a.size = leb.S(n), leb.Size(n)
		a.takenU, a.restU, a.eU = leb.TakeU(b, n%70)
		a.takenS, a.restS, a.eS = leb.TakeS(b, n%70)
		return a
	}
	var first []answers
	for _, n := range numbers() {
		first = append(first, ask(n))
	}
	for i, n := range slices.Backward(numbers()) {
		if got := ask(n); got != first[i] {
			t.Errorf("%d: %v, then %v", n, first[i], got)
		}
	}
}
