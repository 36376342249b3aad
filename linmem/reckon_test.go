package linmem_test

import (
	"math"
	"math/big"
	"math/rand/v2"
	"slices"

	"oubliette/api"
)

func whole(n int) *big.Int { return big.NewInt(int64(n)) }

func power(n uint) *big.Int { return new(big.Int).Lsh(big.NewInt(1), n) }

// piece is some bytes from a place on, of a datum or a write.
type piece struct {
	at    int
	bytes string
}

// has tells which byte of p lies at a place, if one does; reckoned without bounds.
func (p piece) has(place int) (byte, bool) {
	i := new(big.Int).Sub(whole(place), whole(p.at))
	if p.at < 0 || i.Sign() < 0 || i.Cmp(whole(len(p.bytes))) >= 0 {
		return 0, false
	}
	return p.bytes[i.Int64()], true
}

// laid asks of each place of mem which of the pieces had it last.
func laid(mem string, pieces []piece) string {
	out := []byte(mem)
	for place := range out {
		for _, p := range slices.Backward(pieces) {
			if b, ok := p.has(place); ok {
				out[place] = b
				break
			}
		}
	}
	return string(out)
}

// sizes are the bytes of a memory by its exponent, those of the chapter's limits alone.
func sizes() map[int]int {
	return map[int]int{3: 8, 4: 16, 5: 32, 6: 64, 7: 128, 8: 256, 9: 512, 10: 1024, 11: 2048, 12: 4096}
}

// made is P8.1, place by place.
func made(m api.Module, k int) string {
	if k != 0 && k != 1 {
		return ""
	}
	var pieces []piece
	for _, d := range m.Data {
		if d.Mem == k {
			pieces = append(pieces, piece{d.At, d.Bytes})
		}
	}
	return laid(string(make([]byte, sizes()[m.Mems[k]])), pieces)
}

// placed is where an access begins, and whether it lies within so many bytes, reckoned without bounds.
func placed(size, addr, offset, n int) (*big.Int, bool) {
	at := new(big.Int).Mod(whole(addr), power(32))
	at.Add(at, new(big.Int).Mod(whole(offset), power(32)))
	end := new(big.Int).Add(at, whole(n))
	return at, (n == 4 || n == 8) && end.Cmp(whole(size)) <= 0
}

// loaded is the first half of P8.2: digits to the base 256, the highest first.
func loaded(mem string, addr, offset, n int) (int, bool) {
	at, ok := placed(len(mem), addr, offset, n)
	if !ok {
		return 0, false
	}
	from := int(at.Int64())
	bytes := []byte(mem[from : from+n])
	slices.Reverse(bytes)
	v := new(big.Int).SetBytes(bytes)
	if v.Cmp(power(63)) >= 0 {
		v.Sub(v, power(64))
	}
	return int(v.Int64()), true
}

// stored is the second half: the low digits to the base 256, taken off one by one.
func stored(mem string, addr, offset, n, v int) (string, bool) {
	at, ok := placed(len(mem), addr, offset, n)
	if !ok {
		return "", false
	}
	out, rest := []byte(mem), new(big.Int).Mod(whole(v), power(64))
	for i := range n {
		digit := new(big.Int)
		rest.DivMod(rest, whole(256), digit)
		out[int(at.Int64())+i] = byte(digit.Int64())
	}
	return string(out), true
}

// applied is P8.3: first whether all of them may be, then place by place.
func applied(mems [2]string, l []api.Write) ([2]string, bool) {
	var pieces [2][]piece
	for _, w := range l {
		if w.Mem != 0 && w.Mem != 1 {
			return [2]string{}, false
		}
		end := new(big.Int).Add(whole(w.At), whole(len(w.Bytes)))
		if w.At < 0 || end.Cmp(whole(len(mems[w.Mem]))) > 0 {
			return [2]string{}, false
		}
		pieces[w.Mem] = append(pieces[w.Mem], piece{w.At, w.Bytes})
	}
	return [2]string{laid(mems[0], pieces[0]), laid(mems[1], pieces[1])}, true
}

// counted is a memory of so many bytes, no two near one another alike, with high bits and without.
func counted(size int) string {
	out := make([]byte, size)
	for i := range out {
		out[i] = byte(i*37 + 0x81 + i/256)
	}
	return string(out)
}

// values are numbers whose every byte shows where it is stored, and those at the edges of each width.
func values() []int {
	out := []int{0, 1, -1, -2, 0x80, 0xff, 0x100, 0x01020304, 0x80000000, 0x7fffffff, 0xffffffff, 1 << 32, 1<<32 + 1, -1 << 31, -1 << 32, math.MinInt, math.MinInt + 1, math.MaxInt, 0x0102030405060708, 0x7172737475767778}
	for i := range 8 {
		out = append(out, 0xa5<<(8*i), ^(0xff << (8 * i)))
	}
	return out
}

// far are numbers by which neither an address nor an offset changes: their low 32 bits are nought.
func far() []int {
	return []int{0, 1 << 32, -1 << 32, 3 << 32, 1 << 62, math.MinInt, math.MinInt + 1<<32, math.MaxInt - math.MaxUint32}
}

// near are numbers of all sorts, of which places and addresses are taken by chance.
func near(r *rand.Rand, size int) int {
	switch r.IntN(12) {
	case 0:
		return []int{math.MinInt, math.MaxInt, -1, 1<<32 - 1, 1 << 32, -1 << 32, 1 << 31, -size, -4}[r.IntN(9)]
	case 1:
		return size - r.IntN(10)
	case 2:
		return size + r.IntN(3)
	case 3:
		return int(r.Uint64())
	}
	return r.IntN(size + 1)
}

// text is bytes by chance, most of them few.
func text(r *rand.Rand, most int) string {
	out := make([]byte, r.IntN(1+r.IntN(most+1)))
	for i := range out {
		out[i] = byte(r.Uint32())
	}
	return string(out)
}
