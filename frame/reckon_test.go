package frame_test

import (
	"math/big"
	"slices"
	"strconv"

	"oubliette/api"
)

// Numbers of the chapter and of package api, as they are written there.
const (
	codeAt    = 0x100000
	dataAt    = 0x10000
	publicAt  = 0x20000
	secretAt  = 0x30000
	stackAt   = 0x40000
	stackSize = 16384
)

// registerOf is the first half of P19.1: the register of a place, if it has one.
func registerOf(place int) (int, bool) {
	switch place {
	case 0:
		return 3, true
	case 1:
		return 5, true
	case 2, 3, 4, 5:
		return place + 4, true
	}
	return 0, false
}

// moves is the other half: how what is at a place comes into a register, and how it comes from there to the place.
func moves(place, reg int) (load, save api.X, ok bool) {
	if reg < 0 || reg > 15 || place < 0 || place > 65 {
		return api.X{}, api.X{}, false
	}
	if own, is := registerOf(place); is {
		load = api.X{Op: api.XMov, Wide: true, R: own, B: reg}
		save = api.X{Op: api.XMov, Wide: true, R: reg, B: own}
		return load, save, true
	}
	load = api.X{Op: api.XLoad, Wide: true, R: reg, B: 4, N: 8*place - 48}
	save = api.X{Op: api.XStore, Wide: true, R: reg, B: 4, N: 8*place - 48}
	return load, save, true
}

// placed is first and so many sizes, and whether that is a number of 64 bits; reckoned without bounds.
func placed(first, size, n int) (int, bool) {
	at := new(big.Int).Mul(big.NewInt(int64(size)), big.NewInt(int64(n)))
	at.Add(at, big.NewInt(int64(first)))
	return int(at.Int64()), at.IsInt64()
}

// digit is one of the eight bytes of v, the least being the first.
func digit(v, k int) byte {
	n := uint64(v)
	for range k {
		n /= 256
	}
	return byte(n % 256)
}

// made is so many bytes, each as it is told of its place.
func made(size int, at func(place int) byte) string {
	out := make([]byte, size)
	for place := range out {
		out[place] = at(place)
	}
	return string(out)
}

// dataOf is what stands at DataAt, place by place.
func dataOf(globals []api.Global, args []int) string {
	return made(40+8*len(globals), func(place int) byte {
		switch n := place / 8; {
		case n < len(args):
			return digit(args[n], place%8)
		case n >= 5:
			return digit(globals[n-5].V, place%8)
		}
		return 0
	})
}

// memoryOf is chapter 8's memory k, place by place.
func memoryOf(m api.Module, k int) string {
	sizes := map[int]int{3: 8, 4: 16, 5: 32, 6: 64, 7: 128, 8: 256, 9: 512, 10: 1024, 11: 2048, 12: 4096}
	return made(sizes[m.Mems[k]], func(place int) byte {
		for _, d := range slices.Backward(m.Data) {
			if d.Mem == k && d.At >= 0 && d.At <= place && place-d.At < len(d.Bytes) {
				return d.Bytes[place-d.At]
			}
		}
		return 0
	})
}

// regionsOf is what P19.3 says of a machine's memory: of one at its start with args, and with top in the topmost bytes of the stack.
func regionsOf(m api.Module, code string, args []int, top int) []api.Region {
	l := []api.Region{{At: codeAt, Bytes: code, Code: true}, {At: dataAt, Bytes: dataOf(m.Globals, args)}}
	for k, at := range []int{publicAt, secretAt} {
		if mem := memoryOf(m, k); len(mem) > 0 {
			l = append(l, api.Region{At: at, Bytes: mem})
		}
	}
	return append(l, api.Region{At: stackAt, Bytes: made(stackSize, func(place int) byte {
		if place < stackSize-8 {
			return 0
		}
		return digit(top, place-(stackSize-8))
	})})
}

// startOf is what P19.3 says of Start.
func startOf(m api.Module, i api.Image, entry int, args []int) (api.Machine, bool) {
	if entry < 0 || entry > len(i.Code)-1 || len(args) > 4 {
		return api.Machine{}, false
	}
	s := api.Machine{At: codeAt + entry, Regions: regionsOf(m, i.Code, args, codeAt+i.Halt)}
	s.Regs[4] = stackAt + stackSize - 8
	s.Regs[15] = dataAt
	return s, true
}

// sameMachine: whether they are one and the same, region by region.
func sameMachine(a, b api.Machine) bool {
	return a.Regs == b.Regs && a.Flags == b.Flags && a.At == b.At && a.Status == b.Status && slices.Equal(a.Regions, b.Regions)
}

// apart: whether no two regions of l share an address.
func apart(l []api.Region) bool {
	for i, a := range l {
		for _, b := range l[:i] {
			if a.At < b.At+len(b.Bytes) && b.At < a.At+len(a.Bytes) {
				return false
			}
		}
	}
	return true
}

// told tells regions by where they are, how long, and some of what is not nought in them.
func told(l []api.Region) string {
	text := ""
	for _, r := range l {
		text += strconv.FormatInt(int64(r.At), 16) + " of " + strconv.Itoa(len(r.Bytes)) + " bytes"
		if r.Code {
			text += ", code"
		}
		most := 24
		for place := range len(r.Bytes) {
			if r.Bytes[place] != 0 && most > 0 {
				most--
				text += " " + strconv.Itoa(place) + ":" + strconv.FormatInt(int64(r.Bytes[place]), 16)
			}
		}
		text += "\n"
	}
	return text
}
