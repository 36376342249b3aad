package frame

import (
	"oubliette/api"
)

// Chapter 17's places: the first slot, and the last one (a code has at most 60 cells).
const (
	firstSlot = 6
	lastSlot  = 65
)

// lastReg is the machine's last register.
const lastReg = 15

// registers are those of the first places: the others are kept for reckoning, for the stack and for the data.
var registers = [firstSlot]int{3, 5, 6, 7, 8, 9}

// Register: the register of a place that has one.
func Register(place int) (reg int, ok bool) {
	if place < 0 || place >= len(registers) {
		return 0, false
	}
	return registers[place], true
}

// Load: the instruction that puts what is at a place into a register.
func Load(reg, place int) (api.X, bool) {
	if !isReg(reg) {
		return api.X{}, false
	}
	if r, ok := Register(place); ok {
		return move(r, reg), true
	}
	return slot(api.XLoad, reg, place)
}

// Save: the instruction that puts what is in a register to a place.
func Save(place, reg int) (api.X, bool) {
	if !isReg(reg) {
		return api.X{}, false
	}
	if r, ok := Register(place); ok {
		return move(reg, r), true
	}
	return slot(api.XStore, reg, place)
}

// move is the instruction that puts what is in one register into another.
func move(from, to int) api.X {
	return api.X{Op: api.XMov, Wide: true, R: from, B: to}
}

// slot is the instruction of a kind that goes between a register and a slot of the frame.
func slot(op, reg, place int) (api.X, bool) {
	if place < firstSlot || place > lastSlot {
		return api.X{}, false
	}
	return api.X{Op: op, Wide: true, R: reg, B: stackReg, N: word * (place - firstSlot)}, true
}

func isReg(reg int) bool { return reg >= 0 && reg <= lastReg }
