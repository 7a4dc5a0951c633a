package alu

import (
	"roebuck/api"
	"roebuck/bits"
	"roebuck/wide"
)

// reckon is what an op makes of the words of its operands.
type reckon func(a, b uint64) uint64

// long is the reckoning of an op of 64 bits, and nil for other ops and for products and quotients.
func long(op api.Op) reckon {
	switch op {
	case api.Addi:
		fallthrough
	case api.Add:
		return plus
	case api.Sub:
		return minus
	case api.Slli:
		fallthrough
	case api.Sll:
		return bits.Sll
	case api.Srli:
		fallthrough
	case api.Srl:
		return bits.Srl
	case api.Srai:
		fallthrough
	case api.Sra:
		return bits.Sra
	case api.Slti:
		fallthrough
	case api.Slt:
		return flag(bits.Less)
	case api.Sltiu:
		fallthrough
	case api.Sltu:
		return flag(func(a, b uint64) bool { return a < b })
	case api.Xori:
		fallthrough
	case api.Xor:
		return func(a, b uint64) uint64 { return a ^ b }
	case api.Ori:
		fallthrough
	case api.Or:
		return func(a, b uint64) uint64 { return a | b }
	case api.Andi:
		fallthrough
	case api.And:
		return func(a, b uint64) uint64 { return a & b }
	}
	return nil
}

// short is the reckoning of an op of 32 bits, and nil for other ops and for products and quotients.
func short(op api.Op) reckon {
	switch op {
	case api.Addiw:
		fallthrough
	case api.Addw:
		return trim(plus)
	case api.Subw:
		return trim(minus)
	case api.Slliw:
		fallthrough
	case api.Sllw:
		return bits.Sllw
	case api.Srliw:
		fallthrough
	case api.Srlw:
		return bits.Srlw
	case api.Sraiw:
		fallthrough
	case api.Sraw:
		return bits.Sraw
	}
	return nil
}

// product is the reckoning of an op for products and quotients, and nil for other ops.
func product(op api.Op) reckon {
	switch op {
	case api.Mul:
		return wide.Mul
	case api.Mulh:
		return wide.High
	case api.Mulhsu:
		return wide.HighMixed
	case api.Mulhu:
		return wide.HighPlain
	case api.Div:
		return wide.Div
	case api.Divu:
		return wide.DivPlain
	case api.Rem:
		return wide.Rem
	case api.Remu:
		return wide.RemPlain
	case api.Mulw:
		return half(wide.Mul, false)
	case api.Divw:
		return half(wide.Div, false)
	case api.Divuw:
		return half(wide.DivPlain, true)
	case api.Remw:
		return half(wide.Rem, false)
	case api.Remuw:
		return half(wide.RemPlain, true)
	}
	return nil
}

// plus is a sum; it has a name since two ops need it, of 64 and of 32 bits.
func plus(a, b uint64) uint64 {
	return a + b
}

// minus is a difference, named for the same reason.
func minus(a, b uint64) uint64 {
	return a - b
}

// flag makes a comparison one that gives a word, 1 or 0.
func flag(less func(a, b uint64) bool) reckon {
	return func(a, b uint64) uint64 {
		if less(a, b) {
			return 1
		}
		return 0
	}
}

// trim makes a reckoning one of 32 bits. The lowest bits of sums do not hang on the bits above them, so the operands stay as they are.
func trim(do reckon) reckon {
	return func(a, b uint64) uint64 { return bits.Word(do(a, b)) }
}

// half makes a product or quotient one of 32 bits; here the operands' upper bits would count, so Short leaves them out.
func half(do reckon, plain bool) reckon {
	return func(a, b uint64) uint64 { return wide.Short(do, plain, a, b) }
}
