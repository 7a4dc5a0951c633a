// Package wide is layer 2: see shared/doc/02-wide.md.
package wide

import (
	mathbits "math/bits"

	"roebuck/bits"
)

// Wide is a number of 128 bits.
type Wide struct{ Hi, Lo uint64 }

// Times is a product without signs.
func Times(a, b uint64) Wide {
	hi, lo := mathbits.Mul64(a, b)
	return Wide{Hi: hi, Lo: lo}
}

// Plus is a sum.
func (w Wide) Plus(o Wide) Wide {
	lo, carry := mathbits.Add64(w.Lo, o.Lo, 0)
	hi, _ := mathbits.Add64(w.Hi, o.Hi, carry)
	return Wide{Hi: hi, Lo: lo}
}

// Neg is what is 0 together with a number.
func (w Wide) Neg() Wide {
	return Wide{Hi: ^w.Hi, Lo: ^w.Lo}.Plus(Wide{Lo: 1})
}

// Over is a quotient, and what is left.
func (w Wide) Over(b uint64) (Wide, uint64, bool) {
	if b == 0 {
		return Wide{}, 0, false
	}
	var left uint64
	// left stays below b, so each quotient fits a word and Div64 does not panic.
	next := func(word uint64) uint64 {
		var q uint64
		q, left = mathbits.Div64(left, word, b)
		return q
	}
	hi := next(w.Hi)
	lo := next(w.Lo)
	return Wide{Hi: hi, Lo: lo}, left, true
}

// Mul is a product's lower word.
func Mul(a, b uint64) uint64 {
	return a * b
}

// HighPlain is a product's upper word, without signs.
func HighPlain(a, b uint64) uint64 {
	return Times(a, b).Hi
}

// HighMixed is a product's upper word, of one with a sign by one without.
func HighMixed(a, b uint64) uint64 {
	hi := HighPlain(a, b)
	if negative(a) {
		// The signed value of a is 2^64 less than a: b times that is b in the upper word.
		hi -= b
	}
	return hi
}

// High is a product's upper word, with signs.
func High(a, b uint64) uint64 {
	hi := HighMixed(a, b)
	if negative(b) {
		hi -= a
	}
	return hi
}

// Div is a quotient with signs.
func Div(a, b uint64) uint64 {
	if b == 0 {
		return ^uint64(0)
	}
	// Go's quotient wraps around for -2^63 and -1, as the promise asks; it does not panic.
	return uint64(int64(a) / int64(b))
}

// DivPlain is a quotient without signs.
func DivPlain(a, b uint64) uint64 {
	if b == 0 {
		return ^uint64(0)
	}
	return a / b
}

// Rem is what is left, with signs.
func Rem(a, b uint64) uint64 {
	return a - b*Div(a, b)
}

// RemPlain is what is left, without signs.
func RemPlain(a, b uint64) uint64 {
	return a - b*DivPlain(a, b)
}

// Short is an op of the lowest 32 bits.
func Short(op func(a, b uint64) uint64, plain bool, a, b uint64) uint64 {
	if op == nil {
		return 0
	}
	return bits.Word(op(extend(a, plain), extend(b, plain)))
}

// extend is the lowest 32 bits as a word.
func extend(w uint64, plain bool) uint64 {
	if plain {
		return bits.Low(w, 32)
	}
	return bits.Word(w)
}

// negative tells whether a word's signed value is below 0.
func negative(w uint64) bool {
	return bits.Less(w, 0)
}
