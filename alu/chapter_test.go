package alu

import (
	"math"
	"math/big"
	"math/rand/v2"
	"testing"

	"roebuck/api"
)

const top = uint64(1) << 63

// ones is a variable so that it may be shifted beyond its end.
var ones = ^uint64(0)

// edges are the words that each op is tried with on either side.
func edges() []uint64 {
	return []uint64{
		0, 1, 2, 3, 4, 7, 30, 31, 32, 33, 62, 63, 64, 65, 127, 128,
		1<<31 - 1, 1 << 31, 1<<31 + 1, 1<<32 - 1, 1 << 32, 1<<32 + 1, 1<<40 | 5,
		top - 1, top, top + 1, ones - 7, ones - 1, ones, ones << 31, ones<<31 - 1, ones << 32,
		0x5555555555555555, 0xaaaaaaaaaaaaaaaa,
	}
}

// words are the edges and some words between them, the same ones every time.
func words() []uint64 {
	out := edges()
	r := rand.New(rand.NewPCG(7, 1))
	for range 15 {
		out = append(out, r.Uint64(), r.Uint64()>>r.IntN(64), ones<<r.IntN(64))
	}
	return out
}

// numbers are signed numbers for what is added to a pc.
func numbers() []int64 {
	return []int64{
		0, 1, -1, 2, -2, 3, 4, -4, 2047, -2048, 4094, -4096, 4096, 1<<20 - 2, -1 << 20, 1<<31 - 4096, -1 << 31,
		math.MaxInt64, math.MaxInt64 - 1, math.MinInt64, math.MinInt64 + 1,
	}
}

// noOps are numbers of ops that there are not.
func noOps() []api.Op {
	return []api.Op{api.NoOp, -1, -2, api.Op(api.AllOps + 1), api.Op(api.AllOps + 2), 1000, math.MaxInt32, math.MinInt32, math.MaxInt, math.MinInt}
}

func plain(w uint64) *big.Int { return new(big.Int).SetUint64(w) }

// signed is the signed value of a word's lowest size bits.
func signed(w uint64, size uint) *big.Int {
	n := low(w, size)
	if n.Bit(int(size)-1) == 1 {
		n.Sub(n, new(big.Int).Lsh(big.NewInt(1), size))
	}
	return n
}

// low is a word's lowest size bits.
func low(w uint64, size uint) *big.Int {
	return new(big.Int).Mod(plain(w), new(big.Int).Lsh(big.NewInt(1), size))
}

// word is a number of any size and sign, modulo 2^64.
func word(n *big.Int) uint64 {
	return new(big.Int).And(n, plain(ones)).Uint64()
}

// long32 is a number of any size and sign: its lowest 32 bits with their sign.
func long32(n *big.Int) uint64 {
	return word(signed(word(n), 32))
}

// count is how far a shift goes, of 64 or 32 bits.
func count(b uint64, size uint64) uint { return uint(b % size) }

func upper(a, b *big.Int) uint64 {
	return word(new(big.Int).Rsh(new(big.Int).Mul(a, b), 64))
}

// quotient is a quotient towards 0 as the chapters have it: of 0 it is -1.
func quotient(a, b *big.Int) *big.Int {
	if b.Sign() == 0 {
		return big.NewInt(-1)
	}
	return new(big.Int).Quo(a, b)
}

// left is what a quotient leaves.
func left(a, b *big.Int) *big.Int {
	return new(big.Int).Sub(a, new(big.Int).Mul(b, quotient(a, b)))
}

func one(is bool) uint64 {
	if is {
		return 1
	}
	return 0
}

// row is an op without a number, the op with a number that goes with it (or NoOp), and what both make of two words, in whole numbers.
type row struct {
	name     string
	op, with api.Op
	want     func(a, b uint64) uint64
}

// chapter is the chapter's table of results.
func chapter() []row {
	s := func(w uint64) *big.Int { return signed(w, 64) }
	h := func(w uint64) *big.Int { return signed(w, 32) }
	l := func(w uint64) *big.Int { return low(w, 32) }
	add := func(a, b uint64) *big.Int { return new(big.Int).Add(plain(a), plain(b)) }
	sub := func(a, b uint64) *big.Int { return new(big.Int).Sub(plain(a), plain(b)) }
	return []row{
		{"add", api.Add, api.Addi, func(a, b uint64) uint64 { return word(add(a, b)) }},
		{"sub", api.Sub, api.NoOp, func(a, b uint64) uint64 { return word(sub(a, b)) }},
		{"sll", api.Sll, api.Slli, func(a, b uint64) uint64 { return word(new(big.Int).Lsh(plain(a), count(b, 64))) }},
		{"srl", api.Srl, api.Srli, func(a, b uint64) uint64 { return word(new(big.Int).Rsh(plain(a), count(b, 64))) }},
		{"sra", api.Sra, api.Srai, func(a, b uint64) uint64 { return word(new(big.Int).Rsh(s(a), count(b, 64))) }},
		{"slt", api.Slt, api.Slti, func(a, b uint64) uint64 { return one(s(a).Cmp(s(b)) < 0) }},
		{"sltu", api.Sltu, api.Sltiu, func(a, b uint64) uint64 { return one(plain(a).Cmp(plain(b)) < 0) }},
		{"xor", api.Xor, api.Xori, func(a, b uint64) uint64 { return word(new(big.Int).Xor(plain(a), plain(b))) }},
		{"or", api.Or, api.Ori, func(a, b uint64) uint64 { return word(new(big.Int).Or(plain(a), plain(b))) }},
		{"and", api.And, api.Andi, func(a, b uint64) uint64 { return word(new(big.Int).And(plain(a), plain(b))) }},
		{"addw", api.Addw, api.Addiw, func(a, b uint64) uint64 { return long32(add(a, b)) }},
		{"subw", api.Subw, api.NoOp, func(a, b uint64) uint64 { return long32(sub(a, b)) }},
		{"sllw", api.Sllw, api.Slliw, func(a, b uint64) uint64 { return long32(new(big.Int).Lsh(l(a), count(b, 32))) }},
		{"srlw", api.Srlw, api.Srliw, func(a, b uint64) uint64 { return long32(new(big.Int).Rsh(l(a), count(b, 32))) }},
		{"sraw", api.Sraw, api.Sraiw, func(a, b uint64) uint64 { return long32(new(big.Int).Rsh(h(a), count(b, 32))) }},
		{"mul", api.Mul, api.NoOp, func(a, b uint64) uint64 { return word(new(big.Int).Mul(plain(a), plain(b))) }},
		{"mulh", api.Mulh, api.NoOp, func(a, b uint64) uint64 { return upper(s(a), s(b)) }},
		{"mulhsu", api.Mulhsu, api.NoOp, func(a, b uint64) uint64 { return upper(s(a), plain(b)) }},
		{"mulhu", api.Mulhu, api.NoOp, func(a, b uint64) uint64 { return upper(plain(a), plain(b)) }},
		{"div", api.Div, api.NoOp, func(a, b uint64) uint64 { return word(quotient(s(a), s(b))) }},
		{"divu", api.Divu, api.NoOp, func(a, b uint64) uint64 { return word(quotient(plain(a), plain(b))) }},
		{"rem", api.Rem, api.NoOp, func(a, b uint64) uint64 { return word(left(s(a), s(b))) }},
		{"remu", api.Remu, api.NoOp, func(a, b uint64) uint64 { return word(left(plain(a), plain(b))) }},
		{"mulw", api.Mulw, api.NoOp, func(a, b uint64) uint64 { return long32(new(big.Int).Mul(h(a), h(b))) }},
		{"divw", api.Divw, api.NoOp, func(a, b uint64) uint64 { return long32(quotient(h(a), h(b))) }},
		{"divuw", api.Divuw, api.NoOp, func(a, b uint64) uint64 { return long32(quotient(l(a), l(b))) }},
		{"remw", api.Remw, api.NoOp, func(a, b uint64) uint64 { return long32(left(h(a), h(b))) }},
		{"remuw", api.Remuw, api.NoOp, func(a, b uint64) uint64 { return long32(left(l(a), l(b))) }},
	}
}

// ops are the ops of the chapter's table, those with a number too.
func ops() map[api.Op]bool {
	out := map[api.Op]bool{}
	for _, r := range chapter() {
		out[r.op] = true
		if r.with != api.NoOp {
			out[r.with] = true
		}
	}
	return out
}

func do(t *testing.T, op api.Op, a, b uint64) uint64 {
	t.Helper()
	w, ok := Do(op, a, b)
	if !ok {
		t.Fatalf("Do of op %d: false", op)
	}
	return w
}

func whole(n int64) *big.Int { return big.NewInt(n) }

// sum is a word and a number with a sign, modulo 2^64.
func sum(w uint64, n int64) uint64 {
	return word(new(big.Int).Add(plain(w), whole(n)))
}
