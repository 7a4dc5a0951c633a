package bits

import (
	"math"
	"math/big"
	"math/rand/v2"
	"slices"
	"testing"
)

const top = uint64(1) << 63

// ones is a variable so that it may be shifted beyond its end.
var ones = ^uint64(0)

// places are numbers of all sizes for where a field is and how long it is.
var places = []int{
	math.MinInt, math.MinInt + 1, math.MinInt + 63, math.MinInt + 64, -1 << 32, -1000, -128, -65, -64, -63, -33, -32, -31, -8, -2, -1,
	0, 1, 2, 4, 7, 8, 31, 32, 33, 62, 63, 64, 65, 100, 127, 128, 129, 1000, 1 << 32, 1 << 62, math.MaxInt - 64, math.MaxInt - 63, math.MaxInt - 1, math.MaxInt,
}

// words are the edges of words and some words between them, the same ones every time.
func words() []uint64 {
	out := []uint64{
		0, 1, 2, 3, 5, 18, 127, 128, 240, 255, 256, 1<<31 - 1, 1 << 31, 1<<31 + 1, 1<<32 - 1, 1 << 32, 1<<32 + 1 | 1<<31,
		top - 1, top, top + 1, ones - 1, ones, ones << 31, ones << 32, 0x5555555555555555, 0xaaaaaaaaaaaaaaaa, 0x0123456789abcdef,
	}
	r := rand.New(rand.NewPCG(1, 2))
	for range 20 {
		out = append(out, r.Uint64(), r.Uint64()>>r.IntN(64), ones<<r.IntN(64))
	}
	return out
}

// bitOf is bit at + i of a word, by the chapter's words: a bit that doesn't exist is 0.
func bitOf(w uint64, at, i int) uint64 {
	n := new(big.Int).Add(big.NewInt(int64(at)), big.NewInt(int64(i)))
	if n.Sign() < 0 || n.Cmp(big.NewInt(63)) > 0 {
		return 0
	}
	return w >> n.Uint64() & 1
}

// place is which bit of a field a word's bit i is, and whether it is one.
func place(i, at, size int) (*big.Int, bool) {
	n := new(big.Int).Sub(big.NewInt(int64(i)), big.NewInt(int64(at)))
	return n, n.Sign() >= 0 && n.Cmp(big.NewInt(int64(size))) < 0
}

func slowOnes(at, size int) uint64 {
	var out uint64
	for i := range 64 {
		if _, in := place(i, at, size); in {
			out |= 1 << i
		}
	}
	return out
}

func slowCut(w uint64, at, size int) uint64 {
	var out uint64
	for i := 0; i < 64 && i < size; i++ {
		out |= bitOf(w, at, i) << i
	}
	return out
}

func slowPut(w uint64, at, size int, n uint64) uint64 {
	var out uint64
	for i := range 64 {
		bit := w >> i & 1
		if k, in := place(i, at, size); in {
			bit = 0
			if k.Cmp(big.NewInt(64)) < 0 {
				bit = n >> k.Uint64() & 1
			}
		}
		out |= bit << i
	}
	return out
}

func slowSign(w uint64, size int) uint64 {
	if size < 1 {
		return 0
	}
	var out uint64
	for i := range 64 {
		out |= (w >> min(i, size-1) & 1) << i
	}
	return out
}

// signed is the signed value of a word, by the chapter's words.
func signed(w uint64) *big.Int {
	n := new(big.Int).SetUint64(w)
	if w >= top {
		n.Sub(n, new(big.Int).Lsh(big.NewInt(1), 64))
	}
	return n
}

// unsigned is the word of a number of any size and sign.
func unsigned(n *big.Int) uint64 {
	return new(big.Int).And(n, new(big.Int).SetUint64(ones)).Uint64()
}

func is(t *testing.T, what string, got, want uint64, args ...any) {
	t.Helper()
	if got != want {
		t.Fatalf("%s %v: got %d, want %d", what, args, got, want)
	}
}

// P1.1
func TestFieldExamples(t *testing.T) {
	is(t, "Ones", Ones(4, 4), 240)
	is(t, "Cut", Cut(240, 4, 4), 15)
	is(t, "Put", Put(0, 4, 8, 511), 4080)
	is(t, "Low", Low(255, 4), 15)
}

// P1.1: a field with a size below 1 has no bits.
func TestFieldsWithoutBits(t *testing.T) {
	for _, at := range places {
		for _, size := range []int{0, -1, -64, math.MinInt} {
			is(t, "Ones", Ones(at, size), 0, at, size)
			is(t, "Cut", Cut(ones, at, size), 0, at, size)
			is(t, "Put", Put(12345, at, size, ones), 12345, at, size)
			is(t, "Low", Low(ones, size), 0, size)
		}
	}
}

// P1.1: fields of more than 64 bits.
func TestLongFields(t *testing.T) {
	is(t, "Ones", Ones(0, 65), ones)
	is(t, "Ones", Ones(60, math.MaxInt), ones<<60)
	is(t, "Ones", Ones(-1000, 1001), 1)
	is(t, "Cut", Cut(ones, 0, math.MaxInt), ones)
	is(t, "Cut", Cut(ones, -10, 100), ones<<10)
	is(t, "Put", Put(ones, -10, 100, 0), 0)
	is(t, "Put", Put(ones, -10, 100, ones), 1<<54-1)
	is(t, "Put", Put(ones, -64, 128, ones), 0)
	is(t, "Put", Put(0, 0, 65, ones), ones)
	is(t, "Low", Low(ones, 65), ones)
}

// P1.1: fields whose bits do not all exist.
func TestFieldsOverTheEdges(t *testing.T) {
	is(t, "Ones", Ones(-4, 8), 15)
	is(t, "Ones", Ones(60, 8), ones<<60)
	is(t, "Ones", Ones(64, 8), 0)
	is(t, "Ones", Ones(-8, 8), 0)
	is(t, "Ones", Ones(math.MinInt, math.MaxInt), 0)
	is(t, "Ones", Ones(math.MinInt+1, math.MaxInt), 0)
	is(t, "Ones", Ones(math.MaxInt, math.MaxInt), 0)
	is(t, "Cut", Cut(255, -4, 8), 240)
	is(t, "Cut", Cut(ones, 60, 8), 15)
	is(t, "Cut", Cut(1, -3, 64), 8)
	is(t, "Cut", Cut(1, -70, 100), 0)
	is(t, "Cut", Cut(ones, math.MinInt, math.MaxInt), 0)
	is(t, "Put", Put(0, -4, 8, 0xab), 0xa)
	is(t, "Put", Put(0, 60, 8, 0xab), 0xb<<60)
	is(t, "Put", Put(7, 64, 8, ones), 7)
	is(t, "Put", Put(7, math.MinInt, math.MaxInt, ones), 7)
}

// P1.1: fields of any place and size, bit by bit.
func TestFieldsBitByBit(t *testing.T) {
	for _, at := range places {
		for _, size := range places {
			is(t, "Ones", Ones(at, size), slowOnes(at, size), at, size)
			for _, w := range []uint64{0, 1, top, ones, 0x0123456789abcdef, 0xaaaaaaaaaaaaaaaa} {
				is(t, "Cut", Cut(w, at, size), slowCut(w, at, size), w, at, size)
				for _, n := range []uint64{0, 511, ones, 0xfedcba9876543210} {
					is(t, "Put", Put(w, at, size, n), slowPut(w, at, size, n), w, at, size, n)
				}
			}
		}
	}
}

// P1.1: all fields that lie near the word.
func TestFieldsNearTheWord(t *testing.T) {
	const w, n = uint64(0x9123456789abcdef), uint64(0xfedcba9876543211)
	for at := -130; at <= 70; at++ {
		for size := -2; size <= 200; size++ {
			is(t, "Ones", Ones(at, size), slowOnes(at, size), at, size)
			is(t, "Cut", Cut(w, at, size), slowCut(w, at, size), at, size)
			is(t, "Put", Put(w, at, size, n), slowPut(w, at, size, n), at, size)
		}
	}
}

// P1.1: Low is Cut from bit 0.
func TestLow(t *testing.T) {
	for _, w := range words() {
		for _, size := range places {
			is(t, "Low", Low(w, size), slowCut(w, 0, size), w, size)
		}
	}
}

// P1.2
func TestSign(t *testing.T) {
	is(t, "Sign", Sign(255, 8), ones)
	is(t, "Sign", Sign(127, 8), 127)
	is(t, "Sign", Sign(256, 8), 0)
	is(t, "Sign", Sign(1, 1), ones)
	is(t, "Sign", Sign(2, 1), 0)
	is(t, "Sign", Sign(1<<62, 63), 3<<62)
	is(t, "Sign", Sign(top, 63), 0)
	for _, w := range words() {
		for _, size := range []int{0, -1, -64, math.MinInt} {
			is(t, "Sign", Sign(w, size), 0, w, size)
		}
		for _, size := range []int{64, 65, 128, math.MaxInt} {
			is(t, "Sign", Sign(w, size), w, w, size)
		}
		for size := 1; size <= 64; size++ {
			is(t, "Sign", Sign(w, size), slowSign(w, size), w, size)
		}
	}
}

// P1.2
func TestWord(t *testing.T) {
	is(t, "Word", Word(1<<31), ones<<31)
	is(t, "Word", Word(1<<31-1), 1<<31-1)
	is(t, "Word", Word(1<<32), 0)
	for _, w := range words() {
		is(t, "Word", Word(w), slowSign(w, 32), w)
	}
}

// P1.2
func TestLess(t *testing.T) {
	if !Less(top, 0) || Less(0, top) || Less(3, 3) || !Less(ones, 0) || Less(top-1, top) {
		t.Fatal("Less")
	}
	for _, a := range words() {
		for _, b := range words() {
			if Less(a, b) != (signed(a).Cmp(signed(b)) < 0) {
				t.Fatal("Less", a, b)
			}
		}
	}
}

// distances are shift distances with and without bits above those that count.
func distances() []uint64 {
	out := []uint64{128, 1 << 32, top, ones, ones - 1, ones - 31, ones - 32, ones - 63}
	for n := range uint64(66) {
		out = append(out, n, n|1<<20, n|top)
	}
	return out
}

// P1.3
func TestShifts(t *testing.T) {
	is(t, "Sll", Sll(1, 64), 1)
	is(t, "Sll", Sll(1, 63), top)
	is(t, "Srl", Srl(top, 63), 1)
	is(t, "Srl", Srl(top, 64), top)
	is(t, "Sra", Sra(top, 63), ones)
	is(t, "Sra", Sra(top, 64), top)
	is(t, "Sra", Sra(top-1, 62), 1)
	for _, w := range words() {
		for _, n := range distances() {
			d := uint(n % 64)
			big64 := new(big.Int).SetUint64(w)
			is(t, "Sll", Sll(w, n), unsigned(new(big.Int).Lsh(big64, d)), w, n)
			is(t, "Srl", Srl(w, n), unsigned(new(big.Int).Rsh(big64, d)), w, n)
			is(t, "Sra", Sra(w, n), unsigned(new(big.Int).Rsh(signed(w), d)), w, n)
		}
	}
}

// P1.3: only the lowest 32 bits of the word and the lowest 5 bits of the distance count.
func TestShortShifts(t *testing.T) {
	is(t, "Sraw", Sraw(1<<31, 4), ones<<27)
	is(t, "Sllw", Sllw(1, 31), ones<<31)
	is(t, "Sllw", Sllw(1, 32), 1)
	is(t, "Srlw", Srlw(1<<31, 32), ones<<31)
	is(t, "Srlw", Srlw(ones, 1), 1<<31-1)
	is(t, "Srlw", Srlw(1<<32, 1), 0)
	is(t, "Sraw", Sraw(1<<31-1|1<<63, 1), 1<<30-1)
	for _, w := range words() {
		for _, n := range distances() {
			d := uint(n % 32)
			short := new(big.Int).SetUint64(w % (1 << 32))
			is(t, "Sllw", Sllw(w, n), slowSign(unsigned(new(big.Int).Lsh(short, d)), 32), w, n)
			is(t, "Srlw", Srlw(w, n), slowSign(unsigned(new(big.Int).Rsh(short, d)), 32), w, n)
			is(t, "Sraw", Sraw(w, n), unsigned(new(big.Int).Rsh(signed(slowSign(w, 32)), d)), w, n)
		}
	}
}

// slowGather works with a number that is not cut to 64 bits till the end.
func slowGather(w uint64, parts ...[2]int) uint64 {
	sum := new(big.Int)
	for _, p := range parts {
		if p[1] > 0 {
			sum.Lsh(sum, uint(min(p[1], 64)))
		}
		sum.Or(sum, new(big.Int).SetUint64(slowCut(w, p[0], p[1])))
		sum.SetUint64(unsigned(sum))
	}
	return sum.Uint64()
}

// P1.4
func TestGather(t *testing.T) {
	is(t, "Gather", Gather(18, [2]int{1, 1}, [2]int{4, 1}), 3)
	is(t, "Gather", Gather(0xabcd, [2]int{0, 4}, [2]int{8, 8}, [2]int{4, 4}), 0xdabc)
	is(t, "Gather", Gather(ones), 0)
	is(t, "Gather", Gather(5, [][2]int(nil)...), 0)
	is(t, "Gather", Gather(5, [2]int{0, 64}, [2]int{0, 64}), 5)
	is(t, "Gather", Gather(5, [2]int{0, 3}, [2]int{0, 63}), 5|1<<63)
	is(t, "Gather", Gather(5, [2]int{0, 3}, [2]int{3, 64}), 0)
	is(t, "Gather", Gather(5, [2]int{0, 3}, [2]int{-1, 65}), 10)
	is(t, "Gather", Gather(5, [2]int{0, 3}, [2]int{0, math.MaxInt}), 5)
	is(t, "Gather", Gather(5, [2]int{0, 3}, [2]int{64, 2}), 20)
	is(t, "Gather", Gather(5, [2]int{0, 3}, [2]int{-2, 2}), 20)
	is(t, "Gather", Gather(5, [2]int{0, 3}, [2]int{0, 0}), 5)
	is(t, "Gather", Gather(5, [2]int{0, 3}, [2]int{0, -1}), 5)
	is(t, "Gather", Gather(5, [2]int{0, 3}, [2]int{math.MinInt, math.MinInt}, [2]int{0, 1}), 11)
}

// P1.4: three fields of any places and sizes.
func TestGatherAnyFields(t *testing.T) {
	const w = uint64(0x9123456789abcdef)
	for _, at := range places {
		for _, size := range places {
			parts := [][2]int{{3, 9}, {at, size}, {60, 5}}
			is(t, "Gather", Gather(w, parts...), slowGather(w, parts...), parts)
			parts = [][2]int{{at, size}, {size, 7}, {1, at}}
			is(t, "Gather", Gather(w, parts...), slowGather(w, parts...), parts)
		}
	}
}

// P1.4: the fields of a caller's slice, and what lies behind its end, stay as they are.
func TestGatherLeavesItsArguments(t *testing.T) {
	all := [][2]int{{1, 1}, {4, 1}, {9, 9}}
	before := slices.Clone(all)
	is(t, "Gather", Gather(18, all[:2]...), 3)
	if !slices.Equal(all, before) {
		t.Fatal("changed", all)
	}
}

// P1.5: Cut returns what was Put, as far as its bits exist, and Put changes no other bit.
func TestCutReturnsWhatWasPut(t *testing.T) {
	for _, w := range []uint64{0, ones, 0x0123456789abcdef} {
		for _, n := range []uint64{0, 5, ones, 0xfedcba9876543211} {
			for _, at := range places {
				for _, size := range places {
					after := Put(w, at, size, n)
					exist := Cut(ones, at, size)
					is(t, "Cut of Put", Cut(after, at, size), n&exist, w, at, size, n)
					is(t, "other bits", after&^Ones(at, size), w&^Ones(at, size), w, at, size, n)
				}
			}
		}
	}
}

// P1.5: a word that was sign-extended from a size stays, from that size or a greater one.
func TestSignTwice(t *testing.T) {
	for _, w := range words() {
		for _, size := range places {
			once := Sign(w, size)
			for _, greater := range places {
				if greater >= size {
					is(t, "Sign twice", Sign(once, greater), once, w, size, greater)
				}
			}
		}
	}
}

// P1.5: Sra is division by a power of two, rounded down.
func TestSraDivides(t *testing.T) {
	for _, w := range words() {
		for n := range uint64(64) {
			power := new(big.Int).Lsh(big.NewInt(1), uint(n))
			// big's Div rounds down where the divisor is above 0.
			is(t, "Sra", Sra(w, n), unsigned(new(big.Int).Div(signed(w), power)), w, n)
		}
	}
}
