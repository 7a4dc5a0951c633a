package amo

import (
	"math"
	"math/big"
	"math/rand/v2"
	"strings"
	"testing"

	"roebuck/api"
	"roebuck/kind"
)

const top = uint64(1) << 63

// ones is a variable so that it may be shifted beyond its end.
var ones = ^uint64(0)

// words are the edges of numbers of 32 and 64 bits, with dirt above the lowest 32 bits too, and some words between them, the same ones every time.
func words() []uint64 {
	out := []uint64{
		0, 1, 2, 5, 1<<31 - 1, 1 << 31, 1<<31 + 1, 1<<32 - 1, 1 << 32, 1<<32 + 1,
		1<<40 | 5, 1<<50 | 3, 1<<40 | 1<<31, 1<<63 | 1, 1<<63 | 1<<31, ones<<32 | 7,
		top - 1, top, ones - 1, ones, ones << 31, ones<<31 - 1, ones << 32, 0x5555555555555555, 0xaaaaaaaaaaaaaaaa,
	}
	r := rand.New(rand.NewPCG(8, 1))
	for range 12 {
		out = append(out, r.Uint64(), r.Uint64()>>r.IntN(64), ones<<r.IntN(64))
	}
	return out
}

// noOps are numbers of ops that there are not.
func noOps() []api.Op {
	return []api.Op{api.NoOp, -1, -2, api.Op(api.AllOps + 1), api.Op(api.AllOps + 2), 1000, math.MaxInt32, math.MinInt32, math.MaxInt, math.MinInt}
}

// low is a word's lowest size bits as a number.
func low(w uint64, size uint) *big.Int {
	return new(big.Int).Mod(new(big.Int).SetUint64(w), new(big.Int).Lsh(big.NewInt(1), size))
}

// signed is the same with the sign.
func signed(w uint64, size uint) *big.Int {
	n := low(w, size)
	if n.Bit(int(size)-1) == 1 {
		n.Sub(n, new(big.Int).Lsh(big.NewInt(1), size))
	}
	return n
}

// cut is a number's lowest size bits, the bits above them 0.
func cut(n *big.Int, size uint) uint64 {
	return new(big.Int).Mod(n, new(big.Int).Lsh(big.NewInt(1), size)).Uint64()
}

// first is m if m is first by that order, and x otherwise.
func first(m, x uint64, size uint, is bool) uint64 {
	if is {
		return cut(low(m, size), size)
	}
	return cut(low(x, size), size)
}

// slow is the chapter's table of new numbers, by the name of an op without its size.
func slow(name string, size uint, m, x uint64) uint64 {
	n, o := low(m, size), low(x, size)
	s := signed(m, size).Cmp(signed(x, size))
	switch name {
	case "amoswap":
		return cut(o, size)
	case "amoadd":
		return cut(new(big.Int).Add(n, o), size)
	case "amoxor":
		return cut(new(big.Int).Xor(n, o), size)
	case "amoand":
		return cut(new(big.Int).And(n, o), size)
	case "amoor":
		return cut(new(big.Int).Or(n, o), size)
	case "amomin":
		return first(m, x, size, s < 0)
	case "amomax":
		return first(m, x, size, s > 0)
	case "amominu":
		return first(m, x, size, n.Cmp(o) < 0)
	case "amomaxu":
		return first(m, x, size, n.Cmp(o) > 0)
	}
	panic("no AMO: " + name)
}

// row is an AMO with its name and the bits of its number.
type row struct {
	op   api.Op
	name string
	size uint
}

// rows are all AMOs.
func rows() []row {
	return []row{
		{api.AmoswapW, "amoswap", 32}, {api.AmoaddW, "amoadd", 32}, {api.AmoxorW, "amoxor", 32}, {api.AmoandW, "amoand", 32}, {api.AmoorW, "amoor", 32},
		{api.AmominW, "amomin", 32}, {api.AmomaxW, "amomax", 32}, {api.AmominuW, "amominu", 32}, {api.AmomaxuW, "amomaxu", 32},
		{api.AmoswapD, "amoswap", 64}, {api.AmoaddD, "amoadd", 64}, {api.AmoxorD, "amoxor", 64}, {api.AmoandD, "amoand", 64}, {api.AmoorD, "amoor", 64},
		{api.AmominD, "amomin", 64}, {api.AmomaxD, "amomax", 64}, {api.AmominuD, "amominu", 64}, {api.AmomaxuD, "amomaxu", 64},
	}
}

func do(t *testing.T, op api.Op, m, x uint64) uint64 {
	t.Helper()
	w, ok := Do(op, m, x)
	if !ok {
		t.Fatalf("Do(%s, %d, %d): false", kind.Name(op), m, x)
	}
	return w
}

// P8.1: an op is an AMO, a link, a conditional, or none of them, by its name.
func TestKinds(t *testing.T) {
	amos := 0
	for op, name := range kind.All() {
		is, link, cond := strings.HasPrefix(name, "amo"), name == "lr.w" || name == "lr.d", name == "sc.w" || name == "sc.d"
		if Is(op) != is || Link(op) != link || Conditional(op) != cond {
			t.Errorf("%s: %v %v %v", name, Is(op), Link(op), Conditional(op))
		}
		if is {
			amos++
		}
	}
	if amos != len(rows()) {
		t.Error(amos)
	}
	if !Link(api.LrD) || !Conditional(api.ScW) {
		t.Error("the chapter's examples")
	}
	for _, op := range noOps() {
		if Is(op) || Link(op) || Conditional(op) {
			t.Errorf("number %d: %v %v %v", op, Is(op), Link(op), Conditional(op))
		}
	}
}

// P8.1: the chapter's examples, and new numbers written out by hand, at the least and greatest numbers.
func TestDoExamples(t *testing.T) {
	for _, x := range []struct {
		op         api.Op
		m, x, want uint64
	}{
		{api.AmoaddW, 1<<32 - 1, 2, 1},
		{api.AmomaxW, 1 << 31, 1, 1},
		{api.AmomaxuW, 1 << 31, 1, 1 << 31},
		{api.AmoaddW, 1<<31 - 1, 1, 1 << 31},
		{api.AmoaddD, 1<<32 - 1, 2, 1<<32 + 1},
		{api.AmoaddD, ones, 2, 1},
		{api.AmoswapW, 7, ones, 1<<32 - 1},
		{api.AmoswapD, 7, ones, ones},
		{api.AmoxorW, ones, 0, 1<<32 - 1},
		{api.AmoxorD, ones, 1, ones - 1},
		{api.AmoandW, ones, ones, 1<<32 - 1},
		{api.AmoandD, 6, 3, 2},
		{api.AmoorW, 1 << 31, 1 << 40, 1 << 31},
		{api.AmoorD, 1 << 31, 1 << 40, 1<<40 | 1<<31},
		{api.AmominW, 1 << 31, 1<<31 - 1, 1 << 31},
		{api.AmominW, 1<<31 - 1, 1 << 31, 1 << 31},
		{api.AmominW, 1<<40 | 5, 3, 3},
		{api.AmominW, 5, 1<<63 | 7, 5},
		{api.AmominW, 0, 1<<32 - 1, 1<<32 - 1},
		{api.AmomaxW, 1<<40 | 5, 1<<50 | 3, 5},
		{api.AmomaxW, 1<<31 - 1, 1 << 31, 1<<31 - 1},
		{api.AmominuW, 1 << 31, 1<<31 - 1, 1<<31 - 1},
		{api.AmominuW, 1 << 32, 1, 0},
		{api.AmomaxuW, 1<<32 - 1, 1 << 32, 1<<32 - 1},
		{api.AmomaxuW, 1 << 32, 1, 1},
		{api.AmominD, top, top - 1, top},
		{api.AmominD, 1 << 31, 1, 1},
		{api.AmomaxD, top, top - 1, top - 1},
		{api.AmomaxD, ones, 0, 0},
		{api.AmominuD, top, top - 1, top - 1},
		{api.AmominuD, ones, 0, 0},
		{api.AmomaxuD, top - 1, top, top},
		{api.AmomaxuD, 1 << 32, 1, 1 << 32},
	} {
		if got := do(t, x.op, x.m, x.x); got != x.want {
			t.Errorf("Do(%s, %d, %d): got %d, want %d", kind.Name(x.op), x.m, x.x, got, x.want)
		}
	}
}

// P8.1: every AMO against whole numbers of any size; the bits above the number are 0, and those of the operands do not count.
func TestDoChapter(t *testing.T) {
	for _, r := range rows() {
		if name := kind.Name(r.op); name != r.name+map[uint]string{32: ".w", 64: ".d"}[r.size] {
			t.Fatalf("row %s has the op %s", r.name, name)
		}
		for _, m := range words() {
			for _, x := range words() {
				want := slow(r.name, r.size, m, x)
				if got := do(t, r.op, m, x); got != want {
					t.Fatalf("Do(%s, %d, %d): got %d, want %d", kind.Name(r.op), m, x, got, want)
				}
				if r.size == 32 && (do(t, r.op, m^ones<<32, x) != want || do(t, r.op, m, x^1<<63) != want || want>>32 != 0) {
					t.Fatalf("Do(%s, %d, %d): bits above the lowest 32", kind.Name(r.op), m, x)
				}
			}
		}
	}
}

// P8.1: links, conditionals, ops of other classes, and what is no op change nothing in memory.
func TestDoOthers(t *testing.T) {
	others := noOps()
	for op, name := range kind.All() {
		if !strings.HasPrefix(name, "amo") {
			others = append(others, op)
		}
	}
	for _, op := range others {
		for _, m := range []uint64{0, 1, top, ones} {
			if w, ok := Do(op, m, 2); w != 0 || ok {
				t.Errorf("Do of op %d: %d %v", op, w, ok)
			}
		}
	}
}

// P8.1: each op of the class Atomic loads the number with its sign, and no other op loads anything.
func TestLoaded(t *testing.T) {
	if got := Loaded(api.AmoorW, 1<<31); got != ones<<31 {
		t.Errorf("the chapter's example: %d", got)
	}
	for op, name := range kind.All() {
		for _, m := range words() {
			want := uint64(0)
			switch {
			case kind.Class(op) != kind.Atomic:
			case strings.HasSuffix(name, ".w"):
				want = m & (1<<32 - 1)
				if want >= 1<<31 {
					want += ones << 32
				}
			default:
				want = m
			}
			if got := Loaded(op, m); got != want {
				t.Fatalf("Loaded(%s, %d): got %d, want %d", name, m, got, want)
			}
		}
	}
	for _, op := range noOps() {
		if got := Loaded(op, 5); got != 0 {
			t.Errorf("Loaded of number %d: %d", op, got)
		}
	}
}

// P8.2: two of one op give the same number in either order; amoswap leaves the last operand.
func TestEitherOrder(t *testing.T) {
	for _, r := range rows() {
		for _, m := range words() {
			for _, x := range words() {
				y := x<<7 ^ m>>3 ^ 0x80000001
				xy, yx := do(t, r.op, do(t, r.op, m, x), y), do(t, r.op, do(t, r.op, m, y), x)
				if r.name == "amoswap" {
					if xy != cut(low(y, r.size), r.size) || yx != cut(low(x, r.size), r.size) {
						t.Fatalf("%s of %d: %d %d", kind.Name(r.op), m, xy, yx)
					}
				} else if xy != yx {
					t.Fatalf("%s of %d with %d and %d: %d and %d", kind.Name(r.op), m, x, y, xy, yx)
				}
			}
		}
	}
}

// P8.2: a minimum or maximum op twice is the same as once.
func TestTwiceIsOnce(t *testing.T) {
	for _, r := range rows() {
		if !strings.HasPrefix(r.name, "amomin") && !strings.HasPrefix(r.name, "amomax") {
			continue
		}
		for _, m := range words() {
			for _, x := range words() {
				once := do(t, r.op, m, x)
				if twice := do(t, r.op, once, x); twice != once {
					t.Fatalf("%s of %d with %d: %d, then %d", kind.Name(r.op), m, x, once, twice)
				}
			}
		}
	}
}

// P8.2: after amoswap, memory contains the operand, and loading it gives the operand's bits with their sign.
func TestSwap(t *testing.T) {
	for _, m := range words() {
		for _, x := range words() {
			w, d := do(t, api.AmoswapW, m, x), do(t, api.AmoswapD, m, x)
			if w != x&(1<<32-1) || d != x {
				t.Fatalf("amoswap of %d with %d: %d %d", m, x, w, d)
			}
			if got := Loaded(api.AmoswapW, w); got != uint64(int64(int32(x))) {
				t.Fatalf("amoswap.w of %d with %d loads %d", m, x, got)
			}
		}
	}
}
