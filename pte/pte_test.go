package pte

import (
	"math"
	"math/rand/v2"
	"testing"

	"roebuck/api"
	"roebuck/cause"
)

const ones = ^uint64(0)

// levels are the levels, and numbers that are none; 9 times some of these, or 12 more, is a small number again when it wraps around.
var levels = []int{
	0, 1, 2, -1, 3, 4, 5, 6, 7, -2, -3, -9, 63, 64, 256, 257, 258, 1 << 32, 1<<32 + 1, 1<<32 + 2, 1 << 61, 1 << 62, 1<<62 + 1,
	math.MinInt, math.MinInt + 1, math.MinInt + 2, math.MaxInt, math.MaxInt - 1, 6148914691236517204, 6148914691236517205, -6148914691236517204, -8198552921648689607, 2049638230412172402,
}

// accesses are the kinds of accesses, and numbers that are none.
var accesses = []int{cause.Insn, cause.Load, cause.Store, 3, 4, 5, 6, 7, -1, -2, -3, 64, 256, 257, 258, 1 << 32, 1<<32 + 1, 1<<32 + 2, math.MinInt, math.MinInt + 1, math.MinInt + 2, math.MaxInt}

// privs are the privileges, and numbers that are none.
var privs = []api.Priv{api.User, api.Super, api.Machine, 2, 4, 5, -1, -2, -3, 256, 1 << 32, 1<<32 + 1, math.MinInt, math.MaxInt}

// both are the values of a flag.
var both = []bool{false, true}

// words are words with no bit, one bit, all but one, the lowest so many, and all but these.
func words() []uint64 {
	out := []uint64{0, ones}
	for i := range 64 {
		out = append(out, 1<<i, ones^1<<i, 1<<i-1, ones<<i)
	}
	return out
}

// entries calls a function with all flags, each with many frames and bits above them.
func entries(use func(p uint64)) {
	for flags := range uint64(1024) {
		for _, w := range words() {
			use(w<<10 | flags)
		}
	}
}

// P25.1: Kind: all flags, many frames and bits above them, levels and numbers that are none, against the book.
func TestKind(t *testing.T) {
	seen := [3]int{}
	entries(func(p uint64) {
		b := spell(p)
		for _, level := range levels {
			got := Kind(p, level)
			if want := b.kind(level); got != want {
				t.Fatalf("%x %d: %d, want %d", p, level, got, want)
			}
			seen[got]++
		}
	})
	if seen[Invalid] == 0 || seen[Leads] == 0 || seen[Leaf] == 0 {
		t.Fatal(seen)
	}
}

// P25.1: Kind: the examples of the chapter, and each clause of its terms by an entry that only it decides.
func TestKindRows(t *testing.T) {
	for _, x := range []struct {
		p     uint64
		level int
		want  int
	}{
		{1, 1, Leads}, {1, 0, Invalid}, {7, 2, Leaf},
		{1, 2, Leads}, {0, 1, Invalid}, {0, 2, Invalid}, {1, 3, Invalid}, {1, -1, Invalid}, {7, 3, Invalid}, {7, -1, Invalid}, {6, 0, Invalid}, {ones - 1, 1, Invalid},
		{3, 0, Leaf}, {9, 0, Leaf}, {11, 0, Leaf}, {15, 0, Leaf}, {5, 0, Invalid}, {13, 0, Invalid}, {5, 1, Invalid}, {13, 2, Invalid},
		{17, 1, Invalid}, {65, 1, Invalid}, {129, 1, Invalid}, {33, 1, Leads}, {257, 1, Leads}, {513, 2, Leads}, {801, 2, Leads}, {33, 0, Invalid}, {211, 2, Leaf}, {1023, 1, Leaf},
		{3 | 1<<9, 2, Leaf}, {3 | 1<<10, 0, Leaf}, {3 | 1<<10, 1, Invalid}, {3 | 1<<18, 1, Invalid}, {3 | 1<<19, 1, Leaf}, {3 | 1<<19, 2, Invalid}, {3 | 1<<27, 2, Invalid}, {3 | 1<<28, 2, Leaf},
		{1 | 1<<10, 1, Leads}, {1 | 1<<18, 2, Leads}, {1 | 1<<53, 2, Leads}, {3 | 1<<53, 2, Leaf},
		{1 | 1<<54, 1, Invalid}, {1 | 1<<63, 2, Invalid}, {3 | 1<<54, 0, Invalid}, {3 | 1<<58, 1, Invalid}, {3 | 1<<63, 2, Invalid},
	} {
		if got := Kind(x.p, x.level); got != x.want {
			t.Fatalf("%x %d: %d, want %d", x.p, x.level, got, x.want)
		}
	}
	if Invalid != 0 || Leads != 1 || Leaf != 2 {
		t.Fatal("numbers")
	}
}

// P25.1: Ppn and Global: each bit alone, and all but each.
func TestParts(t *testing.T) {
	entries(func(p uint64) {
		b := spell(p)
		if got := Ppn(p); got != b.ppn() {
			t.Fatalf("%x: ppn %x", p, got)
		}
		if Global(p) != b.has("G") {
			t.Fatalf("%x: global", p)
		}
	})
	for i := range 64 {
		want := uint64(0)
		if i >= 10 && i < 54 {
			want = 1 << (i - 10)
		}
		if Ppn(1<<i) != want || Global(1<<i) != (i == 5) || Global(ones^1<<i) != (i != 5) {
			t.Fatal(i)
		}
	}
}

// P25.1: Make: it has the lowest 44 bits of the frame's number and the lowest 10 of the flags, and nothing else.
func TestMake(t *testing.T) {
	for _, ppn := range words() {
		for _, flags := range words() {
			n, f := spell(ppn), spell(flags)
			want := book("0000000000" + n.part(43, 0) + f.part(9, 0)).word()
			if got := Make(ppn, flags); got != want {
				t.Fatalf("%x %x: %x", ppn, flags, got)
			}
		}
	}
	if Make(0, 0) != 0 || Make(512, 7) != 512<<10|7 || Make(1<<44|1, 1<<10|1) != 1<<10|1 || Make(ones, 0) != (1<<44-1)<<10 || Make(0, ones) != 1023 {
		t.Fatal("rows")
	}
}

// P25.1: Make and Ppn: the number comes back, and a word without bits above the number is made of its parts.
func TestMakePpn(t *testing.T) {
	entries(func(p uint64) {
		made := Make(Ppn(p), p)
		if made != p&(1<<54-1) || Ppn(made) != Ppn(p) {
			t.Fatalf("%x: %x", p, made)
		}
	})
}

// P25.2: Lets: all flags, kinds of accesses and privileges, with numbers that are none, against the book.
func TestLets(t *testing.T) {
	for p := range uint64(1024) {
		b := spell(p)
		for _, access := range accesses {
			for _, priv := range privs {
				for _, sum := range both {
					for _, mxr := range both {
						want := b.lets(access, priv, sum, mxr)
						if got := Lets(p, access, priv, sum, mxr); got != want {
							t.Fatalf("%x %d %d %v %v: %v", p, access, priv, sum, mxr, got)
						}
					}
				}
			}
		}
	}
}

// P25.2: Lets: the example of the chapter, and each clause of its terms.
func TestLetsRows(t *testing.T) {
	const r, w, x, u = 2, 4, 8, 16
	for _, y := range []struct {
		p        uint64
		access   int
		priv     api.Priv
		sum, mxr bool
		want     bool
	}{
		{x, cause.Load, api.Super, false, true, true}, {x, cause.Load, api.Super, false, false, false},
		{x, cause.Insn, api.Super, false, false, true}, {r | w, cause.Insn, api.Super, true, true, false}, {r, cause.Load, api.Super, false, false, true}, {r, cause.Load, api.Super, false, true, true},
		{w, cause.Store, api.Super, false, false, true}, {r | x, cause.Store, api.Super, true, true, false}, {w, cause.Load, api.Super, true, true, false},
		{r, cause.Load, api.User, true, true, false}, {r | u, cause.Load, api.User, false, false, true}, {x | u, cause.Insn, api.User, false, false, true}, {x | u, cause.Load, api.User, false, true, true},
		{r | u, cause.Load, api.Super, false, false, false}, {r | u, cause.Load, api.Super, true, false, true}, {w | u, cause.Store, api.Super, true, false, true}, {w | u, cause.Store, api.Super, false, true, false},
		{x | u, cause.Insn, api.Super, true, true, false}, {x | u, cause.Load, api.Super, true, true, true}, {x | u, cause.Load, api.Super, false, true, false},
		{r | u, cause.Load, api.Machine, false, false, false}, {r | u, cause.Load, api.Machine, true, false, true}, {r, cause.Load, api.Machine, false, false, true}, {x | u, cause.Insn, api.Machine, true, false, false},
		{r | w | x, 3, api.Super, true, true, false}, {r | w | x | u, -1, api.User, true, true, false},
	} {
		if got := Lets(y.p, y.access, y.priv, y.sum, y.mxr); got != y.want {
			t.Fatalf("%+v: %v", y, got)
		}
	}
}

// P25.2: Lets: V, the marks, G, the frame and what is above it are not examined.
func TestLetsUnexamined(t *testing.T) {
	const examined = 2 | 4 | 8 | 16
	entries(func(p uint64) {
		for _, access := range []int{cause.Insn, cause.Load, cause.Store, 3} {
			for i, priv := range []api.Priv{api.User, api.Super, api.Machine} {
				sum, mxr := i == 1, access == cause.Load
				if Lets(p, access, priv, sum, mxr) != Lets(p&examined, access, priv, sum, mxr) {
					t.Fatalf("%x %d %d", p, access, priv)
				}
			}
		}
	})
}

// P25.2: Marked: all flags and kinds of accesses, with numbers that are none, against the book.
func TestMarked(t *testing.T) {
	entries(func(p uint64) {
		b := spell(p)
		for _, access := range accesses {
			want := b.marked(access).word()
			if got, other := Marked(p, access); got != want || other != (want != p) {
				t.Fatalf("%x %d: %x %v", p, access, got, other)
			}
		}
	})
}

// P25.2: Marked: the example of the chapter, and entries that have some of the marks.
func TestMarkedRows(t *testing.T) {
	for _, x := range []struct {
		p      uint64
		access int
		want   uint64
		other  bool
	}{
		{1, cause.Store, 193, true}, {1, cause.Load, 65, true}, {1, cause.Insn, 65, true}, {65, cause.Load, 65, false}, {65, cause.Insn, 65, false}, {65, cause.Store, 193, true},
		{129, cause.Load, 193, true}, {129, cause.Store, 193, true}, {193, cause.Store, 193, false}, {193, cause.Insn, 193, false}, {0, cause.Store, 192, true},
		{ones, cause.Store, ones, false}, {1, 3, 65, true}, {1, -1, 65, true}, {65, 3, 65, false},
	} {
		if got, other := Marked(x.p, x.access); got != x.want || other != x.other {
			t.Fatalf("%+v: %d %v", x, got, other)
		}
	}
}

// P25.2: Frame: all levels and numbers that are none, many frames and addresses, against the book; flags and bits above the frame do not count.
func TestFrame(t *testing.T) {
	for _, w := range words() {
		for _, flags := range []uint64{0, 1, 7, 1023} {
			p := w<<10 | flags
			b := spell(p)
			for _, va := range words() {
				address := spell(va)
				for _, level := range []int{0, 1, 2} {
					if got, want := Frame(p, level, va), b.frame(level, address); got != want {
						t.Fatalf("%x %d %x: %x, want %x", p, level, va, got, want)
					}
				}
			}
		}
	}
	for _, level := range levels {
		if level >= 0 && level <= 2 {
			continue
		}
		for _, w := range words() {
			if Frame(w, level, ones) != 0 || Frame(ones, level, w) != 0 || Frame(7, level, w) != 0 {
				t.Fatal(level, w)
			}
		}
	}
}

// P25.2: Frame: the example of the chapter, and the edges of each level.
func TestFrameRows(t *testing.T) {
	for _, x := range []struct {
		p     uint64
		level int
		va    uint64
		want  uint64
	}{
		{7, 3, 1, 0}, {Make(512, 7), 1, 4660, 2101812},
		{7, 0, 1, 1}, {7, 0, 4095, 4095}, {7, 0, 4096, 0}, {7, 1, 1<<21 - 1, 1<<21 - 1}, {7, 1, 1 << 21, 0}, {7, 2, 1<<30 - 1, 1<<30 - 1}, {7, 2, 1 << 30, 0}, {7, 2, ones, 1<<30 - 1},
		{1 << 10, 0, 0, 4096}, {1 << 10, 0, ones, 8191}, {1<<10 | 1<<19, 1, 0, 1 << 21}, {1<<18 | 1<<19, 1, 5, 1<<21 + 5}, {1<<27 | 1<<28, 2, 5, 1<<30 + 5},
		{1 << 53, 0, 0, 1 << 55}, {1 << 54, 0, 0, 0}, {ones, 0, 0, 1<<56 - 4096}, {ones, 2, ones, 1<<56 - 1},
		{Make(api.RamBase/4096, 15), 0, 100, api.RamBase + 100},
	} {
		if got := Frame(x.p, x.level, x.va); got != x.want {
			t.Fatalf("%+v: %d", x, got)
		}
	}
}

// P25.3: a marked leaf is a leaf, permits the same, and stays marked; what is invalid stays so, and the frame does not change.
func TestMarkedAgain(t *testing.T) {
	entries(func(p uint64) {
		for _, access := range []int{cause.Insn, cause.Load, cause.Store} {
			marked, _ := Marked(p, access)
			if again, other := Marked(marked, access); again != marked || other {
				t.Fatalf("%x %d: marked %x", p, access, again)
			}
			if _, other := Marked(marked, cause.Load); other {
				t.Fatalf("%x %d: not marked for a load", p, access)
			}
			for _, level := range []int{0, 1, 2, 3} {
				if kind := Kind(p, level); kind != Leads && Kind(marked, level) != kind {
					t.Fatalf("%x %d %d: kind", p, access, level)
				}
			}
			if Ppn(marked) != Ppn(p) || Global(marked) != Global(p) || permits(marked) != permits(p) {
				t.Fatalf("%x %d", p, access)
			}
		}
	})
}

// permits is all that an entry permits.
func permits(p uint64) [36]bool {
	var out [36]bool
	for i := range out {
		out[i] = Lets(p, i%3, []api.Priv{api.User, api.Super, api.Machine}[i/3%3], i/9%2 == 1, i/18 == 1)
	}
	return out
}

// P25.3: all addresses of the page of a leaf lead into its frame, each at its offset.
func TestFrameOffsets(t *testing.T) {
	r := rand.New(rand.NewPCG(25, 1))
	for _, level := range []int{0, 1, 2} {
		size := uint64(4096)
		for range level {
			size *= 512
		}
		for range 5000 {
			// Divided and multiplied, the number of the frame is that of a leaf of the level.
			ppn := r.Uint64N(1<<44) / (size / 4096) * (size / 4096)
			p := Make(ppn, 15)
			page := r.Uint64() / size * size
			if Kind(p, level) != Leaf || Frame(p, level, page) != ppn*4096 || Frame(p, level, page+size-1) != ppn*4096+size-1 {
				t.Fatal(p, level, page)
			}
			if off := r.Uint64N(size); Frame(p, level, page+off) != ppn*4096+off {
				t.Fatal(p, level, page, off)
			}
		}
	}
}

// Fixed rows of words of any bits, against the book.
func TestRows(t *testing.T) {
	r := rand.New(rand.NewPCG(25, 2))
	for range 50000 {
		p, va := r.Uint64(), r.Uint64()
		// Half of the entries have no bits above the frame's number, and some frames begin where great pages do.
		if r.IntN(2) == 0 {
			p &= 1<<54 - 1
		}
		if r.IntN(2) == 0 {
			p &^= 1<<28 - 1<<10
		}
		b, level, access := spell(p), r.IntN(5)-1, r.IntN(5)-1
		priv, sum, mxr := api.Priv(r.IntN(4)), r.IntN(2) == 0, r.IntN(2) == 0
		marked, other := Marked(p, access)
		switch {
		case Kind(p, level) != b.kind(level):
			t.Fatalf("kind %x %d", p, level)
		case Lets(p, access, priv, sum, mxr) != b.lets(access, priv, sum, mxr):
			t.Fatalf("lets %x %d %d %v %v", p, access, priv, sum, mxr)
		case marked != b.marked(access).word() || other != (marked != p):
			t.Fatalf("marked %x %d", p, access)
		case Frame(p, level, va) != b.frame(level, spell(va)):
			t.Fatalf("frame %x %d %x", p, level, va)
		case Ppn(p) != b.ppn():
			t.Fatalf("ppn %x", p)
		}
	}
}
