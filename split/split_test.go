package split

import (
	"math"
	"math/big"
	"math/rand/v2"
	"slices"
	"testing"
)

// numbers are numbers of all sizes for sizes, cuts, shifts and stripes.
func numbers() []int {
	out := []int{math.MinInt, math.MinInt + 1, math.MinInt + 8, -1 << 32, -1<<32 + 1, -64, 100, 128, 255, 256, 257, 1<<31 + 4, 1 << 32, 1<<32 + 1, 1<<32 + 8, 1 << 61, 1 << 62, math.MaxInt - 8, math.MaxInt - 1, math.MaxInt}
	for n := -10; n <= 72; n++ {
		out = append(out, n)
	}
	return out
}

// addresses are those around the edges of lines and pages, and at the end of all addresses.
func addresses() []uint64 {
	var out []uint64
	for _, edge := range []uint64{0, 64, 128, 4096, 8192, 1 << 31, 1<<32 + 4096, 1 << 63} {
		for i := range uint64(19) {
			out = append(out, edge+i-9)
		}
	}
	return append(out, 32, 1000, 4000, 1<<31+777)
}

// words are edges of words and some words between them, the same ones every time.
func words() []uint64 {
	out := []uint64{0, 1, 255, 256, 0x1122334455667788, 1<<32 - 1, 1 << 32, 1<<56 - 1, 1 << 63, ones}
	r := rand.New(rand.NewPCG(11, 1))
	for range 6 {
		out = append(out, r.Uint64(), r.Uint64()>>r.IntN(64))
	}
	return out
}

// accesses are all valid ones from addr on, with a second place or without, and next as that one.
func accesses(addr, next uint64) []Access {
	var out []Access
	for size := 1; size <= 8; size++ {
		for cut := range size {
			out = append(out, Access{Addr: addr, Next: next, Cut: cut, Size: size})
		}
	}
	return out
}

// wrong are accesses that are not valid.
func wrong() []Access {
	var out []Access
	for _, size := range numbers() {
		for _, cut := range numbers() {
			if size < 1 || size > 8 || cut < 0 || cut > size-1 {
				out = append(out, Access{Addr: 62, Next: 126, Cut: cut, Size: size})
			}
		}
	}
	return out
}

// byteAt is the address of byte i of an access, by the chapter's words.
func byteAt(x Access, i int) uint64 {
	if x.Cut == 0 || i < x.Cut {
		return x.Addr + uint64(i)
	}
	return x.Next + uint64(i-x.Cut)
}

// slowPieces goes from byte to byte: a new piece begins behind the cut, and where the line is another one.
func slowPieces(x Access) []Piece {
	var out []Piece
	for i := range x.Size {
		at := byteAt(x, i)
		if i == 0 || i == x.Cut || at/64 != byteAt(x, i-1)/64 {
			out = append(out, Piece{Addr: at, Shift: 8 * i})
		}
		out[len(out)-1].N++
	}
	return out
}

// slowPart is one bit after the other.
func slowPart(v uint64, p Piece) uint64 {
	if p.N < 1 || p.N > 8 || p.Shift < 0 || p.Shift > 63 {
		return 0
	}
	n := new(big.Int).Rsh(new(big.Int).SetUint64(v), uint(p.Shift))
	return n.Mod(n, new(big.Int).Lsh(big.NewInt(1), uint(8*p.N))).Uint64()
}

// slowJoin sets one bit after the other, piece by piece; bits beyond 64 are nowhere.
func slowJoin(l []Piece, parts []uint64) uint64 {
	var v uint64
	for i, p := range l {
		if i >= len(parts) || p.N < 1 || p.N > 8 || p.Shift < 0 || p.Shift > 63 {
			continue
		}
		for bit := 0; bit < 8*p.N && p.Shift+bit < 64; bit++ {
			one := uint64(1) << (p.Shift + bit)
			v &^= one
			if parts[i]>>bit&1 == 1 {
				v |= one
			}
		}
	}
	return v
}

// P11.1, P11.4: the chapter's examples, and the edges of pages and sizes.
func TestCutExamples(t *testing.T) {
	for _, x := range []struct {
		va         uint64
		size, want int
	}{
		{4095, 8, 1}, {4094, 4, 2}, {4092, 4, 0}, {4093, 4, 3}, {4089, 8, 7}, {4088, 8, 0}, {4095, 1, 0}, {4096, 8, 0}, {0, 8, 0},
		{8191, 2, 1}, {62, 4, 0}, {ones, 2, 1}, {ones, 1, 0}, {ones - 6, 8, 7}, {ones - 7, 8, 0},
		{4095, 0, 0}, {4095, 9, 0}, {4095, -1, 0}, {4095, 4096, 0}, {4095, math.MaxInt, 0}, {4095, math.MinInt, 0},
	} {
		if got := Cut(x.va, x.size); got != x.want {
			t.Errorf("Cut(%d, %d): got %d, want %d", x.va, x.size, got, x.want)
		}
	}
}

// P11.1: how many bytes are in the page of the first one, if not all are.
func TestCut(t *testing.T) {
	for _, va := range addresses() {
		for _, size := range numbers() {
			want := 0
			for i := 0; size <= 8 && i < size; i++ {
				if (va+uint64(i))/4096 == va/4096 {
					want++
				}
			}
			if want == size {
				want = 0
			}
			if got := Cut(va, size); got != want {
				t.Fatalf("Cut(%d, %d): got %d, want %d", va, size, got, want)
			}
		}
	}
}

// P11.1: sizes from 1 to 8, and cuts from 0 to the size less 1; the addresses do not count.
func TestMay(t *testing.T) {
	for size := 1; size <= 8; size++ {
		for cut := range size {
			for _, addr := range []uint64{0, 63, 1 << 31, ones} {
				if x := (Access{Addr: addr, Next: ones - addr, Cut: cut, Size: size}); !May(x) {
					t.Fatal(x)
				}
			}
		}
	}
	for _, x := range append(wrong(), Access{}, Access{Addr: 1, Size: 9}, Access{Addr: 1, Size: 4, Cut: 4}, Access{Size: 1, Cut: -1}) {
		if May(x) {
			t.Fatal(x)
		}
	}
}

// P11.1: the address divided by 64, rounded down.
func TestLine(t *testing.T) {
	for _, x := range [][2]uint64{{0, 0}, {63, 0}, {64, 1}, {127, 1}, {128, 2}, {1 << 31, 1 << 25}, {ones, 1<<58 - 1}, {ones - 63, 1<<58 - 1}, {ones - 64, 1<<58 - 2}} {
		if got := Line(x[0]); got != x[1] {
			t.Errorf("Line(%d): got %d, want %d", x[0], got, x[1])
		}
	}
	for _, addr := range addresses() {
		if l := Line(addr); l*64 > addr || addr-l*64 > 63 {
			t.Fatal(addr, l)
		}
	}
}

// P11.1: the line modulo the number of stripes; 0 for fewer than 1.
func TestStripe(t *testing.T) {
	for _, x := range []struct {
		addr          uint64
		stripes, want int
	}{
		{65 * 64, 64, 1}, {64 * 64, 64, 0}, {63*64 + 63, 64, 63}, {64, 1, 0}, {64, 0, 0}, {64, -1, 0}, {64, -64, 0}, {64, math.MinInt, 0}, {64, math.MaxInt, 1},
		{ones, 4, 3}, {ones, 7, int((uint64(1)<<58 - 1) % 7)}, {ones, math.MaxInt, 1<<58 - 1}, {64 * 300, 256, 44},
	} {
		if got := Stripe(x.addr, x.stripes); got != x.want {
			t.Errorf("Stripe(%d, %d): got %d, want %d", x.addr, x.stripes, got, x.want)
		}
	}
	for _, addr := range addresses() {
		for _, n := range numbers() {
			want := new(big.Int)
			if n >= 1 {
				want.Rsh(new(big.Int).SetUint64(addr), 6).Mod(want, big.NewInt(int64(n)))
			}
			if got := Stripe(addr, n); int64(got) != want.Int64() {
				t.Fatalf("Stripe(%d, %d): got %d, want %d", addr, n, got, want)
			}
		}
	}
}

// P11.2: the chapter's example, one piece to four, and the end of all addresses.
func TestPiecesExamples(t *testing.T) {
	for _, x := range []struct {
		a    Access
		want []Piece
	}{
		{Access{Addr: 62, Size: 4}, []Piece{{62, 2, 0}, {64, 2, 16}}},
		{Access{Addr: 8, Size: 8}, []Piece{{8, 8, 0}}},
		{Access{Addr: 56, Size: 8}, []Piece{{56, 8, 0}}},
		{Access{Addr: 57, Size: 8}, []Piece{{57, 7, 0}, {64, 1, 56}}},
		{Access{Addr: 63, Size: 1}, []Piece{{63, 1, 0}}},
		{Access{Addr: 0, Next: 2, Cut: 2, Size: 4}, []Piece{{0, 2, 0}, {2, 2, 16}}},
		{Access{Addr: 5, Next: 5, Cut: 1, Size: 2}, []Piece{{5, 1, 0}, {5, 1, 8}}},
		{Access{Addr: 4095, Next: 0, Cut: 1, Size: 8}, []Piece{{4095, 1, 0}, {0, 7, 8}}},
		{Access{Addr: 61, Next: 126, Cut: 4, Size: 8}, []Piece{{61, 3, 0}, {64, 1, 24}, {126, 2, 32}, {128, 2, 48}}},
		{Access{Addr: ones, Size: 2}, []Piece{{ones, 1, 0}, {0, 1, 8}}},
		{Access{Addr: 7, Next: ones - 1, Cut: 1, Size: 4}, []Piece{{7, 1, 0}, {ones - 1, 2, 8}, {0, 1, 24}}},
	} {
		if got := Pieces(x.a); !slices.Equal(got, x.want) {
			t.Errorf("%v: got %v, want %v", x.a, got, x.want)
		}
	}
}

// P11.2, P11.4: as few pieces as may be, each in one line and on one side of the cut, each byte once, and never more than four.
func TestPieces(t *testing.T) {
	most := 0
	for _, addr := range addresses() {
		for _, next := range []uint64{0, 1, 60, 62, 63, 64, 120, 4090, addr, addr + 1, addr + 4, addr - 4, ones, ones - 3} {
			for _, x := range accesses(addr, next) {
				got := Pieces(x)
				if !slices.Equal(got, slowPieces(x)) {
					t.Fatalf("%v: got %v, want %v", x, got, slowPieces(x))
				}
				i := 0
				for _, p := range got {
					if p.N < 1 || p.Shift != 8*i || Line(p.Addr) != Line(p.Addr+uint64(p.N)-1) || i < x.Cut && i+p.N > x.Cut {
						t.Fatal(x, p)
					}
					for k := range p.N {
						if p.Addr+uint64(k) != byteAt(x, i+k) {
							t.Fatal(x, p)
						}
					}
					i += p.N
				}
				if i != x.Size || len(got) > 4 {
					t.Fatal(x, got)
				}
				most = max(most, len(got))
			}
		}
	}
	if most != 4 {
		t.Fatal("no access has four pieces")
	}
}

// P11.2: with Cut 0 all bytes are from Addr on: Next does not count.
func TestPiecesWithoutCut(t *testing.T) {
	for _, addr := range addresses() {
		for size := 1; size <= 8; size++ {
			a, b := Access{Addr: addr, Size: size}, Access{Addr: addr, Next: 12345, Size: size}
			if !slices.Equal(Pieces(a), Pieces(b)) || !slices.Equal(Stripes(a, 7), Stripes(b, 7)) {
				t.Fatal(a, b)
			}
		}
	}
}

// P11.2: an access that is not valid has no pieces and no stripes.
func TestWrongAccesses(t *testing.T) {
	for _, x := range append(wrong(), Access{}, Access{Addr: 1, Size: 9}, Access{Addr: 1, Size: 4, Cut: 4}) {
		if len(Pieces(x)) != 0 || len(Stripes(x, 4)) != 0 || len(Stripes(x, 0)) != 0 {
			t.Fatal(x, Pieces(x), Stripes(x, 4))
		}
	}
}

// P11.2: the chapter's example, stripes that are met in another order than theirs, and those that are met twice.
func TestStripesExamples(t *testing.T) {
	for _, x := range []struct {
		a       Access
		stripes int
		want    []int
	}{
		{Access{Addr: 62, Size: 4}, 4, []int{0, 1}},
		{Access{Addr: 254, Size: 4}, 4, []int{0, 3}},
		{Access{Addr: 254, Size: 4}, 1, []int{0}},
		{Access{Addr: 254, Size: 4}, 0, []int{0}},
		{Access{Addr: 254, Size: 4}, -5, []int{0}},
		{Access{Addr: 254, Size: 2}, 4, []int{3}},
		{Access{Addr: 4093, Next: 64, Cut: 3, Size: 8}, 4, []int{1, 3}},
		{Access{Addr: 61, Next: 126, Cut: 4, Size: 8}, 4, []int{0, 1, 2}},
		{Access{Addr: 61, Next: 61, Cut: 4, Size: 8}, 64, []int{0, 1}},
		{Access{Addr: 64*9 - 1, Next: 64*5 - 1, Cut: 2, Size: 4}, 64, []int{4, 5, 8, 9}},
		{Access{Addr: ones, Size: 2}, 4, []int{0, 3}},
		{Access{Addr: ones, Size: 2}, math.MaxInt, []int{0, 1<<58 - 1}},
	} {
		if got := Stripes(x.a, x.stripes); !slices.Equal(got, x.want) {
			t.Errorf("Stripes(%v, %d): got %v, want %v", x.a, x.stripes, got, x.want)
		}
	}
}

// P11.2: the stripes in which an access has a byte, ascending, each once.
func TestStripes(t *testing.T) {
	for _, addr := range addresses() {
		for _, next := range []uint64{0, 63, addr, addr - 64, ones} {
			for _, x := range accesses(addr, next) {
				for _, n := range []int{-1, 0, 1, 2, 3, 4, 64, 1 << 40, math.MaxInt} {
					var want []int
					for i := range x.Size {
						want = append(want, Stripe(byteAt(x, i), n))
					}
					slices.Sort(want)
					if got := Stripes(x, n); !slices.Equal(got, slices.Compact(want)) {
						t.Fatalf("Stripes(%v, %d): got %v", x, n, got)
					}
				}
			}
		}
	}
}

// P11.3: bits of a number; those beyond its end are noughts, and wrong pieces have none.
func TestPartExamples(t *testing.T) {
	const v = 0x1122334455667788
	for _, x := range []struct {
		p    Piece
		want uint64
	}{
		{Piece{N: 2, Shift: 16}, 0x5566}, {Piece{N: 8}, v}, {Piece{N: 1}, 0x88}, {Piece{N: 1, Shift: 56}, 0x11}, {Piece{N: 2, Shift: 56}, 0x11}, {Piece{N: 8, Shift: 63}, 0},
		{Piece{N: 8, Shift: 60}, 1}, {Piece{N: 1, Shift: 4}, 0x78}, {Piece{Addr: ones, N: 2, Shift: 16}, 0x5566},
		{Piece{N: 9}, 0}, {Piece{}, 0}, {Piece{N: -1}, 0}, {Piece{N: 1, Shift: -1}, 0}, {Piece{N: 1, Shift: 64}, 0}, {Piece{N: 8, Shift: math.MinInt}, 0}, {Piece{N: math.MinInt}, 0}, {Piece{N: math.MaxInt}, 0},
	} {
		if got := Part(v, x.p); got != x.want {
			t.Errorf("Part of %v: got %x, want %x", x.p, got, x.want)
		}
	}
	if Part(ones, Piece{N: 8, Shift: 63}) != 1 {
		t.Error("the last bit")
	}
}

// P11.3: parts of any size and shift.
func TestPart(t *testing.T) {
	for _, v := range words() {
		for _, n := range numbers() {
			for _, shift := range numbers() {
				p := Piece{Addr: v, N: n, Shift: shift}
				if got, want := Part(v, p), slowPart(v, p); got != want {
					t.Fatalf("Part(%x, %v): got %x, want %x", v, p, got, want)
				}
			}
		}
	}
}

// P11.3: parts with bits too many, bits beyond the end, what is without a part or a piece, and pieces over others.
func TestJoinExamples(t *testing.T) {
	for _, x := range []struct {
		l     []Piece
		parts []uint64
		want  uint64
	}{
		{nil, nil, 0},
		{nil, []uint64{1, 2}, 0},
		{[]Piece{{N: 8}}, nil, 0},
		{[]Piece{{N: 8}}, []uint64{ones}, ones},
		{[]Piece{{N: 2}, {N: 2, Shift: 16}, {N: 8, Shift: 56}}, []uint64{0x7788, 0xff5566, 0xab}, 0xab00000055667788},
		{[]Piece{{N: 1}, {N: 1, Shift: 8}}, []uint64{0x1234}, 0x34},
		{[]Piece{{N: 1}}, []uint64{0x12, 0x34}, 0x12},
		{[]Piece{{N: 8, Shift: 60}}, []uint64{0x123}, 3 << 60},
		{[]Piece{{N: 2}, {N: 1, Shift: 4}}, []uint64{0xffff, 0}, 0xf00f},
		{[]Piece{{N: 1, Shift: 4}, {N: 2}}, []uint64{0, 0xffff}, 0xffff},
		{[]Piece{{N: 1}, {N: 2}}, []uint64{0xff, 0x100}, 0x100},
		{[]Piece{{N: 2}, {N: 9}, {N: 0}, {N: 1, Shift: -8}, {N: 1, Shift: 64}, {N: 1, Shift: 16}}, []uint64{0x1234, 1, 2, 3, 4, 5}, 0x51234},
		{[]Piece{{N: 2}, {N: 2}}, []uint64{0x1234}, 0x1234},
		{[]Piece{{N: math.MinInt}, {N: math.MaxInt}, {N: 1, Shift: math.MinInt}, {N: 1, Shift: math.MaxInt}}, []uint64{ones, ones, ones, ones}, 0},
		{[]Piece{{Addr: 64, N: 1}, {Addr: 0, N: 1, Shift: 8}}, []uint64{1, 2}, 0x201},
	} {
		if got := Join(x.l, x.parts...); got != x.want {
			t.Errorf("Join(%v, %x): got %x, want %x", x.l, x.parts, got, x.want)
		}
	}
}

// P11.3: pieces of any size and shift, over others or not, as many parts as pieces or not; the same ones every time.
func TestJoin(t *testing.T) {
	r := rand.New(rand.NewPCG(11, 3))
	some := numbers()
	for range 50000 {
		l := make([]Piece, r.IntN(6))
		for i := range l {
			l[i] = Piece{Addr: r.Uint64(), N: r.IntN(10), Shift: r.IntN(70) - 2}
			if r.IntN(8) == 0 {
				l[i].N = some[r.IntN(len(some))]
			}
			if r.IntN(8) == 0 {
				l[i].Shift = some[r.IntN(len(some))]
			}
		}
		parts := make([]uint64, r.IntN(7))
		for i := range parts {
			parts[i] = r.Uint64()
		}
		if got, want := Join(l, parts...), slowJoin(l, parts); got != want {
			t.Fatalf("Join(%v, %x): got %x, want %x", l, parts, got, want)
		}
	}
}

// P11.4: Join inverts Part, and the pieces have each byte of the number once.
func TestJoinInvertsPart(t *testing.T) {
	for _, addr := range addresses() {
		for _, next := range []uint64{0, 62, addr, addr - 2, ones - 1} {
			for _, x := range accesses(addr, next) {
				l := Pieces(x)
				var all uint64
				for _, p := range l {
					bits := Join([]Piece{p}, ones)
					if all&bits != 0 {
						t.Fatal("twice", x, l)
					}
					all |= bits
				}
				if all != ones>>(64-8*x.Size) {
					t.Fatal("not all", x, l)
				}
				for _, v := range words() {
					var parts []uint64
					for _, p := range l {
						parts = append(parts, Part(v, p))
					}
					if got := Join(l, parts...); got != v&all {
						t.Fatalf("%v: got %x, want %x", x, got, v&all)
					}
				}
			}
		}
	}
}

// P11.4: the cut of an access over two pages splits it where the page ends, so that both halves may be anywhere.
func TestCutIsTheCutOfAnAccess(t *testing.T) {
	for _, va := range addresses() {
		for size := 1; size <= 8; size++ {
			cut := Cut(va, size)
			x := Access{Addr: va, Next: va + uint64(cut), Cut: cut, Size: size}
			if !May(x) || !slices.Equal(Pieces(x), Pieces(Access{Addr: va, Size: size})) {
				t.Fatal(x, Pieces(x))
			}
		}
	}
}

// P3: results are new memory, and arguments stay as they are.
func TestNothingIsShared(t *testing.T) {
	x := Access{Addr: 61, Next: 126, Cut: 4, Size: 8}
	l, s := Pieces(x), Stripes(x, 4)
	clear(l)
	clear(s)
	if len(Pieces(x)) != 4 || Pieces(x)[0] != (Piece{61, 3, 0}) || !slices.Equal(Stripes(x, 4), []int{0, 1, 2}) {
		t.Fatal("shared")
	}
	all := append(Pieces(x), Piece{1, 2, 3})
	parts := []uint64{1, 2, 3, 4, 5}
	Join(all[:4], parts[:4]...)
	if !slices.Equal(all, append(Pieces(x), Piece{1, 2, 3})) || !slices.Equal(parts, []uint64{1, 2, 3, 4, 5}) {
		t.Fatal("changed", all, parts)
	}
}
