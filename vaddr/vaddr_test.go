package vaddr

import (
	"math"
	"math/rand/v2"
	"testing"

	"roebuck/api"
)

const ones = ^uint64(0)

// above is the word of which all bits from a number on are 1.
func above(n int) uint64 {
	return ones << n
}

// levels are the levels, and numbers that are none; 9 times some of these, or 12 more, is a small number again when it wraps around.
var levels = []int{
	0, 1, 2, -1, 3, 4, 5, 6, -2, -3, -9, 63, 64, 256, 257, 258, 1 << 32, 1<<32 + 1, 1<<32 + 2, 1 << 61, 1 << 62, 1<<62 + 1,
	math.MinInt, math.MinInt + 1, math.MinInt + 2, math.MaxInt, math.MaxInt - 1, 6148914691236517204, 6148914691236517205, -6148914691236517204, -8198552921648689607, 2049638230412172402,
}

// privs are the privileges, and numbers that are none.
var privs = []api.Priv{api.User, api.Super, api.Machine, 2, 4, 5, -1, -2, -3, 256, 257, 1 << 32, 1<<32 + 1, math.MinInt, math.MinInt + 1, math.MaxInt}

// words are words with no bit, one bit, all but one, the lowest so many, all but these, and two bits beside each other.
func words() []uint64 {
	out := []uint64{0, ones}
	for i := range 64 {
		out = append(out, 1<<i, ones^1<<i, 1<<i-1, ones<<i, 3<<i)
	}
	return out
}

// P26.1: May: the example of the chapter, the edges, and words made of two of many kinds, against the book.
func TestMay(t *testing.T) {
	for va, want := range map[uint64]bool{
		1 << 38: false, above(38): true, 0: true, 1<<38 - 1: true, 1 << 39: false, 1 << 63: false, 1<<63 | 1<<38: false, ones: true,
		above(39): false, above(38) - 1: false, above(38) + 1: true, ones >> 1: false, ones >> 25: false, above(38) >> 1: false, ones ^ 1<<38: false, ones ^ 1<<37: true,
	} {
		if May(va) != want {
			t.Fatalf("%x", va)
		}
	}
	for _, a := range words() {
		for _, b := range words() {
			for _, va := range []uint64{a ^ b, a | b, a + b} {
				if May(va) != spell(va).valid() {
					t.Fatalf("%x", va)
				}
			}
		}
	}
}

// P26.1: Place: all levels and numbers that are none, against the book.
func TestPlace(t *testing.T) {
	if Place(ones, 2) != 511 || Place(1<<30+1<<21+4096, 1) != 1 || Place(1<<39-1<<30, 2) != 511 || Place(1<<39, 2) != 0 || Place(4095, 0) != 0 || Place(4096, 0) != 1 {
		t.Fatal("rows")
	}
	for _, va := range words() {
		b := spell(va)
		for _, level := range levels {
			if got := Place(va, level); got != int(b.index(level)) {
				t.Fatalf("%x %d: %d", va, level, got)
			}
		}
	}
}

// P26.1: Place: every index at every level, with the other bits 0 and 1.
func TestPlaceAll(t *testing.T) {
	for level, at := range indices {
		for index := range uint64(512) {
			field := index << at[1]
			others := ones ^ uint64(511)<<at[1]
			if Place(field, level) != int(index) || Place(field|others, level) != int(index) {
				t.Fatal(level, index)
			}
		}
	}
}

// P26.1: Page and Size: all levels and numbers that are none, against the book.
func TestPage(t *testing.T) {
	for _, level := range levels {
		if Size(level) != bytes[level] {
			t.Fatal("size", level)
		}
		for _, va := range words() {
			got := Page(va, level)
			if got != spell(va).page(level) {
				t.Fatalf("%x %d: %x", va, level, got)
			}
			if n := bytes[level]; n != 0 && got != va/n*n {
				t.Fatalf("%x %d: %x", va, level, got)
			}
		}
	}
	if Size(1) != 1<<21 || Size(3) != 0 || Size(-1) != 0 || Page(4097, 0) != 4096 || Page(ones, 2) != above(30) || Page(4097, 3) != 4097 {
		t.Fatal("rows")
	}
}

// P26.1: Same: pairs of words at all levels and numbers that are none, against the book.
func TestSame(t *testing.T) {
	near := words()
	for _, level := range levels {
		for i, a := range near {
			// At a level that is none, one other address in seven is enough.
			for j, b := range near {
				if bytes[level] == 0 && (i+j)%7 != 0 && i != j {
					continue
				}
				want := a == b
				if n := bytes[level]; n != 0 {
					want = a/n == b/n
				}
				if Same(a, b, level) != want {
					t.Fatalf("%x %x %d", a, b, level)
				}
			}
		}
	}
}

// P26.1: Same: the first and the last byte of a page, and the bytes beside it.
func TestSameEdges(t *testing.T) {
	for level, n := range bytes {
		for _, page := range []uint64{0, n, 5 * n, 1 << 38, above(38), -n} {
			if !Same(page, page+n-1, level) || !Same(page+n-1, page, level) || !Same(page, page, level) || Same(page, page+n, level) || Same(page, page-1, level) || Same(page-1, page+n-1, level) {
				t.Fatal(level, page)
			}
		}
	}
	for _, level := range levels[3:] {
		if !Same(8, 8, level) || Same(8, 9, level) || Same(0, 1<<63, level) || Same(0, ones, level) {
			t.Fatal(level)
		}
	}
}

// P26.1: Entry: all levels and numbers that are none, many frames and addresses, against the book.
func TestEntry(t *testing.T) {
	for _, va := range words() {
		b := spell(va)
		for _, ppn := range words() {
			frame := spell(ppn)
			for _, level := range []int{0, 1, 2, 3, -1} {
				if got := Entry(ppn, va, level); got != b.entry(frame, level) {
					t.Fatalf("%x %x %d: %x", ppn, va, level, got)
				}
			}
		}
	}
	for _, level := range levels[3:] {
		if Entry(1, 0, level) != 0 || Entry(ones, ones, level) != 0 || Entry(5, 1<<30, level) != 0 {
			t.Fatal(level)
		}
	}
}

// P26.1: Entry: the example of the chapter, and the edges.
func TestEntryRows(t *testing.T) {
	for _, x := range []struct {
		ppn, va uint64
		level   int
		want    uint64
	}{
		{5, 1 << 30, 2, 20488}, {5, 1 << 30, 1, 20480}, {5, 1 << 21, 1, 20488}, {5, 4096, 0, 20488}, {5, 4095, 0, 20480}, {0, ones, 0, 4088}, {0, ones, 1, 4088}, {0, ones, 2, 4088},
		{1 << 44, 0, 0, 0}, {1<<44 | 1, 0, 0, 4096}, {1<<44 - 1, ones, 2, 1<<56 - 8}, {ones, 0, 1, 1<<56 - 4096}, {1, 0, 3, 0}, {524288, 0, 2, api.RamBase},
	} {
		if got := Entry(x.ppn, x.va, x.level); got != x.want {
			t.Fatalf("%+v: %d", x, got)
		}
	}
}

// P26.2: Mode, Asid and Root: words of many kinds, against the book.
func TestFields(t *testing.T) {
	for _, a := range words() {
		for _, b := range words() {
			w := a ^ b
			s := spell(w)
			if Mode(w) != int(number(s.part(63, 60))) || Asid(w) != int(number(s.part(59, 44))) || Root(w) != number(s.part(43, 0)) {
				t.Fatalf("%x: %d %d %x", w, Mode(w), Asid(w), Root(w))
			}
		}
	}
	if Mode(ones) != 15 || Asid(ones) != 65535 || Root(ones) != 1<<44-1 || Mode(8<<60) != 8 || Asid(8<<60) != 0 || Root(8<<60) != 0 {
		t.Fatal("rows")
	}
}

// P26.2: Satp: the lowest bits of each field, also of numbers that are too great or below 0.
func TestSatp(t *testing.T) {
	for _, mode := range words() {
		for _, asid := range words() {
			for _, root := range []uint64{0, 1, 1<<44 - 1, 1 << 43, 1 << 44, ones, mode, asid} {
				if got := Satp(int(mode), int(asid), root); got != satp(spell(mode), spell(asid), spell(root)) {
					t.Fatalf("%x %x %x: %x", mode, asid, root, got)
				}
			}
		}
	}
	for _, root := range words() {
		if Satp(0, 0, root) != root&(1<<44-1) || Satp(-1, -1, root) != above(44)|root&(1<<44-1) {
			t.Fatalf("%x", root)
		}
	}
	if Satp(24, 1<<16, 1<<44) != 8<<60 || Satp(8, 9, 10) != 8<<60|9<<44|10 || Satp(-1, 0, 0) != 15<<60 || Satp(0, -1, 0) != 65535<<44 || Satp(math.MinInt, math.MinInt, 0) != 0 {
		t.Fatal("rows")
	}
}

// P26.2: Satp, Mode, Asid and Root: a word is that of its fields.
func TestSatpBack(t *testing.T) {
	for _, a := range words() {
		for _, b := range words() {
			if w := a ^ b; Satp(Mode(w), Asid(w), Root(w)) != w {
				t.Fatalf("%x", w)
			}
		}
	}
}

// P26.2: Translates: every mode in every privilege, and numbers that are none; the other fields do not count.
func TestTranslates(t *testing.T) {
	for mode := range uint64(16) {
		for _, rest := range words() {
			w := mode<<60 | rest>>4
			for _, priv := range privs {
				want := mode == 8 && (priv == 0 || priv == 1)
				if Translates(w, priv) != want {
					t.Fatalf("%x %d", w, priv)
				}
			}
		}
	}
}

// P26.3: a valid address is determined by its indices and its lowest 12 bits.
func TestDetermined(t *testing.T) {
	if !May(above(38)) || May(1<<38) {
		t.Fatal("examples")
	}
	for _, va := range words() {
		if !May(va) {
			continue
		}
		sum := va % 4096
		for level, n := range bytes {
			sum += uint64(Place(va, level)) * n
		}
		if Place(va, 2) > 255 {
			sum -= 1 << 39
		}
		if sum != va {
			t.Fatalf("%x: %x", va, sum)
		}
	}
}

// P26.3: each page of a level is contained in a page of the next one.
func TestNested(t *testing.T) {
	r := rand.New(rand.NewPCG(26, 1))
	for range 20000 {
		a := r.Uint64()
		b := a ^ r.Uint64()>>r.IntN(64)
		for _, level := range []int{0, 1} {
			if Same(a, b, level) && !Same(a, b, level+1) {
				t.Fatalf("%x %x %d", a, b, level)
			}
			if Page(Page(a, level), level+1) != Page(a, level+1) || Page(a+Size(level)-1-a%Size(level), level+1) != Page(a, level+1) {
				t.Fatalf("%x %d", a, level)
			}
		}
	}
}

// Fixed rows of words of any bits, against the book.
func TestRows(t *testing.T) {
	r := rand.New(rand.NewPCG(26, 2))
	for range 50000 {
		va, ppn := r.Uint64()>>r.IntN(64), r.Uint64()
		if r.IntN(2) == 0 {
			va = -va
		}
		b, level := spell(va), r.IntN(5)-1
		switch {
		case May(va) != b.valid():
			t.Fatalf("may %x", va)
		case Place(va, level) != int(b.index(level)):
			t.Fatalf("place %x %d", va, level)
		case Page(va, level) != b.page(level):
			t.Fatalf("page %x %d", va, level)
		case Entry(ppn, va, level) != b.entry(spell(ppn), level):
			t.Fatalf("entry %x %x %d", ppn, va, level)
		case Same(va, va^1<<r.IntN(8), level) != (bytes[level] != 0):
			t.Fatalf("same %x %d", va, level)
		case Root(ppn) != number(spell(ppn).part(43, 0)):
			t.Fatalf("root %x", ppn)
		}
	}
}
