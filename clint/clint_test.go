package clint

import (
	"math"
	"math/rand/v2"
	"testing"
)

const ones = ^uint64(0)

// The offsets, as the chapter's table has them.
const (
	msip     = 0
	mtimecmp = 16384
	mtime    = 49144
)

// strangers are numbers of no hart, and wrong numbers of harts.
var strangers = []int{math.MinInt, math.MinInt + 1, -1 << 32, -1<<32 + 1, -8, -1, 9, 16, 64, 255, 256, 257, 1 << 31, 1 << 32, 1<<32 + 1, math.MaxInt}

// sizes are sizes of all kinds, the right ones among them.
var sizes = []int{math.MinInt, -1 << 32, -8, -4, -1, 0, 1, 2, 3, 4, 5, 6, 7, 8, 9, 12, 16, 32, 64, 1 << 32, 1<<32 + 4, 1<<32 + 8, math.MaxInt}

// words are contents.
var words = []uint64{0, 1, 2, 3, 254, 255, 1<<31 - 1, 1 << 31, 1<<32 - 1, 1 << 32, 1<<32 + 1, 0x8877665544332211, 1<<63 - 1, 1 << 63, ones - 1, ones}

// place is an offset with a size.
type place struct {
	off  uint64
	size int
}

// table is the places of all registers that some harts have, as the chapter's table lists them.
func table(harts int) map[place]struct{} {
	out := map[place]struct{}{}
	if harts < 1 || harts > 8 {
		return out
	}
	wide := []uint64{mtime}
	for h := range uint64(harts) {
		out[place{msip + 4*h, 4}] = struct{}{}
		wide = append(wide, mtimecmp+8*h)
	}
	for _, off := range wide {
		out[place{off, 8}] = struct{}{}
		out[place{off, 4}] = struct{}{}
		out[place{off + 4, 4}] = struct{}{}
	}
	return out
}

// book is a clint as the chapter's words have it: the bytes of its registers at their offsets.
type book struct {
	harts int
	bytes map[uint64]byte
}

func newBook(harts int) *book {
	b := &book{harts: harts, bytes: map[uint64]byte{}}
	for h := range uint64(harts) {
		b.put(mtimecmp+8*h, 8, ones)
	}
	return b
}

func (b *book) get(off uint64, size int) uint64 {
	sum, worth := uint64(0), uint64(1)
	for i := range uint64(size) {
		sum += uint64(b.bytes[off+i]) * worth
		worth *= 256
	}
	return sum
}

func (b *book) put(off uint64, size int, v uint64) {
	for i := range uint64(size) {
		b.bytes[off+i] = byte(v % 256)
		v /= 256
	}
}

func (b *book) write(p place, v uint64) {
	if p.off < mtimecmp {
		v %= 2
	}
	b.put(p.off, p.size, v)
}

func (b *book) tick(n int) {
	if n >= 1 {
		b.put(mtime, 8, b.get(mtime, 8)+uint64(n))
	}
}

func (b *book) lines(hart uint64) uint64 {
	sum := 8 * b.get(msip+4*hart, 4)
	if b.get(mtime, 8) >= b.get(mtimecmp+8*hart, 8) {
		sum += 128
	}
	return sum
}

// clint is a clint made from a book alone, with nothing behind it.
func (b *book) clint() Clint {
	c := New(b.harts)
	c.Write(mtime, 8, b.get(mtime, 8))
	for h := range uint64(b.harts) {
		c.Write(msip+4*h, 4, b.get(msip+4*h, 4))
		c.Write(mtimecmp+8*h, 8, b.get(mtimecmp+8*h, 8))
	}
	return c
}

// isBook compares all that a clint tells with a book.
func isBook(t *testing.T, c *Clint, b *book) {
	t.Helper()
	for p := range table(b.harts) {
		if v, ok := c.Read(p.off, p.size); v != b.get(p.off, p.size) || !ok {
			t.Fatalf("Read(%d, %d): got %d %v, want %d", p.off, p.size, v, ok, b.get(p.off, p.size))
		}
	}
	if c.Time() != b.get(mtime, 8) {
		t.Fatalf("Time: got %d, want %d", c.Time(), b.get(mtime, 8))
	}
	for h := range b.harts {
		if got, want := c.Lines(h), b.lines(uint64(h)); got != want {
			t.Fatalf("Lines(%d): got %d, want %d", h, got, want)
		}
	}
	for h := b.harts; h < b.harts+9; h++ {
		if c.Lines(h) != 0 {
			t.Fatal("Lines", h)
		}
	}
	for _, h := range strangers {
		if c.Lines(h) != 0 {
			t.Fatal("Lines", h)
		}
	}
	if *c != b.clint() {
		t.Fatalf("%v isn't the clint of %v", *c, b)
	}
}

// isNone wants that a clint has no registers, no time and no lines, whatever is done with it.
func isNone(t *testing.T, c *Clint) {
	t.Helper()
	for p := range table(8) {
		if c.Write(p.off, p.size, ones) {
			t.Fatal("Write", p)
		}
		if v, ok := c.Read(p.off, p.size); v != 0 || ok {
			t.Fatal("Read", p, v, ok)
		}
	}
	for _, n := range []int{1, 5, 0, -1, math.MaxInt, math.MinInt} {
		c.Tick(n)
	}
	if c.Time() != 0 {
		t.Fatal("Time", c.Time())
	}
	for h := -1; h <= 8; h++ {
		if c.Lines(h) != 0 {
			t.Fatal("Lines", h)
		}
	}
	for _, h := range strangers {
		if c.Lines(h) != 0 {
			t.Fatal("Lines", h)
		}
	}
}

// P15.1: what is there at first, for each number of harts.
func TestNew(t *testing.T) {
	for harts := 1; harts <= 8; harts++ {
		c := New(harts)
		for h := range uint64(harts) {
			if v, ok := c.Read(msip+4*h, 4); v != 0 || !ok {
				t.Fatal(harts, h, v, ok)
			}
			if v, ok := c.Read(mtimecmp+8*h, 8); v != ones || !ok {
				t.Fatal(harts, h, v, ok)
			}
		}
		if v, ok := c.Read(mtime, 8); v != 0 || !ok {
			t.Fatal(harts, v, ok)
		}
		isBook(t, &c, newBook(harts))
	}
}

// P15.1 and Promises: for wrong numbers of harts there are none, as in the zero value.
func TestNewWrong(t *testing.T) {
	for _, harts := range append([]int{0}, strangers...) {
		c := New(harts)
		if c != (Clint{}) {
			t.Fatal(harts, c)
		}
		isNone(t, &c)
		if c != (Clint{}) {
			t.Fatal(harts, c)
		}
	}
}

// P15.1: every offset up to behind the last register, with every size, for each number of harts.
func TestFits(t *testing.T) {
	for harts := -1; harts <= 10; harts++ {
		right := table(harts)
		for off := range uint64(mtime + 40) {
			for _, size := range sizes {
				_, want := right[place{off, size}]
				if Fits(harts, off, size) != want {
					t.Fatal(harts, off, size, want)
				}
			}
		}
	}
	for _, harts := range strangers {
		for p := range table(8) {
			if Fits(harts, p.off, p.size) {
				t.Fatal(harts, p)
			}
		}
	}
}

// P15.1: offsets far away, some of which a narrower number, or a sum that wraps around, would turn into right ones.
func TestFitsFar(t *testing.T) {
	for harts := 1; harts <= 8; harts++ {
		for p := range table(harts) {
			for at := 16; at < 64; at++ {
				if Fits(harts, p.off+1<<at, p.size) || Fits(harts, p.off-1<<at, p.size) {
					t.Fatal(harts, p, at)
				}
			}
		}
		for off := uint64(1); off <= 1<<17; off++ {
			if Fits(harts, -off, 4) || Fits(harts, -off, 8) {
				t.Fatal(harts, off)
			}
		}
	}
}

// P15.1: Read and Write answer for the registers that Fits has, and for nothing else, where they change nothing.
func TestReadAndWriteFit(t *testing.T) {
	for _, harts := range []int{1, 2, 5, 8} {
		c := New(harts)
		for _, from := range []uint64{0, mtimecmp - 16, mtime - 16, 1<<32 - 16, 1<<63 + mtime - 16, ones - 200} {
			for off := from; off != from+120; off++ {
				for _, size := range sizes {
					fits, before := Fits(harts, off, size), c
					v, ok := c.Read(off, size)
					if ok != fits || !ok && v != 0 || c != before {
						t.Fatal("Read", harts, off, size, v, ok)
					}
					if c.Write(off, size, 0x1122334455667788) != fits || !fits && c != before {
						t.Fatal("Write", harts, off, size)
					}
				}
			}
		}
	}
}

// P15.1 and P15.3: each register gets the lowest bits of each number over each other one, and nothing else is changed.
func TestWrite(t *testing.T) {
	for harts := 1; harts <= 8; harts++ {
		for p := range table(harts) {
			for _, before := range []uint64{0, ones, 0x0123456789abcdef} {
				for _, v := range words {
					c, b := New(harts), newBook(harts)
					whole := place{p.off, 4}
					if p.off >= mtimecmp {
						whole = place{p.off / 8 * 8, 8}
					}
					b.write(whole, before)
					b.write(p, v)
					if !c.Write(whole.off, whole.size, before) || !c.Write(p.off, p.size, v) {
						t.Fatal(harts, p, v)
					}
					isBook(t, &c, b)
				}
			}
		}
	}
}

// P15.1: the chapter's example; only bit 0 of msip exists.
func TestSoft(t *testing.T) {
	c := New(1)
	if !c.Write(0, 4, 255) {
		t.Fatal("write")
	}
	if v, ok := c.Read(0, 4); v != 1 || !ok || c.Lines(0) != 8 {
		t.Fatal(v, ok)
	}
	if !c.Write(0, 4, ones-1) {
		t.Fatal("write")
	}
	if v, ok := c.Read(0, 4); v != 0 || !ok || c.Lines(0) != 0 {
		t.Fatal(v, ok)
	}
	c.Write(0, 4, 1<<32)
	if v, _ := c.Read(0, 4); v != 0 {
		t.Fatal(v)
	}
	if c != New(1) {
		t.Fatal(c)
	}
}

// P15.2: the time goes on by what is asked, goes round at its end, and stands still below 1.
func TestTick(t *testing.T) {
	for _, start := range words {
		for _, n := range []int{math.MinInt, math.MinInt + 1, -1 << 32, -2, -1, 0, 1, 2, 5, 1<<31 - 1, 1 << 31, 1 << 32, 1 << 62, math.MaxInt} {
			c, b := New(3), newBook(3)
			c.Write(mtime, 8, start)
			b.put(mtime, 8, start)
			c.Tick(n)
			b.tick(n)
			isBook(t, &c, b)
		}
	}
	c := New(1)
	c.Write(mtime, 8, ones-1)
	for _, want := range []uint64{ones, 0, 1} {
		if c.Tick(1); c.Time() != want {
			t.Fatal(c.Time(), want)
		}
	}
}

// P15.2: the timer line at Cmp and on either side of it, as numbers without signs, with Soft and without.
func TestLines(t *testing.T) {
	for _, cmp := range words {
		for _, now := range append([]uint64{cmp - 1, cmp, cmp + 1}, words...) {
			for soft := range uint64(2) {
				c := New(2)
				c.Write(mtimecmp+8, 8, cmp)
				c.Write(mtime, 8, now)
				c.Write(msip+4, 4, soft)
				want := 8 * soft
				if now >= cmp {
					want += 128
				}
				if got := c.Lines(1); got != want {
					t.Fatal(cmp, now, soft, got)
				}
				if first := c.Lines(0); first != 0 && now != ones {
					t.Fatal(cmp, now, first)
				}
			}
		}
	}
}

// P15.2: Cmp's first value is reached by the last time alone.
func TestLinesAtFirst(t *testing.T) {
	c := New(8)
	c.Write(mtime, 8, ones-1)
	for h := range 8 {
		if c.Lines(h) != 0 {
			t.Fatal(h)
		}
	}
	c.Tick(1)
	for h := range 8 {
		if c.Lines(h) != 128 {
			t.Fatal(h)
		}
	}
	c.Tick(1)
	for h := range 8 {
		if c.Lines(h) != 0 {
			t.Fatal(h)
		}
	}
}

// P15.3: the timer line is on from the tick on at which the time reaches Cmp, until Cmp is above the time.
func TestTimer(t *testing.T) {
	c := New(1)
	c.Write(mtimecmp, 8, 1<<32+2)
	c.Write(mtime, 8, 1<<32-2)
	for now := uint64(1<<32 - 2); now < 1<<32+9; now++ {
		if on := c.Lines(0) == 128; on != (now >= 1<<32+2) || c.Time() != now {
			t.Fatal(now, on)
		}
		c.Tick(1)
	}
	c.Write(mtimecmp, 8, c.Time())
	if c.Lines(0) != 128 {
		t.Fatal("reached")
	}
	c.Write(mtimecmp, 8, c.Time()+1)
	if c.Lines(0) != 0 {
		t.Fatal("above")
	}
	c.Tick(1)
	if c.Lines(0) != 128 {
		t.Fatal("reached again")
	}
	c.Write(mtimecmp+4, 4, 2)
	if c.Lines(0) != 0 {
		t.Fatal("the upper half above")
	}
}

// P15.3: the chapter's example.
func TestExample(t *testing.T) {
	c := New(2)
	if !c.Write(16392, 8, 5) {
		t.Fatal("write")
	}
	c.Tick(5)
	if c.Lines(1) != 128 || c.Lines(0) != 0 {
		t.Fatal(c.Lines(1), c.Lines(0))
	}
	if !c.Write(4, 4, 3) {
		t.Fatal("write")
	}
	if v, ok := c.Read(4, 4); v != 1 || !ok {
		t.Fatal(v, ok)
	}
}

// P15.3: the halves of a register are its lower and its upper 32 bits.
func TestHalves(t *testing.T) {
	for p := range table(8) {
		if p.size != 8 {
			continue
		}
		c := New(8)
		c.Write(p.off, 8, 0x8877665544332211)
		low, _ := c.Read(p.off, 4)
		high, _ := c.Read(p.off+4, 4)
		if low != 0x44332211 || high != 0x88776655 {
			t.Fatal(p, low, high)
		}
		c.Write(p.off, 4, 0xfffffff0_01020304)
		c.Write(p.off+4, 4, 0xfffffff0_85060708)
		if v, _ := c.Read(p.off, 8); v != 0x8506070801020304 {
			t.Fatal(p, v)
		}
	}
}

// P4: a clint is copied by assignment.
func TestCopies(t *testing.T) {
	a, b := New(2), newBook(2)
	old := a
	for p := range table(2) {
		a.Write(p.off, p.size, 1)
	}
	a.Tick(7)
	isBook(t, &old, b)
	c := a
	kept := a
	c.Write(mtimecmp, 8, 9)
	c.Tick(1)
	if a != kept || a == c {
		t.Fatal(a, c)
	}
}

// Promises: two clints are equal if and only if they agree in everything: the number of harts, the time, and what each hart has.
func TestEqual(t *testing.T) {
	var few []Clint
	for harts := 0; harts <= 8; harts++ {
		few = append(few, New(harts))
	}
	for p := range table(2) {
		// A half of a register and the whole of it would make the same clint.
		if p.size == 4 && p.off >= mtimecmp {
			continue
		}
		for _, v := range []uint64{1, 3 << 32} {
			if p.off < mtimecmp && v != 1 {
				continue
			}
			c := New(2)
			c.Write(p.off, p.size, v)
			few = append(few, c)
		}
	}
	for i, a := range few {
		for j, b := range few {
			if (a == b) != (i == j) {
				t.Fatal(i, j, a, b)
			}
		}
	}
	c := New(2)
	c.Tick(5)
	c.Write(msip, 4, 7)
	c.Write(mtimecmp, 8, 7)
	c.Write(msip, 4, 0)
	c.Write(mtime, 8, 0)
	c.Write(mtimecmp, 4, ones)
	c.Write(mtimecmp+4, 4, ones)
	if c != New(2) {
		t.Fatal(c)
	}
}

// P15.1 to P15.3: long rows of calls, in orders that are the same each time.
func TestRows(t *testing.T) {
	r := rand.New(rand.NewPCG(15, 3))
	for range 40 {
		harts := 1 + r.IntN(8)
		var all []place
		for h := range uint64(harts) {
			all = append(all, place{msip + 4*h, 4}, place{mtimecmp + 8*h, 8}, place{mtimecmp + 8*h, 4}, place{mtimecmp + 8*h + 4, 4})
		}
		all = append(all, place{mtime, 8}, place{mtime, 4}, place{mtime + 4, 4})
		c, b := New(harts), newBook(harts)
		for range 60 {
			switch r.IntN(3) {
			case 0:
				n := r.IntN(9) - 2
				c.Tick(n)
				b.tick(n)
			case 1:
				p, v := all[r.IntN(len(all))], r.Uint64()>>r.IntN(64)
				b.write(p, v)
				if !c.Write(p.off, p.size, v) {
					t.Fatal(p)
				}
			case 2:
				p, v := all[r.IntN(len(all))], words[r.IntN(len(words))]
				b.write(p, v)
				if !c.Write(p.off, p.size, v) {
					t.Fatal(p)
				}
			}
			isBook(t, &c, b)
		}
	}
}

// Promises: a nil clint returns 0 and false, and does nothing.
func TestNil(t *testing.T) {
	isNone(t, nil)
}
