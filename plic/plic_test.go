package plic

import (
	"math/rand/v2"
	"testing"
)

// words are contents.
var words = []uint64{0, 1, 2, 3, 7, 8, 10, 15, 31, 32, 0x80, 0xfe, 1 << 31, 1<<32 - 2, 1<<32 - 1, 1 << 32, 1<<32 + 5, 0x8877665544332211, 1 << 63, ones - 1, ones}

// all is an enable register's contents with which all sources are enabled.
const all = 1<<32 - 2

// P16.1: at first everything is 0 or off, for each number of harts.
func TestNew(t *testing.T) {
	for harts := 1; harts <= 8; harts++ {
		p := New(harts)
		for off := range table(harts) {
			if v, ok := p.Read(off, 4); v != 0 || !ok {
				t.Fatal(harts, off, v, ok)
			}
		}
		isBook(t, &p, &book{harts: harts})
	}
}

// P16.1 and Promises: for wrong numbers of harts there are none, as in the zero value.
func TestNewWrong(t *testing.T) {
	for _, harts := range append([]int{0, 9, 10, 16}, strangers...) {
		p := New(harts)
		if p != (Plic{}) {
			t.Fatal(harts, p)
		}
		isNone(t, &p)
		if p != (Plic{}) {
			t.Fatal(harts, p)
		}
	}
}

// P16.1: every offset up to behind the last register, for each number of harts; other sizes at and about each register.
func TestFits(t *testing.T) {
	for harts := -1; harts <= 10; harts++ {
		right := table(harts)
		for off := range uint64(levelOff + 18*4096) {
			if _, want := right[off]; Fits(harts, off, 4) != want {
				t.Fatal(harts, off, want)
			}
		}
		for off := range table(8) {
			for near := off - 4; near != off+5; near++ {
				for _, size := range sizes {
					_, want := right[near]
					if Fits(harts, near, size) != (want && size == 4) {
						t.Fatal(harts, near, size, want)
					}
				}
			}
		}
	}
	for _, harts := range strangers {
		for off := range table(8) {
			if Fits(harts, off, 4) {
				t.Fatal(harts, off)
			}
		}
	}
}

// P16.1: offsets far away, some of which a narrower number, or a sum that wraps around, would turn into right ones.
func TestFitsFar(t *testing.T) {
	for harts := 1; harts <= 8; harts++ {
		for off := range table(harts) {
			for at := 22; at < 64; at++ {
				if Fits(harts, off+1<<at, 4) || Fits(harts, off-1<<at, 4) {
					t.Fatal(harts, off, at)
				}
			}
		}
	}
	for off := uint64(1); off <= 1<<22; off++ {
		if Fits(8, -off, 4) {
			t.Fatal(off)
		}
	}
}

// P16.1: Read and Write answer for the registers that Fits has, and for nothing else, where they do nothing.
func TestReadAndWriteFit(t *testing.T) {
	for _, harts := range []int{1, 3, 8} {
		x := pair(t, harts)
		x.write(onOff, all)
		x.write(20, 5)
		x.wire(5, true)
		for off := range table(8) {
			for near := off - 4; near != off+5; near++ {
				for _, size := range sizes {
					if p := x.p; Fits(harts, near, size) {
						v, ok := p.Read(near, size)
						if !ok || !p.Write(near, size, v) {
							t.Fatal(harts, near, size)
						}
						continue
					}
					if v, ok := x.p.Read(near, size); v != 0 || ok || x.p.Write(near, size, ones) {
						t.Fatal(harts, near, size)
					}
				}
			}
		}
		x.same()
	}
}

// P16.1: each register but claim gets the lowest bits of each number over each other one, and nothing else is changed; pending stays as it is.
func TestWrite(t *testing.T) {
	for _, harts := range []int{1, 2, 8} {
		for off, r := range table(harts) {
			if r.what == "claim" {
				continue
			}
			x := pair(t, harts)
			x.wire(3, true)
			x.wire(31, true)
			for _, before := range []uint64{0, ones, 0x0123456789abcdef} {
				for _, v := range words {
					x.write(off, before)
					x.write(off, v)
					x.read(off)
				}
			}
			x.same()
		}
	}
}

// P16.1: what the chapter's table says each register has.
func TestContents(t *testing.T) {
	p := New(1)
	for _, c := range [][3]uint64{
		{onOff, 4294967295, 4294967294},
		{onOff + 128, ones, 4294967294},
		{onOff, 1, 0},
		{onOff, 1 << 32, 0},
		{4, 255, 7},
		{124, 8, 0},
		{124, 15, 7},
		{levelOff, 7, 7},
		{levelOff + 4096, 14, 6},
		{waitsOff, ones, 0},
	} {
		if !p.Write(c[0], 4, c[1]) {
			t.Fatal(c)
		}
		if v, ok := p.Read(c[0], 4); v != c[2] || !ok {
			t.Fatal(c, v, ok)
		}
	}
}

// P16.2: each source, and no other; the wire that goes off leaves the source pending.
func TestWire(t *testing.T) {
	for i := 1; i <= 31; i++ {
		x := pair(t, 1)
		x.wire(i, false)
		x.same()
		x.wire(i, true)
		if x.p.Waits() != 1<<i {
			t.Fatal(i, x.p.Waits())
		}
		x.same()
		x.wire(i, true)
		x.same()
		x.wire(i, false)
		if x.p.Waits() != 1<<i || x.p.Served() != 0 {
			t.Fatal(i, x.p.Waits())
		}
		if v, ok := x.p.Read(waitsOff, 4); v != 1<<i || !ok {
			t.Fatal(i, v)
		}
		x.same()
	}
}

// P16.2: numbers that no source has.
func TestWireWrong(t *testing.T) {
	p := New(8)
	for _, i := range append([]int{0}, strangers...) {
		if p.Wire(i, true) || p.Wire(i, false) {
			t.Fatal(i)
		}
	}
	if p != New(8) {
		t.Fatal(p)
	}
}

// P16.1 and Terms: for each two sources and priorities, the greater priority is claimed first, and among equals the smaller number; without a priority none.
func TestClaimOrder(t *testing.T) {
	for i := 1; i <= 31; i++ {
		for j := 1; j <= 31; j++ {
			for _, prios := range [][2]uint64{{1, 1}, {1, 2}, {7, 6}, {7, 7}, {0, 1}, {3, 0}, {0, 0}, {4, 3}} {
				x := pair(t, 1)
				x.write(onOff, all)
				x.write(uint64(4*i), prios[0])
				x.write(uint64(4*j), prios[1])
				x.wire(i, true)
				x.wire(j, true)
				for range 3 {
					x.read(claimOff)
				}
				if x.p.Waits() != x.b.waits.word() || x.p.Served() != x.b.served.word() {
					t.Fatal(i, j, prios)
				}
			}
		}
	}
}

// P16.1: all sources wait, with priorities that go up and down; they are claimed one by one.
func TestClaimAll(t *testing.T) {
	x := pair(t, 2)
	for i := 1; i <= 31; i++ {
		x.write(uint64(4*i), uint64(i*3%8))
		x.wire(i, true)
	}
	x.write(onOff+3*128, all)
	for _, want := range []uint64{5, 13, 21, 29, 2, 10, 18, 26, 7, 15, 23, 31, 4, 12, 20, 28, 1, 9, 17, 25, 6, 14, 22, 30, 3, 11, 19, 27, 0, 0} {
		if got := x.read(claimOff + 3*4096); got != want {
			t.Fatal(got, want)
		}
		x.same()
	}
	if x.p.Waits() != 1<<8|1<<16|1<<24 {
		t.Fatal(x.p.Waits())
	}
}

// P16.1: a claim is of sources that are enabled for the context, whatever others have, and doesn't look at the threshold.
func TestClaimContext(t *testing.T) {
	for c := range uint64(16) {
		x := pair(t, 8)
		x.write(48, 2)
		x.wire(12, true)
		x.write(onOff+128*c, 1<<12)
		x.write(levelOff+4096*c, 7)
		for other := range uint64(16) {
			if other != c && x.read(claimOff+4096*other) != 0 {
				t.Fatal(c, other)
			}
			x.write(claimOff+4096*other, 12)
		}
		x.same()
		if x.p.Line(int(c)) || x.read(claimOff+4096*c) != 12 {
			t.Fatal(c)
		}
		x.same()
		for other := range uint64(16) {
			if other != c {
				x.write(claimOff+4096*other, 12)
			}
		}
		if x.p.Served() != 1<<12 {
			t.Fatal(c)
		}
		x.write(claimOff+4096*c, 12)
		if x.p.Served() != 0 || x.p.Waits() != 1<<12 {
			t.Fatal(c)
		}
		x.same()
	}
}

// P16.1: a completion of a source by the lowest 32 bits of what is written; other numbers, and sources that aren't served, are none.
func TestComplete(t *testing.T) {
	for i := 1; i <= 31; i++ {
		for _, on := range []bool{false, true} {
			x := pair(t, 1)
			for _, j := range []int{i, i%31 + 1} {
				x.write(uint64(4*j), 1)
				x.write(onOff, 1<<j)
				x.wire(j, true)
				x.read(claimOff)
			}
			x.write(onOff, all)
			x.wire(i, on)
			for _, wrong := range []uint64{0, uint64(i + 32), uint64(i + 64), uint64(i + 256), 1<<31 + uint64(i), 1<<32 - uint64(i), uint64(i) << 32, 1 << i &^ 31, ones - uint64(i)} {
				x.write(claimOff, wrong)
				x.same()
			}
			x.write(claimOff, 0xabcdef01<<32|uint64(i))
			x.same()
			if x.p.Served() != 1<<(i%31+1) || (x.p.Waits()&(1<<i) != 0) != on {
				t.Fatal(i, on, x.p.Served(), x.p.Waits())
			}
			x.write(claimOff, uint64(i))
			x.same()
		}
	}
}

// P16.1: a source can be completed only for a context for which it is enabled by then, be it another one than that which claimed it.
func TestCompleteElsewhere(t *testing.T) {
	x := pair(t, 1)
	x.write(28, 1)
	x.write(onOff, 1<<7)
	x.wire(7, true)
	x.read(claimOff)
	x.wire(7, false)
	x.write(claimOff+4096, 7)
	x.write(onOff, all&^(1<<7))
	x.write(claimOff, 7)
	if x.p.Served() != 1<<7 {
		t.Fatal("not enabled")
	}
	x.write(onOff+128, 1<<7)
	x.write(28, 0)
	x.write(claimOff+4096, 7)
	if x.p.Served() != 0 || x.p.Waits() != 0 {
		t.Fatal("enabled elsewhere")
	}
	x.same()
}

// P16.2: a source's priority against a context's threshold: each against each.
func TestLine(t *testing.T) {
	for c := range uint64(4) {
		for prio := range uint64(8) {
			for level := range uint64(8) {
				x := pair(t, 2)
				x.wire(31, true)
				x.write(124, prio)
				x.write(levelOff+4096*c, level)
				x.same()
				x.write(onOff+128*c, 1<<31)
				if x.p.Line(int(c)) != (prio > level) {
					t.Fatal(c, prio, level)
				}
				x.same()
			}
		}
	}
}

// P16.2: one source is enough, whichever it is: the others are less, not enabled, not pending, or served.
func TestLineOfOne(t *testing.T) {
	for i := 1; i <= 31; i++ {
		x := pair(t, 1)
		x.write(levelOff, 3)
		for j := 1; j <= 31; j++ {
			x.wire(j, true)
			x.write(uint64(4*j), 3)
		}
		x.write(onOff, all)
		if x.p.Line(0) {
			t.Fatal(i)
		}
		x.write(uint64(4*i), 4)
		if !x.p.Line(0) || x.p.Line(1) {
			t.Fatal(i)
		}
		x.write(onOff, all&^(1<<i))
		if x.p.Line(0) {
			t.Fatal(i)
		}
		x.write(onOff, 1<<i)
		x.wire(i, false)
		if !x.p.Line(0) || x.read(claimOff) != uint64(i) || x.p.Line(0) {
			t.Fatal(i)
		}
		x.same()
	}
}

// P16.2: numbers that no context has.
func TestLineWrong(t *testing.T) {
	for harts := 1; harts <= 8; harts++ {
		p := New(harts)
		p.Wire(1, true)
		p.Write(4, 4, 7)
		for c := range uint64(2 * harts) {
			p.Write(onOff+128*c, 4, 2)
		}
		for c := -3; c <= 20; c++ {
			if p.Line(c) != (c >= 0 && c < 2*harts) {
				t.Fatal(harts, c)
			}
		}
		for _, c := range strangers {
			if p.Line(c) {
				t.Fatal(harts, c)
			}
		}
	}
}

// P16.3: the chapter's example.
func TestExample(t *testing.T) {
	p := New(1)
	if !p.Write(40, 4, 3) || !p.Write(onOff+128, 4, 1<<10) || !p.Wire(10, true) || !p.Line(1) {
		t.Fatal("line")
	}
	for _, want := range []uint64{10, 0} {
		if v, ok := p.Read(claimOff+4096, 4); v != want || !ok {
			t.Fatal(v, ok)
		}
	}
	if !p.Wire(10, false) || !p.Write(claimOff+4096, 4, 10) || p.Waits() != 0 || p.Served() != 0 {
		t.Fatal("off")
	}
}

// P16.3: while a source is served, its wire may go on and off: it isn't pending before it is completed, and then only if its wire is on.
func TestServed(t *testing.T) {
	for _, last := range []bool{true, false} {
		x := pair(t, 1)
		x.write(4, 1)
		x.write(onOff, 2)
		x.wire(1, true)
		x.read(claimOff)
		for _, on := range []bool{true, false, true, !last, last} {
			x.wire(1, on)
			x.same()
			if x.p.Waits() != 0 || x.p.Served() != 2 || x.read(claimOff) != 0 {
				t.Fatal(last, on)
			}
		}
		x.write(claimOff, 1)
		if (x.p.Waits() == 2) != last || x.p.Served() != 0 {
			t.Fatal(last)
		}
		x.same()
	}
}

// P16.3: what is pending stays so, and what is served too, when it is no longer enabled or loses its priority.
func TestStays(t *testing.T) {
	x := pair(t, 1)
	x.write(onOff, all)
	for i := 1; i <= 4; i++ {
		x.write(uint64(4*i), uint64(i))
		x.wire(i, true)
		x.wire(i, false)
	}
	x.read(claimOff)
	x.read(claimOff)
	x.write(onOff, 0)
	for i := 1; i <= 4; i++ {
		x.write(uint64(4*i), 0)
	}
	if x.p.Waits() != 6 || x.p.Served() != 24 || x.p.Line(0) || x.read(claimOff) != 0 {
		t.Fatal(x.p)
	}
	x.same()
}

// P4: a controller is copied by assignment.
func TestCopies(t *testing.T) {
	x := pair(t, 1)
	x.write(8, 1)
	x.write(onOff, all)
	x.wire(2, true)
	y := x.p
	y.Read(claimOff, 4)
	y.Wire(3, true)
	y.Write(12, 4, 2)
	y.Write(levelOff, 4, 2)
	y.Write(onOff, 4, 2)
	x.same()
	if y == x.p || y.Waits() != 8 || y.Served() != 4 {
		t.Fatal(y)
	}
}

// Promises: two controllers are equal if and only if they agree in everything, the wires and the number of harts too.
func TestEqual(t *testing.T) {
	few := []Plic{{}}
	for harts := 1; harts <= 8; harts++ {
		few = append(few, New(harts))
	}
	for off, r := range table(2) {
		if r.what == "pending" || r.what == "claim" {
			continue
		}
		for _, v := range []uint64{2, 4} {
			p := New(2)
			p.Write(off, 4, v)
			few = append(few, p)
		}
	}
	for i := 1; i <= 31; i++ {
		p := New(2)
		p.Wire(i, true)
		few = append(few, p)
		p.Wire(i, false)
		few = append(few, p)
		p.Write(uint64(4*i), 4, 1)
		p.Write(onOff, 4, 1<<i)
		p.Read(claimOff, 4)
		few = append(few, p)
		p.Wire(i, true)
		few = append(few, p)
	}
	for i, a := range few {
		for j, b := range few {
			if (a == b) != (i == j) {
				t.Fatal(i, j, a, b)
			}
		}
	}
}

// Promises: nothing is left of what was undone.
func TestEqualUndone(t *testing.T) {
	p := New(2)
	p.Write(4, 4, 9)
	p.Write(onOff+3*128, 4, ones)
	p.Write(levelOff+3*4096, 4, ones)
	p.Wire(1, true)
	p.Read(claimOff+3*4096, 4)
	p.Wire(1, false)
	p.Write(claimOff+3*4096, 4, 1)
	p.Write(4, 4, 8)
	p.Write(onOff+3*128, 4, 1)
	p.Write(levelOff+3*4096, 4, 8)
	if p != New(2) {
		t.Fatal(p)
	}
}

// P16.1 to P16.3: long rows of calls, in orders that are the same each time.
func TestRows(t *testing.T) {
	r := rand.New(rand.NewPCG(16, 3))
	few := []int{1, 2, 3, 10, 30, 31}
	for range 200 {
		x := pair(t, 1+r.IntN(8))
		for range 60 {
			c, i := uint64(r.IntN(min(4, 2*x.b.harts))), few[r.IntN(len(few))]
			switch r.IntN(8) {
			case 0:
				x.write(uint64(4*i), uint64(r.IntN(9)))
			case 1:
				x.write(onOff+128*c, r.Uint64()|r.Uint64())
			case 2:
				x.write(levelOff+4096*c, uint64(r.IntN(9)))
			case 3, 4:
				x.read(claimOff + 4096*c)
			case 5:
				x.write(claimOff+4096*c, uint64(i))
			case 6, 7:
				x.wire(i, r.IntN(3) > 0)
			}
			x.same()
		}
	}
}

// Promises: a nil controller returns 0 and false, and does nothing.
func TestNil(t *testing.T) {
	isNone(t, nil)
}
