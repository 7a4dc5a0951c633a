package uart

import (
	"bytes"
	"math"
	"math/rand/v2"
	"testing"
)

// strangers are offsets that no register has, some of which a narrower number would turn into right ones.
var strangers = []uint64{8, 9, 10, 15, 16, 64, 255, 256, 257, 263, 1 << 16, 1<<16 + 5, 1 << 31, 1 << 32, 1<<32 + 3, 1<<32 + 7, 1 << 63, 1<<63 + 5, ones - 7, ones - 1, ones}

// many are books of many kinds: each flag, each length of the queue that is at an end, each bit of the registers that others hang on.
func many() []book {
	var out []book
	for i := range 128 {
		b := book{fifo: i&1 != 0, lost: i&2 != 0, empty: i&4 != 0, dll: byte(i), dlm: byte(3 * i), scr: bits(byte(5*i), 8)}
		b.lcr[7], b.mcr[4], b.ier[1] = i>>3&1, i>>4&1, i>>5&1
		b.mcr[i%4], b.lcr[i%7], b.ier[2] = 1, 1, i>>6&1
		b.ier[0] = (i>>6 ^ i) & 1
		b.queue = make([]byte, i%2)
		if b.fifo {
			b.queue = []byte("0123456789abcdef")[:[]int{0, 1, 2, 15, 16}[i%5]]
		}
		b.sent = []byte("sent")[:i%4]
		out = append(out, b)
	}
	return out
}

// P17.1: at first everything is 0, and nothing was received or sent.
func TestNew(t *testing.T) {
	for off, want := range []byte{0, 0, 1, 0, 0, 96, 176, 0} {
		if c, ok := New().Read(uint64(off)); c != want || !ok {
			t.Fatal(off, c, ok)
		}
	}
	p := New()
	if p.Line() || len(p.Waiting()) != 0 || len(p.Out()) != 0 {
		t.Fatal(p.Line(), p.Waiting(), p.Out())
	}
	p.Write(3, 128)
	for off := range uint64(2) {
		if c, ok := p.Read(off); c != 0 || !ok {
			t.Fatal(off, c, ok)
		}
	}
	pair(t).same()
}

// P17.1: the transmitter hasn't become empty at first.
func TestNewNotEmpty(t *testing.T) {
	var b book
	b.ier[1] = 1
	x := of(t, b)
	if x.p.Line() || x.read(2) != 1 {
		t.Fatal("empty")
	}
}

// P17.1: each call has a port by itself.
func TestNewApart(t *testing.T) {
	p, o := New(), New()
	p.Write(7, 1)
	p.Input(1)
	if p == o || !o.Same(New()) {
		t.Fatal(o)
	}
}

// P17.1: offsets with sizes.
func TestFits(t *testing.T) {
	sizes := []int{math.MinInt, -1 << 32, -255, -1, 0, 1, 2, 3, 4, 7, 8, 9, 16, 257, 1 << 32, 1<<32 + 1, math.MaxInt}
	for off := range uint64(1000) {
		for _, size := range sizes {
			if Fits(off, size) != (off <= 7 && size == 1) {
				t.Fatal(off, size)
			}
		}
	}
	for _, off := range strangers {
		for _, size := range sizes {
			if Fits(off, size) {
				t.Fatal(off, size)
			}
		}
	}
}

// P17.1: at other offsets nothing is read or written.
func TestNoRegister(t *testing.T) {
	for _, b := range many() {
		x := of(t, b)
		for _, off := range strangers {
			if c, ok := x.p.Read(off); c != 0 || ok {
				t.Fatal("Read", off, c, ok)
			}
			for _, c := range []byte{0, 2, 3, 128, 255} {
				if x.p.Write(off, c) {
					t.Fatal("Write", off, c)
				}
			}
		}
		x.same()
	}
}

// P17.1: each register read twice, in each of many ports.
func TestRead(t *testing.T) {
	for _, b := range many() {
		for off := range uint64(8) {
			x := of(t, b)
			x.same()
			for range 2 {
				x.read(off)
				x.same()
			}
		}
	}
}

// P17.1: each byte written to each register, in each of many ports.
func TestWrite(t *testing.T) {
	for i, b := range many() {
		for off := range uint64(8) {
			for c := range 256 {
				x := of(t, b)
				x.write(off, byte(c))
				if c%16 == i%16 || c < 8 {
					x.same()
				}
				x.read(off)
				x.read(2)
			}
		}
	}
}

// P17.1: what of a byte each register keeps, with the bits that it doesn't have.
func TestKept(t *testing.T) {
	p := New()
	for _, c := range []struct {
		off uint64
		has byte
	}{{1, 15}, {3, 255}, {4, 31}, {7, 255}} {
		for b := range 256 {
			p.Write(c.off, byte(b))
			if got, ok := p.Read(c.off); got != byte(b)&c.has || !ok {
				t.Fatal(c, b, got)
			}
			p.Write(3, 0)
		}
	}
	p.Write(3, 128)
	for b := range 256 {
		p.Write(0, byte(b))
		p.Write(1, byte(b+1))
		low, _ := p.Read(0)
		high, _ := p.Read(1)
		if low != byte(b) || high != byte(b+1) {
			t.Fatal(b, low, high)
		}
	}
}

// P17.1: DLL and DLM are apart from what the offsets 0 and 1 are else.
func TestLatch(t *testing.T) {
	x := pair(t)
	x.write(1, 5)
	x.input(9)
	x.write(3, 255)
	x.write(0, 7)
	x.write(1, 8)
	x.same()
	if x.read(0) != 7 || x.read(1) != 8 || x.read(2) != 4 || len(x.p.Out()) != 0 {
		t.Fatal("latch")
	}
	x.write(3, 127)
	if x.read(1) != 5 || x.read(0) != 9 || x.read(0) != 0 {
		t.Fatal("no latch")
	}
	x.write(1, 2)
	x.read(2)
	x.write(3, 128)
	x.write(0, 1)
	x.write(1, 255)
	if x.p.Line() || x.read(2) != 1 {
		t.Fatal("Empty is set by the divisor")
	}
	x.write(4, 16)
	x.write(0, 2)
	if len(x.p.Waiting()) != 0 {
		t.Fatal("the divisor is received")
	}
	x.same()
}

// P17.1 and P17.2: the causes, for all that they hang on; only a cause of 2 that is told ends.
func TestCause(t *testing.T) {
	for i := range 256 {
		b := book{ier: bits(byte(i), 4), lost: i&16 != 0, empty: i&32 != 0, fifo: i&64 != 0, queue: make([]byte, i>>7)}
		want := byte(1)
		switch {
		case i&4 != 0 && b.lost:
			want = 6
		case i&1 != 0 && i>>7 == 1:
			want = 4
		case i&2 != 0 && b.empty:
			want = 2
		}
		x := of(t, b)
		for range 3 {
			if x.p.Line() != (want > 1) {
				t.Fatal(i, want)
			}
			if c := x.read(2); c%64 != want || (c/64 == 3) != b.fifo || c/64%3 != 0 {
				t.Fatal(i, want, c)
			}
			x.same()
			if want == 2 {
				want = 1
			}
		}
	}
}

// P17.1: that the transmitter is empty is told once, and again after each of what sets it.
func TestEmpty(t *testing.T) {
	x := pair(t)
	told := func(want bool) {
		t.Helper()
		if x.p.Line() != want || (x.read(2) == 2) != want || x.p.Line() || x.read(2) != 1 {
			t.Fatal(want)
		}
	}
	told(false)
	x.write(1, 2)
	told(true)
	x.write(1, 15)
	told(false)
	x.write(1, 13)
	told(false)
	x.write(1, 15)
	told(true)
	x.write(0, 1)
	told(true)
	x.write(1, 0)
	x.write(0, 1)
	told(false)
	x.write(1, 2)
	told(true)
	for off := uint64(2); off < 8; off++ {
		x.write(off, 0)
		told(false)
	}
	x.write(4, 16)
	x.write(0, 1)
	told(true)
}

// P17.1: only a cause of 2 that is told ends that the transmitter is empty: not one that stands before it.
func TestEmptyStays(t *testing.T) {
	x := pair(t)
	x.write(1, 7)
	x.input(1)
	x.input(2)
	for _, c := range []struct {
		off  uint64
		want byte
	}{{2, 6}, {2, 6}, {5, 99}, {5, 97}, {2, 4}, {2, 4}, {0, 1}, {2, 2}, {2, 1}} {
		if got := x.read(c.off); got != c.want {
			t.Fatal(c, got)
		}
		x.same()
	}
}

// P17.1: Fifo changes by bit 0; the queue is emptied if it changes, or by bit 1; Lost stays.
func TestFifo(t *testing.T) {
	for _, fifo := range []bool{false, true} {
		for _, lost := range []bool{false, true} {
			for c := range 256 {
				x := of(t, book{fifo: fifo, lost: lost, empty: true, queue: []byte{7}})
				x.write(2, byte(c))
				x.same()
				if stays := (c%2 == 1) == fifo && c&2 == 0; (len(x.p.Waiting()) == 1) != stays {
					t.Fatal(fifo, lost, c)
				}
				if (x.read(2) == 193) != (c%2 == 1) {
					t.Fatal(fifo, lost, c)
				}
			}
		}
	}
}

// P17.1: what the modem lines tell, for each byte in MCR.
func TestModem(t *testing.T) {
	x := pair(t)
	for c := range 256 {
		x.write(4, byte(c))
		x.write(6, byte(c+1))
		want := byte(176)
		if c&16 != 0 {
			want = []byte{0, 32, 16, 48, 64, 96, 80, 112, 128, 160, 144, 176, 192, 224, 208, 240}[c%16]
		}
		if got := x.read(6); got != want {
			t.Fatal(c, got, want)
		}
	}
}

// P17.1 and P17.2: with bit 4 of MCR what is written is received, and what comes from outside isn't; without it the other way round.
func TestLoop(t *testing.T) {
	for mcr := range 256 {
		x := pair(t)
		x.write(4, byte(mcr))
		loop := mcr&16 != 0
		if x.input(1) == loop {
			t.Fatal(mcr)
		}
		x.same()
		x.write(2, 2)
		x.write(0, 5)
		if (string(x.p.Waiting()) == "\x05") != loop || (string(x.p.Out()) == "\x05") == loop {
			t.Fatal(mcr)
		}
		x.same()
		x.write(0, 6)
		x.input(7)
		if (x.read(5) == 99) != loop {
			t.Fatal(mcr)
		}
		x.same()
	}
}

// P17.2: what comes from outside while the port hears itself isn't even lost.
func TestLoopNotLost(t *testing.T) {
	x := pair(t)
	x.input(1)
	x.write(4, 16)
	for range 20 {
		x.input(2)
	}
	if x.read(5) != 97 {
		t.Fatal("lost")
	}
	x.same()
}

// P17.2 and P17.3: the first byte without Fifo, the first 16 with it, whatever bytes they are; the others are lost.
func TestInput(t *testing.T) {
	for _, room := range []int{1, 16} {
		for c := range 256 {
			x := pair(t)
			x.write(2, byte(room/16))
			for i := range 20 {
				if x.input(byte(c*i)) != (i < room) {
					t.Fatal(room, c, i)
				}
				x.same()
			}
			for i := range 20 {
				want := byte(c * i)
				if i >= room {
					want = 0
				}
				if x.read(0) != want {
					t.Fatal(room, c, i)
				}
			}
			if x.read(5) != 98 || x.read(5) != 96 {
				t.Fatal(room, c)
			}
		}
	}
}

// P17.3: room that is made by a read is taken by the next byte, in order.
func TestQueue(t *testing.T) {
	for _, fifo := range []byte{0, 1} {
		x := pair(t)
		x.write(2, fifo)
		for i := range 300 {
			for j := range i % 7 {
				x.input(byte(10*i + j))
			}
			for range i % 5 {
				x.read(0)
			}
			x.same()
		}
	}
}

// P17.3: what is written is sent, all of it, in order.
func TestSent(t *testing.T) {
	x := pair(t)
	var want []byte
	for i := range 5000 {
		c := byte(i * i)
		x.write(0, c)
		want = append(want, c)
	}
	if !bytes.Equal(x.p.Out(), want) || len(x.p.Waiting()) != 0 {
		t.Fatal(len(x.p.Out()))
	}
	x.same()
}

// P17.1 to P17.3: the chapter's examples.
func TestExamples(t *testing.T) {
	if Fits(0, 4) {
		t.Fatal("Fits")
	}
	p := New()
	read := func(off uint64, want byte) {
		t.Helper()
		if c, ok := p.Read(off); c != want || !ok {
			t.Fatal(off, c, ok)
		}
	}
	read(5, 96)
	read(6, 176)
	if !p.Input(65) || p.Input(66) {
		t.Fatal("Input")
	}
	p = New()
	p.Input(65)
	read(5, 97)
	read(0, 65)
	read(0, 0)
	if !p.Write(1, 2) || !p.Line() {
		t.Fatal("Line")
	}
	read(2, 2)
	read(2, 1)
}

// P17.2: a copy has all, and neither changes with the other.
func TestClone(t *testing.T) {
	for _, b := range many() {
		x := of(t, b)
		y := &both{t: t, p: x.p.Clone(), b: b.clone()}
		if !x.p.Same(y.p) || x.p == y.p {
			t.Fatal(b)
		}
		for _, z := range []*both{x, y} {
			z.write(3, 0)
			z.input(77)
			z.read(0)
			z.input(78)
			z.write(0, 79)
			for off := range uint64(8) {
				z.write(off, 3)
			}
			x.same()
			y.same()
		}
	}
}

// P17.2: two ports that grow from the same bytes don't write over each other's.
func TestCloneGrows(t *testing.T) {
	for n := range 16 {
		p := New()
		p.Write(2, 1)
		for i := range n {
			p.Write(0, byte(i))
			p.Input(byte(i))
		}
		o := p.Clone()
		p.Input('p')
		o.Input('o')
		p.Write(0, 'P')
		o.Write(0, 'O')
		if p.Waiting()[n] != 'p' || o.Waiting()[n] != 'o' || p.Out()[n] != 'P' || o.Out()[n] != 'O' {
			t.Fatal(n)
		}
	}
}

// P17.2: each part in which two ports may differ.
func TestSame(t *testing.T) {
	var few []*Port
	for i := range 8 {
		for _, b := range []*book{
			{ier: bits(1<<i, 4)}, {lcr: bits(1<<i, 8)}, {mcr: bits(1<<i, 5)}, {scr: bits(1<<i, 8)},
			{dll: 1 << i}, {dlm: 1 << i}, {fifo: true, queue: make([]byte, i+1)}, {fifo: true, queue: []byte{byte(i + 1)}},
			{sent: make([]byte, i+1)}, {sent: []byte{byte(i + 1)}},
		} {
			if p := b.port(); !p.Same(New()) {
				few = append(few, p)
			}
		}
	}
	for _, b := range []*book{{}, {fifo: true}, {lost: true}, {empty: true}, {queue: []byte{0}}, {fifo: true, queue: []byte{1, 2}}, {fifo: true, queue: []byte{2, 1}}} {
		few = append(few, b.port())
	}
	if len(few) != 4+8+5+8+8+8+8+8+8+8+7 {
		t.Fatal(len(few))
	}
	for i, a := range few {
		for j, b := range few {
			if a.Same(b) != (i == j) {
				t.Fatal(i, j)
			}
		}
		if !a.Same(a.Clone()) || a.Same(nil) {
			t.Fatal(i)
		}
	}
}

// P17.2: nothing is left of what was undone; how a queue became empty isn't seen.
func TestSameUndone(t *testing.T) {
	p := New()
	p.Write(2, 1)
	for i := range 17 {
		p.Input(byte(i))
	}
	p.Read(0)
	p.Read(5)
	p.Write(2, 0)
	p.Input(1)
	p.Read(0)
	p.Write(1, 2)
	p.Read(2)
	for off := uint64(1); off < 8; off++ {
		p.Write(off, 0)
	}
	if !p.Same(New()) || !New().Same(p) {
		t.Fatal(*p)
	}
}

// P3: results are new memory, also behind their ends.
func TestResultsApart(t *testing.T) {
	x := pair(t)
	x.write(2, 1)
	for i := range 11 {
		x.write(0, byte(i))
		x.input(byte(i))
	}
	x.read(0)
	for _, ask := range []func() []byte{x.p.Waiting, x.p.Out} {
		l, o := ask(), ask()
		for i := range l {
			l[i] = 99
		}
		_ = append(l, 98, 97, 96)
		if bytes.Equal(l, o) {
			t.Fatal(l)
		}
		x.same()
	}
	l, o := x.p.Waiting(), x.p.Out()
	x.write(0, 55)
	x.input(55)
	x.read(0)
	if len(l) != 10 || l[0] != 1 || len(o) != 11 || o[0] != 0 {
		t.Fatal(l, o)
	}
}

// P17.1 and P17.2: to look at a port doesn't change it.
func TestLooks(t *testing.T) {
	for _, b := range many() {
		x := of(t, b)
		for range 3 {
			x.p.Line()
			x.p.Waiting()
			x.p.Out()
			x.p.Clone()
			x.p.Same(New())
		}
		x.same()
	}
}

// P17.1 to P17.3: long rows of calls, in orders that are the same each time.
func TestRows(t *testing.T) {
	r := rand.New(rand.NewPCG(17, 3))
	few := []byte{0, 1, 2, 3, 4, 5, 7, 15, 16, 31, 128, 255}
	for range 400 {
		x := pair(t)
		for range 120 {
			off := uint64(r.IntN(8))
			c := few[r.IntN(len(few))]
			switch r.IntN(8) {
			case 0, 1:
				x.read(off)
			case 2:
				x.write(off, c)
			case 3:
				// The bits that hide much are on for a short while.
				x.write(3, c&127)
				x.write(4, c&15)
			case 4, 5:
				x.input(byte(r.IntN(256)))
			case 6:
				x.write(0, byte(r.IntN(256)))
			case 7:
				x.write(1, c)
			}
			x.same()
		}
	}
}

// Promises: a nil port returns 0, false, nothing and nil, and is the same as another nil port.
func TestNil(t *testing.T) {
	var p *Port
	for off := range uint64(10) {
		if c, ok := p.Read(off); c != 0 || ok || p.Write(off, 1) {
			t.Fatal(off)
		}
	}
	if p.Input(1) || p.Line() || p.Waiting() != nil || p.Out() != nil || p.Clone() != nil {
		t.Fatal("nil")
	}
	if !p.Same(nil) || p.Same(New()) || New().Same(nil) {
		t.Fatal("Same")
	}
}
