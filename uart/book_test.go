package uart

import (
	"slices"
	"testing"
)

const ones = ^uint64(0)

// book is a port as the chapter's words have it: registers with their bits, 1 or 0, and bytes.
type book struct {
	ier, lcr, mcr, scr [8]int
	dll, dlm           byte
	fifo, lost, empty  bool
	queue, sent        []byte
}

// bits is a byte bit by bit, the first one of worth 1; only the lowest ones are taken.
func bits(b byte, n int) [8]int {
	var out [8]int
	for i := range n {
		out[i] = int(b) % 2
		b /= 2
	}
	return out
}

// sum is a byte of such bits.
func sum(l [8]int) byte {
	all := 0
	for i, worth := range []int{1, 2, 4, 8, 16, 32, 64, 128} {
		all += worth * l[i]
	}
	return byte(all)
}

// receive is that a byte is received.
func (b *book) receive(c byte) bool {
	if b.fifo && len(b.queue) == 16 || !b.fifo && len(b.queue) == 1 {
		b.lost = true
		return false
	}
	b.queue = append(b.queue, c)
	return true
}

func (b *book) input(c byte) bool {
	if b.mcr[4] == 1 {
		return false
	}
	return b.receive(c)
}

// cause is the value at offset 2 without the 192, of which nothing is cleared.
func (b *book) cause() byte {
	if b.ier[2] == 1 && b.lost {
		return 6
	}
	if b.ier[0] == 1 && len(b.queue) > 0 {
		return 4
	}
	if b.ier[1] == 1 && b.empty {
		return 2
	}
	return 1
}

func (b *book) first() byte {
	if len(b.queue) == 0 {
		return 0
	}
	c := b.queue[0]
	b.queue = slices.Clone(b.queue[1:])
	return c
}

func (b *book) tellCause() byte {
	c := b.cause()
	if c == 2 {
		b.empty = false
	}
	if b.fifo {
		return c + 192
	}
	return c
}

func (b *book) tellLine() byte {
	c := byte(96)
	if len(b.queue) > 0 {
		c++
	}
	if b.lost {
		c += 2
		b.lost = false
	}
	return c
}

func (b *book) modem() byte {
	if b.mcr[4] == 0 {
		return 176
	}
	return byte(16*b.mcr[1] + 32*b.mcr[0] + 64*b.mcr[2] + 128*b.mcr[3])
}

// read is the table's second column.
func (b *book) read(off uint64) byte {
	if b.lcr[7] == 1 && off == 0 {
		return b.dll
	}
	if b.lcr[7] == 1 && off == 1 {
		return b.dlm
	}
	return []func() byte{
		b.first,
		func() byte { return sum(b.ier) },
		b.tellCause,
		func() byte { return sum(b.lcr) },
		func() byte { return sum(b.mcr) },
		b.tellLine,
		b.modem,
		func() byte { return sum(b.scr) },
	}[off]()
}

// transmit is what is written at offset 0 while bit 7 of LCR is 0.
func (b *book) transmit(c byte) {
	if b.mcr[4] == 1 {
		b.receive(c)
	} else {
		b.sent = append(b.sent, c)
	}
	b.empty = true
}

// write is the table's third column.
func (b *book) write(off uint64, c byte) {
	switch off {
	case 0:
		if b.lcr[7] == 1 {
			b.dll = c
		} else {
			b.transmit(c)
		}
	case 1:
		if b.lcr[7] == 1 {
			b.dlm = c
			return
		}
		was := b.ier[1]
		b.ier = bits(c, 4)
		if b.ier[1] == 1 && was == 0 {
			b.empty = true
		}
	case 2:
		was := b.fifo
		b.fifo = c%2 == 1
		if b.fifo != was || bits(c, 8)[1] == 1 {
			b.queue = nil
		}
	case 3:
		b.lcr = bits(c, 8)
	case 4:
		b.mcr = bits(c, 5)
	case 7:
		b.scr = bits(c, 8)
	}
}

// clone is the book by itself.
func (b *book) clone() book {
	c := *b
	c.queue, c.sent = slices.Clone(b.queue), slices.Clone(b.sent)
	return c
}

// port is a port made from a book alone, by calls that leave nothing else behind.
func (b *book) port() *Port {
	p := New()
	for _, c := range b.sent {
		p.Write(0, c)
	}
	// What was sent set Empty, which a look at the cause clears.
	p.Write(1, 2)
	p.Read(2)
	if b.fifo {
		p.Write(2, 1)
	}
	if b.lost {
		for range 17 {
			p.Input(0)
		}
		p.Write(2, b.fifoByte()+2)
	}
	for _, c := range b.queue {
		p.Input(c)
	}
	if b.empty {
		p.Write(1, 0)
		p.Write(1, 2)
	}
	p.Write(3, 128)
	p.Write(0, b.dll)
	p.Write(1, b.dlm)
	p.Write(3, 0)
	b.last(p)
	return p
}

// fifoByte is Fifo as bit 0.
func (b *book) fifoByte() byte {
	if b.fifo {
		return 1
	}
	return 0
}

// last sets a port's registers of which the effect of the other ones hangs. Bit 1 of its IER is 1, and stays so or goes off: Empty stays as it is.
func (b *book) last(p *Port) {
	p.Write(1, sum(b.ier))
	p.Write(3, sum(b.lcr))
	p.Write(4, sum(b.mcr))
	p.Write(7, sum(b.scr))
}

// both has a port and its book do the same, and wants the same answers.
type both struct {
	t *testing.T
	p *Port
	b book
}

func pair(t *testing.T) *both {
	return &both{t: t, p: New()}
}

// of has a port for a book, made by calls.
func of(t *testing.T, b book) *both {
	return &both{t: t, p: b.port(), b: b.clone()}
}

func (x *both) read(off uint64) byte {
	x.t.Helper()
	want := x.b.read(off)
	if c, ok := x.p.Read(off); c != want || !ok {
		x.t.Fatalf("Read(%d): got %d %v, want %d", off, c, ok, want)
	}
	return want
}

func (x *both) write(off uint64, c byte) {
	x.t.Helper()
	x.b.write(off, c)
	if !x.p.Write(off, c) {
		x.t.Fatalf("Write(%d, %d)", off, c)
	}
}

func (x *both) input(c byte) bool {
	x.t.Helper()
	want := x.b.input(c)
	if x.p.Input(c) != want {
		x.t.Fatalf("Input(%d): got %v", c, !want)
	}
	return want
}

// same compares all that can be asked without a change, and then, of copies, what every register tells, twice.
func (x *both) same() {
	x.t.Helper()
	if x.p.Line() != (x.b.cause() != 1) {
		x.t.Fatalf("Line: got %v, %+v", x.p.Line(), x.b)
	}
	if !slices.Equal(x.p.Waiting(), x.b.queue) || !slices.Equal(x.p.Out(), x.b.sent) {
		x.t.Fatalf("got %v %v, want %v %v", x.p.Waiting(), x.p.Out(), x.b.queue, x.b.sent)
	}
	if o := x.b.port(); !x.p.Same(o) || !o.Same(x.p) {
		x.t.Fatalf("%+v isn't the port of %+v", *x.p, x.b)
	}
	y := &both{t: x.t, p: x.p.Clone(), b: x.b.clone()}
	for range 2 {
		for off := range uint64(8) {
			y.read(off)
		}
	}
}
