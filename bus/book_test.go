package bus

import (
	"bytes"
	"testing"

	"roebuck/api"
	"roebuck/clint"
	"roebuck/plic"
	"roebuck/uart"
)

const ones = ^uint64(0)

// The addresses of the devices.
const (
	clintAt = 33554432
	plicAt  = 201326592
	uartAt  = 268435456
)

// place is an address with a size.
type place struct {
	addr uint64
	size int
}

// table is the places of all registers that some harts have, as the devices' chapters list them.
func table(harts int) map[place]struct{} {
	out := map[place]struct{}{}
	if harts < 1 || harts > 8 {
		return out
	}
	add := func(addr uint64, sizes ...int) {
		for _, size := range sizes {
			out[place{addr, size}] = struct{}{}
		}
	}
	for h := range uint64(harts) {
		add(clintAt+4*h, 4)
		add(clintAt+16384+8*h, 4, 8)
		add(clintAt+16388+8*h, 4)
	}
	add(clintAt+49144, 4, 8)
	add(clintAt+49148, 4)
	for i := uint64(1); i <= 31; i++ {
		add(plicAt+4*i, 4)
	}
	add(plicAt+4096, 4)
	for c := range 2 * uint64(harts) {
		add(plicAt+8192+128*c, 4)
		add(plicAt+2097152+4096*c, 4)
		add(plicAt+2097156+4096*c, 4)
	}
	for i := range uint64(8) {
		add(uartAt+i, 1)
	}
	return out
}

// book is a bus as the chapter's words have it: three devices that know nothing of each other, and the wire.
type book struct {
	harts int
	clint clint.Clint
	plic  plic.Plic
	port  *uart.Port
}

func newBook(harts int) *book {
	return &book{harts: harts, clint: clint.New(harts), plic: plic.New(harts), port: uart.New()}
}

func (b *book) clone() *book {
	return &book{harts: b.harts, clint: b.clint, plic: b.plic, port: b.port.Clone()}
}

// lines is the interrupt lines of a hart, as a sum.
func (b *book) lines(hart int) uint64 {
	if hart < 0 || hart >= b.harts {
		return 0
	}
	sum := b.clint.Lines(hart)
	if b.plic.Line(2 * hart) {
		sum += 2048
	}
	if b.plic.Line(2*hart + 1) {
		sum += 512
	}
	return sum
}

// read reads what is at an address.
func (b *book) read(p place) uint64 {
	switch {
	case p.addr >= uartAt:
		c, _ := b.port.Read(p.addr - uartAt)
		return uint64(c)
	case p.addr >= plicAt:
		v, _ := b.plic.Read(p.addr-plicAt, p.size)
		return v
	}
	v, _ := b.clint.Read(p.addr-clintAt, p.size)
	return v
}

// write writes it.
func (b *book) write(p place, v uint64) {
	switch {
	case p.addr >= uartAt:
		b.port.Write(p.addr-uartAt, byte(v%256))
	case p.addr >= plicAt:
		b.plic.Write(p.addr-plicAt, p.size, v)
	default:
		b.clint.Write(p.addr-clintAt, p.size, v)
	}
}

// may is which requests are valid.
func (b *book) may(a api.Ask) bool {
	switch a.Kind {
	case api.DevRead, api.DevWrite:
		_, ok := table(b.harts)[place{a.Addr, a.Size}]
		return ok
	}
	return a.Kind == api.Poll || a.Kind == api.Tick || a.Kind == api.Input || a.Kind == api.Wire
}

// do is the effect of a request.
func (b *book) do(hart int, a api.Ask) (api.Answer, bool) {
	if !b.may(a) || a.Kind == api.Poll && (hart < 0 || hart >= b.harts) {
		return api.Answer{}, false
	}
	var out api.Answer
	switch a.Kind {
	case api.DevRead:
		out.Data = b.read(place{a.Addr, a.Size})
	case api.DevWrite:
		b.write(place{a.Addr, a.Size}, a.Data)
	case api.Poll:
		out.Data = b.lines(hart)
	case api.Tick:
		if a.Data < 1<<63 {
			b.clint.Tick(int(a.Data))
		}
	case api.Input:
		b.port.Input(byte(a.Data % 256))
	case api.Wire:
		if a.Size != 10 {
			b.plic.Wire(a.Size, a.Live)
		}
	}
	b.plic.Wire(10, b.port.Line())
	return out, true
}

// both has a bus and its book do the same, and wants the same answers.
type both struct {
	t *testing.T
	x *Bus
	b *book
}

func pair(t *testing.T, harts int) *both {
	t.Helper()
	x, e := New(harts)
	if x == nil || e != api.OK {
		t.Fatal(harts, e)
	}
	return &both{t: t, x: x, b: newBook(harts)}
}

// do does a request, and gives its number.
func (p *both) do(hart int, a api.Ask) uint64 {
	p.t.Helper()
	if p.x.May(a) != p.b.may(a) {
		p.t.Fatalf("May(%+v): got %v", a, p.x.May(a))
	}
	want, is := p.b.do(hart, a)
	if got, ok := p.x.Do(hart, a); got != want || ok != is {
		p.t.Fatalf("Do(%d, %+v): got %+v %v, want %+v %v", hart, a, got, ok, want, is)
	}
	return want.Data
}

func (p *both) read(addr uint64, size int) uint64 {
	p.t.Helper()
	return p.do(0, api.Ask{Kind: api.DevRead, Addr: addr, Size: size})
}

func (p *both) write(addr uint64, size int, v uint64) {
	p.t.Helper()
	p.do(0, api.Ask{Kind: api.DevWrite, Addr: addr, Size: size, Data: v})
}

func (p *both) input(c uint64) {
	p.t.Helper()
	p.do(0, api.Ask{Kind: api.Input, Data: c})
}

func (p *both) wire(source int, on bool) {
	p.t.Helper()
	p.do(0, api.Ask{Kind: api.Wire, Size: source, Live: on})
}

// clone is a copy of both.
func (p *both) clone() *both {
	return &both{t: p.t, x: p.x.Clone(), b: p.b.clone()}
}

// look compares all that can be asked without a change.
func (p *both) look() {
	p.t.Helper()
	for h := -2; h < 11; h++ {
		if got, want := p.x.Lines(h), p.b.lines(h); got != want {
			p.t.Fatalf("Lines(%d): got %d, want %d", h, got, want)
		}
	}
	if p.x.Time() != p.b.clint.Time() {
		p.t.Fatalf("Time: got %d, want %d", p.x.Time(), p.b.clint.Time())
	}
	if !bytes.Equal(p.x.Out(), p.b.port.Out()) || !bytes.Equal(p.x.Waiting(), p.b.port.Waiting()) {
		p.t.Fatal("Out or Waiting", p.x.Out(), p.x.Waiting())
	}
}

// same compares all, and of a copy what all registers tell, the contexts' claims too.
func (p *both) same() {
	p.t.Helper()
	p.look()
	y := p.clone()
	for off := range uint64(8) {
		y.read(uartAt+off, 1)
	}
	for r := range table(p.b.harts) {
		if r.addr < uartAt {
			y.read(r.addr, r.size)
		}
	}
	y.look()
	p.look()
}
