package plic

import (
	"math"
	"testing"
)

const ones = ^uint64(0)

// The offsets, as the chapter's table has them.
const (
	waitsOff = 4096
	onOff    = 8192
	levelOff = 2097152
	claimOff = 2097156
)

// strangers are numbers of no source, of no context, and wrong numbers of harts.
var strangers = []int{math.MinInt, math.MinInt + 1, -1 << 32, -1<<32 + 1, -1<<32 + 5, -31, -8, -1, 32, 33, 64, 65, 69, 255, 256, 257, 1 << 31, 1 << 32, 1<<32 + 1, 1<<32 + 5, math.MaxInt}

// sizes are sizes of all kinds, the right one among them.
var sizes = []int{math.MinInt, -1 << 32, -8, -4, -1, 0, 1, 2, 3, 4, 5, 6, 7, 8, 12, 16, 32, 1 << 32, 1<<32 + 4, math.MaxInt}

// at is what a register is: what it has, and of which source or context.
type at struct {
	what string
	n    int
}

// table is the registers that some harts have, at their offsets, as the chapter's table lists them.
func table(harts int) map[uint64]at {
	out := map[uint64]at{}
	if harts < 1 || harts > 8 {
		return out
	}
	for i := 1; i <= 31; i++ {
		out[uint64(4*i)] = at{"priority", i}
	}
	out[waitsOff] = at{"pending", 0}
	for c := range 2 * harts {
		out[onOff+128*uint64(c)] = at{"enable", c}
		out[levelOff+4096*uint64(c)] = at{"threshold", c}
		out[claimOff+4096*uint64(c)] = at{"claim", c}
	}
	return out
}

// set is sources, each by its number.
type set [32]bool

// word is a set as a word.
func (s set) word() uint64 {
	sum, worth := uint64(0), uint64(1)
	for i := range 32 {
		if s[i] {
			sum += worth
		}
		worth *= 2
	}
	return sum
}

// book is a controller as the chapter's words have it, source by source.
type book struct {
	harts               int
	wire, waits, served set
	prio                [32]uint64
	on                  [16]set
	level               [16]uint64
}

// best is the claimed source by the chapter's words: the greatest priority from 7 down to 1, and for each the smallest number.
func (b *book) best(c int) int {
	for prio := uint64(7); prio >= 1; prio-- {
		for i := 1; i <= 31; i++ {
			if b.waits[i] && b.on[c][i] && b.prio[i] == prio {
				return i
			}
		}
	}
	return 0
}

func (b *book) read(r at) uint64 {
	switch r.what {
	case "priority":
		return b.prio[r.n]
	case "pending":
		return b.waits.word()
	case "enable":
		return b.on[r.n].word()
	case "threshold":
		return b.level[r.n]
	}
	i := b.best(r.n)
	if i > 0 {
		b.waits[i], b.served[i] = false, true
	}
	return uint64(i)
}

func (b *book) write(r at, v uint64) {
	switch r.what {
	case "priority":
		b.prio[r.n] = v % 8
	case "enable":
		for i := 1; i <= 31; i++ {
			v /= 2
			b.on[r.n][i] = v%2 == 1
		}
	case "threshold":
		b.level[r.n] = v % 8
	case "claim":
		i := v % (1 << 32)
		if i >= 1 && i <= 31 && b.on[r.n][i] && b.served[i] {
			b.served[i] = false
			b.waits[i] = b.wire[i]
		}
	}
}

func (b *book) setWire(source int, on bool) bool {
	if source < 1 || source > 31 {
		return false
	}
	b.wire[source] = on
	if on && !b.served[source] {
		b.waits[source] = true
	}
	return true
}

func (b *book) line(c int) bool {
	for i := 1; i <= 31; i++ {
		if b.waits[i] && b.on[c][i] && b.prio[i] > b.level[c] {
			return true
		}
	}
	return false
}

// plic is a controller made from a book alone, with no more behind it than what it takes.
func (b *book) plic() Plic {
	p := New(b.harts)
	for i := 1; i <= 31; i++ {
		if b.waits[i] || b.served[i] {
			p.Wire(i, true)
		}
		if b.served[i] {
			p.Write(uint64(4*i), 4, 1)
			p.Write(onOff, 4, 1<<i)
			p.Read(claimOff, 4)
		}
		p.Wire(i, b.wire[i])
	}
	for off, r := range table(b.harts) {
		if r.what != "claim" && r.what != "pending" {
			p.Write(off, 4, b.read(r))
		}
	}
	return p
}

// isBook compares all that a controller tells with a book, without a claim.
func isBook(t *testing.T, p *Plic, b *book) {
	t.Helper()
	for off, r := range table(b.harts) {
		if r.what == "claim" {
			continue
		}
		if v, ok := p.Read(off, 4); v != b.read(r) || !ok {
			t.Fatalf("Read(%d): got %d %v, want %d", off, v, ok, b.read(r))
		}
	}
	if p.Waits() != b.waits.word() || p.Served() != b.served.word() {
		t.Fatalf("got %x %x, want %x %x", p.Waits(), p.Served(), b.waits.word(), b.served.word())
	}
	for c := -2; c < 20; c++ {
		want := c >= 0 && c < 2*b.harts && b.line(c)
		if p.Line(c) != want {
			t.Fatalf("Line(%d): got %v", c, !want)
		}
	}
	if p.Waits()&p.Served() != 0 || b.wire.word()&^(p.Waits()|p.Served()) != 0 {
		t.Fatalf("wires %x, waits %x, served %x", b.wire.word(), p.Waits(), p.Served())
	}
	if *p != b.plic() {
		t.Fatalf("%v isn't the controller of %v", *p, b)
	}
}

// isNone wants that a controller has no registers, no sources and no contexts, whatever is done with it.
func isNone(t *testing.T, p *Plic) {
	t.Helper()
	for i := -1; i <= 32; i++ {
		if p.Wire(i, true) || p.Wire(i, false) {
			t.Fatal("Wire", i)
		}
	}
	for off := range table(8) {
		if p.Write(off, 4, ones) {
			t.Fatal("Write", off)
		}
		if v, ok := p.Read(off, 4); v != 0 || ok {
			t.Fatal("Read", off, v, ok)
		}
	}
	if p.Waits() != 0 || p.Served() != 0 {
		t.Fatal(p.Waits(), p.Served())
	}
	for c := -1; c <= 16; c++ {
		if p.Line(c) {
			t.Fatal("Line", c)
		}
	}
	for _, n := range strangers {
		if p.Wire(n, true) || p.Line(n) {
			t.Fatal(n)
		}
	}
}

// both has a controller and its book do the same, and wants the same answers.
type both struct {
	t *testing.T
	p Plic
	b book
}

func pair(t *testing.T, harts int) *both {
	return &both{t: t, p: New(harts), b: book{harts: harts}}
}

// write writes a register.
func (x *both) write(off, v uint64) {
	x.t.Helper()
	r, want := table(x.b.harts)[off]
	if want {
		x.b.write(r, v)
	}
	if x.p.Write(off, 4, v) != want {
		x.t.Fatal("Write", off, v)
	}
}

// read reads a register, which for claim is a claim.
func (x *both) read(off uint64) uint64 {
	x.t.Helper()
	var want uint64
	r, is := table(x.b.harts)[off]
	if is {
		want = x.b.read(r)
	}
	if v, ok := x.p.Read(off, 4); v != want || ok != is {
		x.t.Fatalf("Read(%d): got %d %v, want %d", off, v, ok, want)
	}
	return want
}

func (x *both) wire(source int, on bool) {
	x.t.Helper()
	if want := x.b.setWire(source, on); x.p.Wire(source, on) != want {
		x.t.Fatal("Wire", source, on)
	}
}

// same compares all.
func (x *both) same() {
	x.t.Helper()
	isBook(x.t, &x.p, &x.b)
}
