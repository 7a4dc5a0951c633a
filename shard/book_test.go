package shard

import (
	"bytes"
	"slices"
	"testing"

	"roebuck/api"
	"roebuck/resv"
)

const base = api.RamBase

const ones = ^uint64(0)

// book is memory as the chapter's words have it, byte by byte: the bytes, and the line of each hart that has a reservation.
type book struct {
	conf  api.Conf
	bytes []byte
	lines map[int]uint64
}

func newBook(c api.Conf) *book {
	return &book{conf: c, bytes: make([]byte, 64*c.Lines), lines: map[int]uint64{}}
}

// places is the addresses of the bytes of an ask, whose size is from 1 to 8, the first byte's first.
func places(a api.Ask) []uint64 {
	var out []uint64
	for i := range a.Size {
		if a.Cut == 0 || i < a.Cut {
			out = append(out, a.Addr+uint64(i))
		} else {
			out = append(out, a.Next+uint64(i-a.Cut))
		}
	}
	return out
}

// linesOf is the lines of the bytes of an ask, ascending, each once.
func linesOf(a api.Ask) []uint64 {
	var out []uint64
	for _, p := range places(a) {
		out = append(out, p/64)
	}
	slices.Sort(out)
	return slices.Compact(out)
}

// in tells whether an op is in a range of the table of chapter 3.
func in(op, first, last api.Op) bool { return first <= op && op <= last }

// sizeFor is the size that an ask other than a load or a store must have; 0 if its kind or its op isn't right.
func sizeFor(k api.Kind, op api.Op) int {
	switch {
	case k == api.Fetch:
		return 4
	case k == api.Walk, k == api.Mark:
		return 8
	case k == api.Amo && in(op, api.AmoswapW, api.AmomaxuW), k == api.Lr && op == api.LrW, k == api.Sc && op == api.ScW:
		return 4
	case k == api.Amo && in(op, api.AmoswapD, api.AmomaxuD), k == api.Lr && op == api.LrD, k == api.Sc && op == api.ScD:
		return 8
	}
	return 0
}

// may tells whether an ask is valid.
func (b *book) may(a api.Ask) bool {
	if a.Size != 1 && a.Size != 2 && a.Size != 4 && a.Size != 8 {
		return false
	}
	if a.Kind == api.Load || a.Kind == api.Store {
		if a.Cut < 0 || a.Cut >= a.Size {
			return false
		}
	} else if a.Size != sizeFor(a.Kind, a.Op) || a.Cut != 0 || a.Addr%uint64(a.Size) != 0 {
		return false
	}
	for _, p := range places(a) {
		if p < base || p >= base+uint64(len(b.bytes)) {
			return false
		}
	}
	return true
}

// needs is the stripes of an ask.
func (b *book) needs(a api.Ask) []int {
	if !b.may(a) {
		return nil
	}
	var out []int
	for stripe := range b.conf.Stripes {
		for _, line := range linesOf(a) {
			if line%uint64(b.conf.Stripes) == uint64(stripe) && !slices.Contains(out, stripe) {
				out = append(out, stripe)
			}
		}
	}
	return out
}

func (b *book) number(a api.Ask) uint64 {
	var v uint64
	for i, p := range places(a) {
		v |= uint64(b.bytes[p-base]) << (8 * i)
	}
	return v
}

// write lays a number, byte by byte, and kills its lines but for the hart.
func (b *book) write(hart int, a api.Ask, v uint64) {
	for i, p := range places(a) {
		b.bytes[p-base] = byte(v >> (8 * i))
	}
	for _, line := range linesOf(a) {
		for other := range 8 {
			if at, ok := b.lines[other]; ok && at == line && other != hart {
				delete(b.lines, other)
			}
		}
	}
}

// do is a request as the chapter's table has it.
func (b *book) do(hart int, a api.Ask) (api.Answer, bool) {
	if !b.may(a) || hart < 0 || hart >= b.conf.Harts {
		return api.Answer{}, false
	}
	was := b.number(a)
	switch a.Kind {
	case api.Store:
		b.write(hart, a, a.Data)
		return api.Answer{}, true
	case api.Amo:
		b.write(hart, a, atomic(a.Op, was, a.Data))
	case api.Lr:
		b.lines[hart] = a.Addr / 64
	case api.Sc:
		at, ok := b.lines[hart]
		delete(b.lines, hart)
		if !a.Live || !ok || at != a.Addr/64 {
			return api.Answer{}, true
		}
		b.write(hart, a, a.Data)
		return api.Answer{Good: true}, true
	case api.Mark:
		if was != a.Old {
			return api.Answer{Data: was}, true
		}
		b.write(hart, a, a.Data)
		return api.Answer{Data: was, Good: true}, true
	}
	return api.Answer{Data: was}, true
}

// atomic is what an AMO leaves, by the table of chapter 8: 32-bit ops work on numbers of type int32 and uint32.
func atomic(op api.Op, m, x uint64) uint64 {
	if in(op, api.AmoswapW, api.AmomaxuW) {
		u, v := uint32(m), uint32(x)
		return uint64([]uint32{v, u + v, u ^ v, u & v, u | v, uint32(min(int32(u), int32(v))), uint32(max(int32(u), int32(v))), min(u, v), max(u, v)}[op-api.AmoswapW])
	}
	return []uint64{x, m + x, m ^ x, m & x, m | x, uint64(min(int64(m), int64(x))), uint64(max(int64(m), int64(x))), min(m, x), max(m, x)}[op-api.AmoswapD]
}

// table is the book's reservations.
func (b *book) table() resv.Table {
	var x resv.Table
	for hart, line := range b.lines {
		x.Set(hart, line)
	}
	return x
}

// isBook compares what memory holds with a book.
func isBook(t *testing.T, s *Shard, b *book, args ...any) {
	t.Helper()
	var got []byte
	for i := range s.Ram().Lines() {
		l := s.Ram().Line(i)
		got = append(got, l[:]...)
	}
	if !bytes.Equal(got, b.bytes) {
		t.Fatalf("%v: got bytes %v, want %v", args, got, b.bytes)
	}
	if s.Table() != b.table() {
		t.Fatalf("%v: got reservations %v, want %v", args, s.Table(), b.table())
	}
	if s.Conf() != b.conf {
		t.Fatalf("%v: got %v, want %v", args, s.Conf(), b.conf)
	}
}

func fresh(t *testing.T, c api.Conf) *Shard {
	t.Helper()
	s, e := New(c)
	if s == nil || e != api.OK {
		t.Fatal(c, e)
	}
	return s
}

// both does a request in memory and in a book, and compares the answers.
func both(t *testing.T, s *Shard, b *book, hart int, a api.Ask) (api.Answer, bool) {
	t.Helper()
	got, ok := s.Do(hart, a)
	if want, is := b.do(hart, a); got != want || ok != is {
		t.Fatalf("hart %d, %+v: got %+v %v, want %+v %v", hart, a, got, ok, want, is)
	}
	return got, ok
}

// pair is memory and a book with the same bytes, few of which are 0, and the same reservations.
func pair(t *testing.T, c api.Conf) (*Shard, *book) {
	t.Helper()
	s, b := fresh(t, c), newBook(c)
	for i := range b.bytes {
		b.bytes[i] = byte(i*37 + i/64 + 1)
	}
	if !s.Ram().Fill(base, b.bytes) {
		t.Fatal("fill")
	}
	for hart := range c.Harts {
		both(t, s, b, hart, api.Ask{Kind: api.Lr, Addr: base + uint64(hart%c.Lines)*64, Size: 8, Op: api.LrD})
	}
	isBook(t, s, b)
	return s, b
}
