package shard

import (
	"math"
	"slices"
	"testing"

	"roebuck/api"
	"roebuck/resv"
	"roebuck/split"
)

// strangers are numbers of no hart of a machine with few of them.
var strangers = []int{math.MinInt, math.MinInt + 1, -1 << 32, -1, 3, 4, 7, 8, 9, 256, 1 << 32, 1<<32 + 1, math.MaxInt}

// kinds are all kinds, and numbers of none.
func kinds() []api.Kind {
	out := []api.Kind{math.MinInt, -1 << 32, 1 << 32, 1<<32 + 2, 257, 258, math.MaxInt}
	for k := api.Kind(-3); k <= api.Wire+3; k++ {
		out = append(out, k)
	}
	return out
}

// ops are all ops, and numbers of none.
func ops() []api.Op {
	out := []api.Op{math.MinInt, -1, 1 << 32, 1<<32 + api.LrW, math.MaxInt}
	for op := api.NoOp; op <= api.Sfence+2; op++ {
		out = append(out, op)
	}
	return out
}

// edges are addresses around both ends of a memory and of its lines, and far ones.
func edges(lines int) []uint64 {
	out := []uint64{0, 1, 8, api.ClintBase, base - 64, base + 1<<32, base + 1<<63, 1 << 63, ones - base + 1}
	for i := -9; i <= 9; i++ {
		out = append(out, uint64(i), base+uint64(i), base+64+uint64(i), base+uint64(lines)*64+uint64(i))
	}
	slices.Sort(out)
	return slices.Compact(out)
}

// valid is a valid ask of each kind and op, at the begin of a memory.
func valid() []api.Ask {
	out := []api.Ask{{Kind: api.Fetch, Addr: base, Size: 4}, {Kind: api.Walk, Addr: base, Size: 8}, {Kind: api.Mark, Addr: base, Size: 8}}
	for _, n := range []int{1, 2, 4, 8} {
		out = append(out, api.Ask{Kind: api.Load, Addr: base, Size: n}, api.Ask{Kind: api.Store, Addr: base, Size: n})
	}
	for op := api.LrW; op <= api.AmomaxuD; op++ {
		for _, k := range []api.Kind{api.Amo, api.Lr, api.Sc} {
			if n := sizeFor(k, op); n != 0 {
				out = append(out, api.Ask{Kind: k, Addr: base, Size: n, Op: op})
			}
		}
	}
	return out
}

// P14.1: each number of a configuration at its ends and outside of them.
func TestRightAndNew(t *testing.T) {
	all := func(c api.Conf) [4]int { return [4]int{c.Harts, c.Stripes, c.Lines, c.Tlb} }
	most := [4]int{8, 64, 4096, 32}
	for field, top := range most {
		for _, n := range []int{1, 2, top - 1, top, top + 1, top + 2, 0, -1, -2, -top, 5000, 1 << 32, 1<<32 + 1, math.MinInt, math.MinInt + 1, math.MaxInt} {
			for _, rest := range [][4]int{{1, 1, 1, 1}, {3, 5, 7, 9}, most} {
				rest[field] = n
				c := api.Conf{Harts: rest[0], Stripes: rest[1], Lines: rest[2], Tlb: rest[3]}
				want := n >= 1 && n <= top
				if Right(c) != want {
					t.Fatal(c)
				}
				s, e := New(c)
				if (s != nil) != want || (e == api.OK) != want || !want && e != api.ErrArg {
					t.Fatal(c, s, e)
				}
				if all(s.Conf()) != rest && want {
					t.Fatal(s.Conf())
				}
			}
		}
	}
	for _, c := range []api.Conf{{}, {Harts: 9, Stripes: 1, Lines: 1, Tlb: 1}, {Harts: -1, Stripes: -1, Lines: -1, Tlb: -1}, {Harts: 9, Stripes: 65, Lines: 4097, Tlb: 33}} {
		if s, e := New(c); s != nil || e != api.ErrArg || Right(c) {
			t.Fatal(c, e)
		}
	}
}

// Terms: initially all bytes are 0, and there are no reservations.
func TestInitially(t *testing.T) {
	for _, c := range []api.Conf{{Harts: 1, Stripes: 1, Lines: 1, Tlb: 1}, {Harts: 8, Stripes: 64, Lines: 4096, Tlb: 32}, {Harts: 2, Stripes: 4, Lines: 9, Tlb: 3}} {
		isBook(t, fresh(t, c), newBook(c))
	}
}

// P14.1: Ram is the ram itself, Table is a copy.
func TestRamAndTable(t *testing.T) {
	c := api.Conf{Harts: 2, Stripes: 4, Lines: 2, Tlb: 1}
	s := fresh(t, c)
	if s.Ram() != s.Ram() || s.Ram().Lines() != 2 || !s.Ram().Store(base+62, 4, 0x11223344) {
		t.Fatal("ram")
	}
	if b, ok := s.Do(1, api.Ask{Kind: api.Load, Addr: base + 62, Size: 4}); b.Data != 0x11223344 || !ok {
		t.Fatal(b, ok)
	}
	s.Do(0, api.Ask{Kind: api.Store, Addr: base + 8, Size: 1, Data: 7})
	if v, ok := s.Ram().Load(base+8, 1); v != 7 || !ok {
		t.Fatal(v, ok)
	}
	s.Do(1, api.Ask{Kind: api.Lr, Addr: base + 64, Size: 4, Op: api.LrW})
	x := s.Table()
	if at, ok := x.Of(1); at != base/64+1 || !ok {
		t.Fatal(at, ok)
	}
	x.Clear(1)
	x.Set(0, 5)
	if y := s.Table(); y.Has(0, 5) || !y.Has(1, base/64+1) {
		t.Fatal(y)
	}
}

// Ways: memory has the ram's methods.
func TestPromoted(t *testing.T) {
	s, _ := pair(t, api.Conf{Harts: 2, Stripes: 4, Lines: 3, Tlb: 1})
	if v, ok := s.Load(base, 1); v != 1 || !ok || s.Lines() != 3 || !s.Same(s.Ram()) || !s.Has(base+191, 1) || s.Has(base+192, 1) {
		t.Fatal(v, ok)
	}
}

// P14.1: a clone has all that memory has, and neither changes the other.
func TestClone(t *testing.T) {
	s, b := pair(t, api.Conf{Harts: 3, Stripes: 4, Lines: 2, Tlb: 5})
	c, d := s.Clone(), newBook(b.conf)
	copy(d.bytes, b.bytes)
	for hart, line := range b.lines {
		d.lines[hart] = line
	}
	isBook(t, c, d)
	store := api.Ask{Kind: api.Store, Addr: base + 60, Size: 8, Data: ones}
	both(t, s, b, 0, store)
	isBook(t, c, d)
	both(t, c, d, 2, api.Ask{Kind: api.Lr, Addr: base + 64, Size: 8, Op: api.LrD})
	both(t, c, d, 1, api.Ask{Kind: api.Store, Addr: base, Size: 8, Data: 3})
	isBook(t, s, b)
	isBook(t, c, d)
	c.Ram().Store(base, 8, 77)
	s.Ram().Store(base+8, 8, 78)
	if v, _ := s.Ram().Load(base, 8); v == 77 {
		t.Fatal("clone's ram")
	}
	if v, _ := c.Ram().Load(base+8, 8); v == 78 {
		t.Fatal("ram")
	}
}

// P14.1: all kinds, sizes, cuts and places of loads and stores, and what they need.
func TestMayLoads(t *testing.T) {
	s := fresh(t, api.Conf{Harts: 1, Stripes: 3, Lines: 2, Tlb: 1})
	b := newBook(s.Conf())
	sizes := []int{math.MinInt, -8, -1, 0, 1, 2, 3, 4, 5, 6, 7, 8, 9, 16, 1<<32 + 1, math.MaxInt}
	cuts := []int{math.MinInt, -1, 0, 1, 2, 3, 4, 5, 6, 7, 8, 9, 1 << 32, 1<<32 + 1, math.MaxInt}
	nexts := []uint64{0, base - 1, base, base + 1, base + 60, base + 63, base + 64, base + 121, base + 124, base + 127, base + 128, ones - 2, ones}
	n := 0
	for _, k := range []api.Kind{api.Load, api.Store} {
		for _, size := range sizes {
			for _, cut := range cuts {
				for _, addr := range edges(2) {
					for _, next := range nexts {
						a := api.Ask{Kind: k, Addr: addr, Next: next, Cut: cut, Size: size}
						if may := b.may(a); s.May(a) != may || !slices.Equal(s.Needs(a), b.needs(a)) {
							t.Fatalf("%+v: got %v %v", a, s.May(a), s.Needs(a))
						} else if may {
							n++
						}
					}
				}
			}
		}
	}
	if n < 5000 {
		t.Fatal(n)
	}
}

// P14.1: all kinds with all ops, and sizes, cuts and places that are theirs or not.
func TestMayOthers(t *testing.T) {
	s := fresh(t, api.Conf{Harts: 1, Stripes: 64, Lines: 2, Tlb: 1})
	b := newBook(s.Conf())
	places := []uint64{0, base - 8, base - 4, base, base + 1, base + 2, base + 4, base + 6, base + 8, base + 60, base + 62, base + 64, base + 120, base + 124, base + 126, base + 128, ones - 7, ones - 3}
	for _, k := range kinds() {
		for _, op := range ops() {
			for _, size := range []int{math.MinInt, -4, 0, 1, 2, 3, 4, 8, 16, 1<<32 + 4} {
				for _, cut := range []int{math.MinInt, -1, 0, 1, 4} {
					for _, addr := range places {
						a := api.Ask{Kind: k, Addr: addr, Next: base + 64, Cut: cut, Size: size, Op: op}
						if s.May(a) != b.may(a) || !slices.Equal(s.Needs(a), b.needs(a)) {
							t.Fatalf("%+v: got %v %v", a, s.May(a), s.Needs(a))
						}
					}
				}
			}
		}
	}
}

// P14.1: the chapter's example, and as many stripes as there may be.
func TestNeeds(t *testing.T) {
	store := api.Ask{Kind: api.Store, Addr: base + 60, Size: 8}
	for _, x := range []struct {
		stripes int
		want    []int
	}{{4, []int{0, 1}}, {1, []int{0}}, {2, []int{0, 1}}, {64, []int{0, 1}}} {
		s := fresh(t, api.Conf{Harts: 1, Stripes: x.stripes, Lines: 4, Tlb: 1})
		if got := s.Needs(store); !slices.Equal(got, x.want) {
			t.Fatal(x, got)
		}
	}
	for stripes := 1; stripes <= 64; stripes++ {
		s := fresh(t, api.Conf{Harts: 1, Stripes: stripes, Lines: 4096, Tlb: 1})
		b := newBook(s.Conf())
		for i := range 260 {
			// The last lines stand for those in between.
			addr := base + uint64(i)*64
			if i >= 130 {
				addr += (4096 - 260) * 64
			}
			for _, a := range []api.Ask{{Kind: api.Fetch, Addr: addr, Size: 4}, {Kind: api.Load, Addr: addr + 61, Size: 4}, {Kind: api.Store, Addr: addr + 60, Next: base + 62, Cut: 5, Size: 8}} {
				if got, want := s.Needs(a), b.needs(a); !slices.Equal(got, want) {
					t.Fatal(stripes, a, got, want)
				}
			}
		}
	}
}

// P3: what is answered is new memory.
func TestNeedsAreNew(t *testing.T) {
	s := fresh(t, api.Conf{Harts: 1, Stripes: 4, Lines: 2, Tlb: 1})
	store := api.Ask{Kind: api.Store, Addr: base + 60, Size: 8}
	s.Needs(store)[0] = 9
	if got := s.Needs(store); !slices.Equal(got, []int{0, 1}) {
		t.Fatal(got)
	}
}

// P14.1: the four fields, for all kinds.
func TestAccess(t *testing.T) {
	for _, k := range kinds() {
		a := api.Ask{Kind: k, Addr: 62, Next: 4096, Cut: 2, Size: 4, Op: api.LrW, Data: 5, Old: 6, Live: true, Hart: 7}
		if got := Access(a); got != (split.Access{Addr: 62, Next: 4096, Cut: 2, Size: 4}) {
			t.Fatal(k, got)
		}
	}
	if got := Access(api.Ask{Addr: ones, Next: ones - 1, Cut: math.MinInt, Size: math.MaxInt}); got != (split.Access{Addr: ones, Next: ones - 1, Cut: math.MinInt, Size: math.MaxInt}) {
		t.Fatal(got)
	}
}

// P14.1: stores and AMOs always, Sc and Mark if they are Good, nothing else.
func TestWrites(t *testing.T) {
	for _, k := range kinds() {
		for _, good := range []bool{false, true} {
			want := k == api.Store || k == api.Amo || (k == api.Sc || k == api.Mark) && good
			if got := Writes(api.Ask{Kind: k}, api.Answer{Good: good, Data: 3}); got != want {
				t.Fatal(k, good, got)
			}
		}
	}
}

// Promises: nil memory returns a zero configuration, nil, false and nothing.
func TestNil(t *testing.T) {
	var s *Shard
	if s.Conf() != (api.Conf{}) || s.Ram() != nil || s.Table() != (resv.Table{}) || s.Clone() != nil {
		t.Fatal("nil")
	}
	for _, a := range append(valid(), api.Ask{}) {
		if s.May(a) || len(s.Needs(a)) != 0 {
			t.Fatal(a)
		}
		for _, hart := range append(slices.Clone(strangers), 0) {
			if b, ok := s.Do(hart, a); ok || b != (api.Answer{}) {
				t.Fatal(hart, a)
			}
		}
	}
}
