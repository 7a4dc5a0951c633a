package shard

import (
	"math/rand/v2"
	"testing"

	"roebuck/api"
)

var conf = api.Conf{Harts: 3, Stripes: 4, Lines: 3, Tlb: 2}

func link(addr uint64) api.Ask { return api.Ask{Kind: api.Lr, Addr: addr, Size: 8, Op: api.LrD} }

func conditional(addr uint64) api.Ask {
	return api.Ask{Kind: api.Sc, Addr: addr, Size: 8, Op: api.ScD, Data: 1, Live: true}
}

// P14.2: each kind, at each place, with numbers that fill it or not; nothing else is changed.
func TestDoEach(t *testing.T) {
	for _, v := range valid() {
		for _, off := range []uint64{0, 4, 8, 56, 59, 60, 61, 62, 63, 64, 124, 180, 184, 188, 191} {
			for _, data := range []uint64{0, 1, 0x8877665544332211, 1 << 31, 1<<63 | 5, ones} {
				s, b := pair(t, conf)
				a := v
				a.Addr, a.Data = base+off, data
				both(t, s, b, 1, a)
				isBook(t, s, b, a)
			}
		}
	}
}

// P14.2: numbers in two places, in up to four lines; where both places share bytes, the later bytes count.
func TestDoCut(t *testing.T) {
	for _, size := range []int{2, 4, 8} {
		for cut := 1; cut < size; cut++ {
			for _, at := range []uint64{0, 60, 63, 100, 124, 127, 185} {
				for _, next := range []uint64{0, 1, 59, 61, 63, 99, 101, 126, 184, 191} {
					s, b := pair(t, conf)
					a := api.Ask{Kind: api.Load, Addr: base + at, Next: base + next, Cut: cut, Size: size, Data: 0x8877665544332211}
					both(t, s, b, 0, a)
					a.Kind = api.Store
					both(t, s, b, 2, a)
					isBook(t, s, b, a)
				}
			}
		}
	}
}

// P14.2: nothing is done for no such hart, and for requests that aren't valid: an Sc then takes no reservation away.
func TestDoWrong(t *testing.T) {
	s, b := pair(t, conf)
	for _, a := range valid() {
		a.Data, a.Live = 99, true
		for _, hart := range strangers {
			if x, ok := both(t, s, b, hart, a); ok || x != (api.Answer{}) {
				t.Fatal(hart, a)
			}
		}
		for _, change := range []func(*api.Ask){
			func(x *api.Ask) { x.Size += 8 },
			func(x *api.Ask) { x.Size = -x.Size },
			func(x *api.Ask) { x.Cut = x.Size },
			func(x *api.Ask) { x.Cut = -1 },
			func(x *api.Ask) { x.Addr = base + 192 },
			func(x *api.Ask) { x.Addr = base - 8 },
			func(x *api.Ask) { x.Addr += 1 << 32 },
			func(x *api.Ask) { x.Kind += api.DevRead },
			func(x *api.Ask) { x.Kind = -x.Kind },
		} {
			wrong := a
			change(&wrong)
			if x, ok := both(t, s, b, 0, wrong); ok || x != (api.Answer{}) {
				t.Fatal(wrong)
			}
		}
	}
	isBook(t, s, b)
}

// P14.2: harts up to the last one that the configuration has, and none more.
func TestDoHarts(t *testing.T) {
	for harts := 1; harts <= 8; harts++ {
		s := fresh(t, api.Conf{Harts: harts, Stripes: 1, Lines: 1, Tlb: 1})
		for hart := -1; hart <= 8; hart++ {
			if _, ok := s.Do(hart, link(base)); ok != (hart >= 0 && hart < harts) {
				t.Fatal(harts, hart, ok)
			}
		}
	}
}

// P14.2: the chapter's example; the answer is the number as memory has it, without its sign.
func TestDoAmo(t *testing.T) {
	s := fresh(t, conf)
	add := api.Ask{Kind: api.Amo, Addr: base + 4, Size: 4, Op: api.AmoaddW, Data: 5}
	for i := range uint64(4) {
		if b, ok := s.Do(int(i%3), add); b != (api.Answer{Data: 5 * i}) || !ok {
			t.Fatal(i, b, ok)
		}
	}
	s.Ram().Store(base, 8, 1<<63|7)
	if b, _ := s.Do(0, add); b.Data != 1<<31 {
		t.Fatal(b)
	}
	if v, _ := s.Ram().Load(base, 8); v != (1<<31+5)<<32|7 {
		t.Fatal(v)
	}
	add.Data = ones
	if b, _ := s.Do(0, add); b.Data != 1<<31+5 {
		t.Fatal(b)
	}
	if v, _ := s.Ram().Load(base, 8); v != (1<<31+4)<<32|7 {
		t.Fatal(v)
	}
}

// P14.2: an Amo's 18 ops on one pair of numbers, with what chapter 8 says stands in memory then.
func TestDoAmoOps(t *testing.T) {
	const m, x = 0xfffffff680000006, 0x0000000300000003
	for i, want := range []uint64{3, 0x80000009, 0x80000005, 2, 0x80000007, 0x80000006, 3, 3, 0x80000006} {
		isAmo(t, api.AmoswapW+api.Op(i), 4, m, x, m&0xffffffff, m&^0xffffffff|want)
	}
	for i, want := range []uint64{x, 0xfffffff980000009, 0xfffffff580000005, 0x0000000200000002, 0xfffffff780000007, m, x, x, m} {
		isAmo(t, api.AmoswapD+api.Op(i), 8, m, x, m, want)
	}
}

func isAmo(t *testing.T, op api.Op, size int, m, x, loaded, want uint64) {
	t.Helper()
	s := fresh(t, conf)
	s.Ram().Store(base+64, 8, m)
	b, ok := s.Do(2, api.Ask{Kind: api.Amo, Addr: base + 64, Size: size, Op: op, Data: x})
	if v, _ := s.Ram().Load(base+64, 8); !ok || b != (api.Answer{Data: loaded}) || v != want {
		t.Fatalf("%d: got %x %x, want %x %x", op, b.Data, v, loaded, want)
	}
}

// P14.2: Good if the number is Old; otherwise nothing is written; the answer is the number that was there.
func TestDoMark(t *testing.T) {
	s, b := pair(t, conf)
	s.Ram().Store(base+8, 8, 1<<40)
	copy(b.bytes[8:], []byte{0, 0, 0, 0, 0, 1, 0, 0})
	for _, x := range []struct {
		old, data uint64
		want      api.Answer
	}{
		{1, 2, api.Answer{Data: 1 << 40}},
		{0, 2, api.Answer{Data: 1 << 40}},
		{1<<40 | 1<<63, 2, api.Answer{Data: 1 << 40}},
		{1 << 40, ones, api.Answer{Data: 1 << 40, Good: true}},
		{1 << 40, 3, api.Answer{Data: ones}},
		{ones, ones, api.Answer{Data: ones, Good: true}},
	} {
		a := api.Ask{Kind: api.Mark, Addr: base + 8, Size: 8, Old: x.old, Data: x.data}
		if got, _ := both(t, s, b, 1, a); got != x.want {
			t.Fatal(a, got)
		}
		isBook(t, s, b, a)
	}
}

// Terms: what writes the number kills its lines, also if the number stays as it is, but for the hart; what doesn't write kills nothing.
func TestKills(t *testing.T) {
	for _, v := range valid() {
		for _, right := range []bool{false, true} {
			s := fresh(t, conf)
			for hart := range 3 {
				s.Do(hart, link(base+uint64(hart%2)*64))
			}
			a := v
			a.Live = right
			if !right {
				a.Old = 5
			}
			b, _ := s.Do(0, a)
			x := s.Table()
			writes := a.Kind == api.Store || a.Kind == api.Amo || right && (a.Kind == api.Sc || a.Kind == api.Mark)
			if got, want := x.Has(0, base/64), a.Kind != api.Sc; got != want {
				t.Fatal("own", a, got)
			}
			if x.Has(2, base/64) == writes || !x.Has(1, base/64+1) || b.Good != (writes && a.Kind != api.Store && a.Kind != api.Amo) {
				t.Fatal("others", a, x, b)
			}
		}
	}
}

// Terms: a store into two lines, or into two places, kills all its lines.
func TestKillsAll(t *testing.T) {
	five := api.Conf{Harts: 5, Stripes: 1, Lines: 5, Tlb: 1}
	for _, x := range []struct {
		a      api.Ask
		killed [5]bool
	}{
		{api.Ask{Addr: base + 60, Size: 8}, [5]bool{true, true}},
		{api.Ask{Addr: base + 56, Size: 8}, [5]bool{true}},
		{api.Ask{Addr: base + 64, Size: 8}, [5]bool{false, true}},
		{api.Ask{Addr: base + 255, Size: 2}, [5]bool{false, false, false, true}},
		{api.Ask{Addr: base + 255, Next: base, Size: 2, Cut: 1}, [5]bool{true, false, false, true}},
		{api.Ask{Addr: base + 254, Next: base + 126, Size: 8, Cut: 4}, [5]bool{false, true, true, true}},
		{api.Ask{Addr: base + 190, Next: base + 62, Size: 8, Cut: 4}, [5]bool{true, true, true, true}},
	} {
		s := fresh(t, five)
		for hart := range 5 {
			s.Do(hart, link(base+64*uint64(hart)))
		}
		x.a.Kind = api.Store
		if _, ok := s.Do(4, x.a); !ok {
			t.Fatal(x)
		}
		table := s.Table()
		for hart, killed := range x.killed {
			if table.Has(hart, base/64+uint64(hart)) == killed {
				t.Fatal(x, hart)
			}
		}
	}
}

// P14.2: the lines of reservations are those of their addresses, and an Sc elsewhere in the line is Good.
func TestLinks(t *testing.T) {
	s := fresh(t, conf)
	for off := uint64(0); off < 192; off += 4 {
		a := api.Ask{Kind: api.Lr, Addr: base + off, Size: 4, Op: api.LrW}
		if _, ok := s.Do(1, a); !ok {
			t.Fatal(off)
		}
		x := s.Table()
		if at, ok := x.Of(1); !ok || at != (base+off)/64 {
			t.Fatal(off, at, ok)
		}
		for sc := uint64(0); sc < 192; sc += 8 {
			s.Do(1, a)
			if b, _ := s.Do(1, conditional(base+sc)); b != (api.Answer{Good: sc/64 == off/64}) {
				t.Fatal(off, sc, b)
			}
			if x := s.Table(); x.Has(1, (base+off)/64) {
				t.Fatal(off, sc)
			}
		}
	}
}

// P14.3: the chapter's example.
func TestExample(t *testing.T) {
	s := fresh(t, conf)
	s.Do(0, link(base))
	s.Do(1, api.Ask{Kind: api.Store, Addr: base + 32, Size: 1})
	if b, ok := s.Do(0, conditional(base)); b != (api.Answer{}) || !ok {
		t.Fatal(b, ok)
	}
	if v, _ := s.Ram().Load(base, 8); v != 0 {
		t.Fatal(v)
	}
	s.Do(0, link(base))
	for _, want := range []bool{true, false} {
		if b, ok := s.Do(0, conditional(base)); b != (api.Answer{Good: want}) || !ok {
			t.Fatal(b, ok)
		}
	}
	if v, _ := s.Ram().Load(base, 8); v != 1 {
		t.Fatal(v)
	}
}

// P14.3: without Live an Sc isn't Good, and takes the reservation away all the same.
func TestNotLive(t *testing.T) {
	s := fresh(t, conf)
	s.Do(0, link(base))
	dead := conditional(base)
	dead.Live = false
	for _, a := range []api.Ask{dead, conditional(base)} {
		if b, ok := s.Do(0, a); b != (api.Answer{}) || !ok {
			t.Fatal(a, b, ok)
		}
	}
	if v, _ := s.Ram().Load(base, 8); v != 0 {
		t.Fatal(v)
	}
}

// event is a request that was done, and its answer.
type event struct {
	hart int
	a    api.Ask
	b    api.Answer
}

// wrote tells whether an event wrote a number into a line.
func (e event) wrote(line uint64) bool {
	writes := e.a.Kind == api.Store || e.a.Kind == api.Amo || e.b.Good
	for _, l := range linesOf(e.a) {
		if l == line && writes {
			return true
		}
	}
	return false
}

// good tells from what was before whether an Sc must be Good, in the words of P14.3.
func good(before []event, hart int, a api.Ask) bool {
	for i := len(before) - 1; i >= 0; i-- {
		e := before[i]
		if e.hart == hart && e.a.Kind == api.Lr {
			return a.Live && e.a.Addr/64 == a.Addr/64
		}
		if e.hart == hart && e.a.Kind == api.Sc || e.hart != hart && e.wrote(a.Addr/64) {
			return false
		}
	}
	return false
}

// anyAsk is a request of any kind, mostly valid, with all fields that its kind ignores filled.
func anyAsk(r *rand.Rand, all []api.Ask) api.Ask {
	a := all[r.IntN(len(all))]
	if r.IntN(3) == 0 {
		a = []api.Ask{link(base), conditional(base), {Kind: api.Lr, Addr: base, Size: 4, Op: api.LrW}, {Kind: api.Sc, Addr: base, Size: 4, Op: api.ScW}}[r.IntN(4)]
	}
	a.Addr, a.Next = base+uint64(r.IntN(24))*8, base+uint64(r.IntN(200))
	switch r.IntN(8) {
	case 0:
		a.Addr += 4
	case 1:
		a.Addr += uint64(r.IntN(8))
	}
	if a.Kind == api.Load || a.Kind == api.Store {
		a.Addr += uint64(r.IntN(8))
		a.Cut = r.IntN(a.Size + 1)
		a.Op = api.Op(r.IntN(api.AllOps))
	}
	if a.Kind == api.Fetch || a.Kind == api.Walk || a.Kind == api.Mark {
		a.Op = api.Op(r.IntN(api.AllOps))
	}
	a.Data, a.Old, a.Live = r.Uint64(), uint64(r.IntN(2))*r.Uint64(), r.IntN(5) > 0
	a.Hart, a.Req, a.Entry = r.IntN(9), api.Req{Set: true, Va: r.Uint64()}, api.Entry{Page: r.Uint64()}
	return a
}

// P14.2, P14.3: long rows of requests, the same each time, against the book, and each Sc against what was before.
func TestRows(t *testing.T) {
	r := rand.New(rand.NewPCG(14, 3))
	all, seen := valid(), map[api.Kind][2]int{}
	for range 100 {
		s, b := fresh(t, conf), newBook(conf)
		var before []event
		for range 300 {
			hart, a := r.IntN(4), anyAsk(r, all)
			if a.Kind == api.Mark && r.IntN(2) == 0 && b.may(a) {
				a.Old = b.number(a)
			}
			x, ok := both(t, s, b, hart, a)
			if !ok {
				continue
			}
			if a.Kind == api.Sc && x.Good != good(before, hart, a) {
				t.Fatal(hart, a, x)
			}
			n := seen[a.Kind]
			n[map[bool]int{true: 1}[x.Good]]++
			seen[a.Kind] = n
			before = append(before, event{hart, a, x})
		}
		isBook(t, s, b)
	}
	for k := api.Fetch; k <= api.Mark; k++ {
		if seen[k][0] < 100 || (k == api.Sc || k == api.Mark) && seen[k][1] < 100 {
			t.Fatal("too few to tell", k, seen[k])
		}
	}
}

// P14.3: what an Amo answers is the number immediately before it writes.
func TestAmoRows(t *testing.T) {
	r := rand.New(rand.NewPCG(14, 4))
	s, sum := fresh(t, conf), uint64(0)
	for range 1000 {
		x := r.Uint64()
		b, ok := s.Do(r.IntN(3), api.Ask{Kind: api.Amo, Addr: base + 72, Size: 8, Op: api.AmoaddD, Data: x})
		if !ok || b.Data != sum {
			t.Fatal(b, ok, sum)
		}
		sum += x
	}
}

// T6: no answer tells how memory is sharded.
func TestStripesAreNotSeen(t *testing.T) {
	var first *Shard
	for _, stripes := range []int{1, 2, 3, 64} {
		c := conf
		c.Stripes = stripes
		s, b := pair(t, c)
		r, all := rand.New(rand.NewPCG(14, 6)), valid()
		for range 2000 {
			both(t, s, b, r.IntN(3), anyAsk(r, all))
		}
		isBook(t, s, b)
		if first == nil {
			first = s
		}
		if !s.Ram().Same(first.Ram()) || s.Table() != first.Table() {
			t.Fatal(stripes)
		}
	}
}
