package tlb

import (
	"math"
	"math/rand/v2"
	"slices"
	"testing"

	"roebuck/api"
)

const ones = ^uint64(0)

// own and global are entries of an address space itself, and of all.
const (
	own    = 7
	global = 39
)

// strangers are numbers of no address space.
var strangers = []int{math.MinInt, math.MinInt + 1, math.MinInt + 3, -65536, -1, 65536, 65537, 65539, 1 << 32, 1<<32 + 3, math.MaxInt}

// offLevels are numbers of no level.
var offLevels = []int{math.MinInt, math.MinInt + 1, -256, -3, -2, -1, 3, 4, 5, 64, 256, 257, 258, 1 << 32, 1<<32 + 1, 1 << 61, 1 << 62, math.MaxInt}

// both are the values of a flag.
var both = []bool{false, true}

// places are addresses in few pages of each level, and at their edges.
var places = []uint64{0, 1, 4095, 4096, 8191, 8192, 1<<21 - 1, 1 << 21, 1<<21 + 4096, 1<<22 - 1, 1<<30 - 1, 1 << 30, 1<<30 + 1<<21, 1<<31 - 1, 1 << 38, 1 << 63, ones - 1<<30, ones - 1<<21, ones - 4096, ones}

// asids are numbers of address spaces, and some that are none.
var asids = []int{0, 1, 2, 65535, -1, 65536}

// requests are requests of all kinds.
func requests() []api.Req {
	var out []api.Req
	for _, set := range both {
		for _, byVa := range both {
			for _, byAsid := range both {
				for _, va := range places {
					for _, asid := range asids {
						out = append(out, api.Req{Set: set, ByVa: byVa, ByAsid: byAsid, Va: va, Asid: asid})
					}
				}
			}
		}
	}
	return out
}

func fresh(t *testing.T, size int) *Tlb {
	t.Helper()
	c, e := New(size)
	if c == nil || e != api.OK {
		t.Fatal(size, e)
	}
	return c
}

// with is a cache to which these translations were added.
func with(t *testing.T, size int, entries ...api.Entry) *Tlb {
	t.Helper()
	c := fresh(t, size)
	for _, e := range entries {
		if !c.Add(e) {
			t.Fatalf("%+v", e)
		}
	}
	return c
}

// isAll compares all translations with these, in order.
func isAll(t *testing.T, c *Tlb, want ...api.Entry) {
	t.Helper()
	if got := c.All(); !slices.Equal(got, want) {
		t.Fatalf("got %+v, want %+v", got, want)
	}
}

// isFound asks for the translation of an address.
func isFound(t *testing.T, c *Tlb, asid int, va uint64, want api.Entry) {
	t.Helper()
	if e, ok := c.Find(asid, va); e != want || !ok {
		t.Fatalf("%d %x: got %+v %v, want %+v", asid, va, e, ok, want)
	}
}

// isMissing asks that an address has no translation.
func isMissing(t *testing.T, c *Tlb, asid int, va uint64) {
	t.Helper()
	if e, ok := c.Find(asid, va); e != (api.Entry{}) || ok {
		t.Fatalf("%d %x: got %+v %v", asid, va, e, ok)
	}
}

// isBook compares all that a cache tells with the book.
func isBook(t *testing.T, c *Tlb, b *book) {
	t.Helper()
	isAll(t, c, b.list...)
	for _, asid := range asids {
		for _, va := range places {
			want, is := b.find(asid, va)
			if e, ok := c.Find(asid, va); e != want || ok != is {
				t.Fatalf("%d %x: got %+v %v, want %+v of %+v", asid, va, e, ok, want, b.list)
			}
		}
	}
}

// P28.1: from 1 to 32 translations; otherwise nil and ErrArg.
func TestNew(t *testing.T) {
	for _, size := range []int{0, -1, -32, 33, 34, 64, 256, 257, 1 << 32, 1<<32 + 1, math.MinInt, math.MinInt + 1, math.MaxInt} {
		if c, e := New(size); c != nil || e != api.ErrArg {
			t.Error(size, c, e)
		}
	}
	for size := 1; size <= 32; size++ {
		c := fresh(t, size)
		isAll(t, c)
		isMissing(t, c, 0, 0)
		var want []api.Entry
		for n := range 40 {
			e := api.Entry{Asid: n, Page: uint64(n) * 4096, Pte: own}
			c.Add(e)
			want = append(want, e)
			isAll(t, c, want[max(0, len(want)-size):]...)
		}
	}
}

// P28.3: the examples of the chapter.
func TestExamples(t *testing.T) {
	e := api.Entry{Asid: 3, Page: 4096, Pte: own}
	c := with(t, 1, e)
	isFound(t, c, 3, 4100, e)
	isMissing(t, c, 4, 4100)
	e.Pte = global
	c = with(t, 1, e)
	isFound(t, c, 4, 4100, e)
	isFound(t, c, 3, 4100, e)
	if _, err := New(0); err != api.ErrArg || c.Forget(api.Req{}) != 0 {
		t.Fatal("examples")
	}
}

// P28.1: a translation applies to the addresses of its page, in its address space or, if it belongs to all, in each.
func TestFind(t *testing.T) {
	for level, n := range sizes {
		for _, page := range []uint64{0, n, 7 * n, 1 << 38, 1 << 63, -n} {
			for _, asid := range []int{0, 1, 65535} {
				for _, off := range []uint64{0, 1, n / 2, n - 1} {
					e := api.Entry{Asid: asid, Page: page, Level: level, Pte: own}
					g := e
					g.Pte = global
					one, all := with(t, 2, e), with(t, 2, g)
					isFound(t, one, asid, page+off, e)
					isFound(t, all, asid, page+off, g)
					for _, other := range append([]int{asid ^ 1, asid + 1, asid ^ 1<<15}, strangers...) {
						isMissing(t, one, other, page+off)
						isFound(t, all, other, page+off, g)
					}
					for _, va := range []uint64{page - 1, page + n, page ^ 1<<63, page ^ 1<<39} {
						isMissing(t, one, asid, va)
						isMissing(t, all, asid, va)
					}
				}
			}
		}
	}
}

// P28.1: of those that apply, one of the smallest level, and of these one of the address space itself; whatever the order in which they were added.
func TestFindFirst(t *testing.T) {
	var order []api.Entry
	for level := range 3 {
		order = append(order, api.Entry{Asid: 1, Level: level, Pte: own}, api.Entry{Asid: 2, Level: level, Pte: global})
	}
	rnd := rand.New(rand.NewPCG(28, 1))
	for range 2000 {
		some := slices.Clone(order)
		rnd.Shuffle(len(some), func(i, j int) { some[i], some[j] = some[j], some[i] })
		some = some[:1+rnd.IntN(len(some))]
		c := with(t, 6, some...)
		for _, e := range order {
			if slices.Contains(some, e) {
				isFound(t, c, 1, 77, e)
				break
			}
		}
		// In the address space with the number of one that belongs to all, none is of the address space itself.
		for _, asid := range []int{2, 3} {
			if i := slices.IndexFunc(order, func(e api.Entry) bool { return e.Pte == global && slices.Contains(some, e) }); i >= 0 {
				isFound(t, c, asid, 77, order[i])
			} else {
				isMissing(t, c, asid, 77)
			}
		}
	}
}

// P28.1: G alone tells whether a translation belongs to all; any other word is kept as it is.
func TestPte(t *testing.T) {
	for i := range 64 {
		for _, p := range []uint64{1 << i, ones ^ 1<<i, ones, 0} {
			e := api.Entry{Asid: 5, Page: 4096, Pte: p}
			c := with(t, 1, e)
			isFound(t, c, 5, 4096, e)
			if p>>5&1 == 1 {
				isFound(t, c, 6, 4096, e)
			} else {
				isMissing(t, c, 6, 4096)
			}
		}
	}
}

// P28.1: Add keeps the address of the page, and returns false and does nothing without such a level or address space.
func TestAdd(t *testing.T) {
	for level, n := range sizes {
		for _, va := range places {
			c := with(t, 2, api.Entry{Asid: 1, Page: va, Level: level, Pte: own})
			want := api.Entry{Asid: 1, Page: va / n * n, Level: level, Pte: own}
			isAll(t, c, want)
			isFound(t, c, 1, va, want)
		}
	}
	full := with(t, 2, api.Entry{Asid: 1, Pte: own}, api.Entry{Asid: 65535, Level: 2, Pte: own})
	was := full.All()
	for _, p := range []uint64{0, own, global} {
		for _, asid := range []int{0, 1, 65535} {
			for _, level := range offLevels {
				if full.Add(api.Entry{Asid: asid, Level: level, Pte: p}) {
					t.Fatal(asid, level)
				}
				isAll(t, full, was...)
			}
		}
		for _, level := range []int{0, 1, 2, 3} {
			for _, asid := range strangers {
				if full.Add(api.Entry{Asid: asid, Level: level, Pte: p}) {
					t.Fatal(asid, level)
				}
				isAll(t, full, was...)
			}
		}
	}
	if !full.Add(api.Entry{Asid: 0, Level: 2}) || !full.Add(api.Entry{Asid: 65535}) {
		t.Fatal("edges")
	}
	isAll(t, full, api.Entry{Level: 2}, api.Entry{Asid: 65535})
}

// P28.1: the translation with the same key goes, also if the cache is full; the new one is the newest.
func TestAddSameKey(t *testing.T) {
	one, two, three := api.Entry{Asid: 1, Page: 4096, Pte: own}, api.Entry{Asid: 2, Page: 4096, Pte: own}, api.Entry{Asid: 1, Page: 4096, Pte: global}
	for _, size := range []int{3, 4} {
		for _, y := range []struct {
			e    api.Entry
			want []api.Entry
		}{
			{api.Entry{Asid: 1, Page: 8191, Pte: 15}, []api.Entry{two, three, {Asid: 1, Page: 4096, Pte: 15}}},
			{api.Entry{Asid: 2, Page: 4096, Pte: own}, []api.Entry{one, three, two}},
			{api.Entry{Asid: 9, Page: 5000, Pte: global}, []api.Entry{one, two, {Asid: 9, Page: 4096, Pte: global}}},
			{three, []api.Entry{one, two, three}},
		} {
			c := with(t, size, one, two, three)
			if !c.Add(y.e) {
				t.Fatalf("%+v", y.e)
			}
			isAll(t, c, y.want...)
		}
		// Each of these differs from all others in one thing.
		for _, e := range []api.Entry{{Asid: 3, Page: 4096, Pte: own}, {Asid: 1, Page: 8192, Pte: own}, {Asid: 1, Page: 4096, Level: 1, Pte: own}, {Asid: 1, Page: 8192, Pte: global}, {Asid: 1, Page: 4096, Level: 2, Pte: global}, {Pte: own}, {Pte: global}} {
			c := with(t, size, one, two, three)
			c.Add(e)
			e.Page -= e.Page % sizes[e.Level]
			isAll(t, c, []api.Entry{one, two, three, e}[4-size:]...)
		}
	}
}

// P28.1: one of an address space with the number 0, and one that belongs to all, do not have the same key.
func TestAddZero(t *testing.T) {
	e, g := api.Entry{Page: 4096, Pte: own}, api.Entry{Page: 4096, Pte: global}
	for _, l := range [][]api.Entry{{e, g}, {g, e}} {
		c := with(t, 3, l...)
		isAll(t, c, l...)
		isFound(t, c, 0, 4096, e)
		isFound(t, c, 1, 4096, g)
	}
}

// P28.2: requests of all kinds, and translations of all kinds, against the book: what Forgets tells is what Forget removes.
func TestForgets(t *testing.T) {
	seen := map[bool]int{}
	var entries []api.Entry
	for level, n := range sizes {
		for _, va := range []uint64{0, 4096, 1 << 21, 1 << 30, 1 << 38, ones} {
			for _, asid := range []int{0, 1, 65535} {
				for _, p := range []uint64{0, own, global, 32, ones, ones ^ 32} {
					entries = append(entries, api.Entry{Asid: asid, Page: va / n * n, Level: level, Pte: p})
				}
			}
		}
	}
	for i, r := range requests() {
		for _, e := range entries {
			want := removes(r, e)
			seen[want]++
			if Forgets(r, e) != want {
				t.Fatalf("%+v %+v: not %v", r, e, want)
			}
		}
		e := entries[i%len(entries)]
		c := with(t, 2, e)
		if n := c.Forget(r); n == 1 != removes(r, e) || n > 1 || len(c.All())+n != 1 {
			t.Fatalf("%+v %+v: %d", r, e, n)
		}
	}
	if seen[true] == 0 || seen[false] == 0 {
		t.Fatal(seen)
	}
}

// P28.2: any place in the page of a translation does, also of one whose Page is not the address of its page.
func TestForgetsInPage(t *testing.T) {
	for level, n := range sizes {
		for _, off := range []uint64{0, 1, n - 1} {
			for _, at := range []uint64{0, 1, n - 1} {
				e := api.Entry{Page: 5*n + off, Level: level, Pte: own}
				if !Forgets(api.Req{Set: true, ByVa: true, Va: 5*n + at}, e) || Forgets(api.Req{Set: true, ByVa: true, Va: 4*n + at}, e) || Forgets(api.Req{Set: true, ByVa: true, Va: 6*n + at}, e) {
					t.Fatal(level, off, at)
				}
			}
		}
	}
	for _, level := range offLevels {
		e := api.Entry{Page: 5, Level: level}
		if !Forgets(api.Req{Set: true}, e) || Forgets(api.Req{ByVa: true, Va: 5}, e) {
			t.Fatal(level)
		}
		Forgets(api.Req{Set: true, ByVa: true, Va: 6}, e)
	}
}

// P28.2: Forget removes what Forgets tells, keeps the others in their order, and returns how many it removed; then nothing is left to be removed.
func TestForget(t *testing.T) {
	rnd := rand.New(rand.NewPCG(28, 2))
	start := fresh(t, 32)
	for len(start.All()) < 32 {
		start.Add(anyEntry(rnd))
	}
	for _, r := range requests() {
		c, b := start.Clone(), &book{32, start.All()}
		n := b.forget(r)
		if got := c.Forget(r); got != n {
			t.Fatalf("%+v: %d, not %d", r, got, n)
		}
		isAll(t, c, b.list...)
		if c.Forget(r) != 0 || slices.ContainsFunc(c.All(), func(e api.Entry) bool { return Forgets(r, e) }) {
			t.Fatalf("%+v: again", r)
		}
	}
}

// P28.2: the flags of a request, each by itself and together.
func TestForgetRows(t *testing.T) {
	a, b := api.Entry{Asid: 1, Page: 4096, Pte: own}, api.Entry{Asid: 2, Page: 4096, Pte: own}
	g, big := api.Entry{Asid: 1, Page: 4096, Pte: global}, api.Entry{Asid: 1, Level: 1, Pte: own}
	for _, y := range []struct {
		r    api.Req
		want []api.Entry
	}{
		{api.Req{}, []api.Entry{a, b, g, big}},
		{api.Req{ByVa: true, ByAsid: true, Va: 4096, Asid: 1}, []api.Entry{a, b, g, big}},
		{api.Req{Set: true}, nil},
		{api.Req{Set: true, Va: 1 << 40, Asid: 77}, nil},
		{api.Req{Set: true, ByVa: true, Va: 4096}, nil},
		{api.Req{Set: true, ByVa: true, Va: 8191, Asid: 9}, nil},
		{api.Req{Set: true, ByVa: true, Va: 8192}, []api.Entry{a, b, g}},
		{api.Req{Set: true, ByVa: true, Va: 1 << 21}, []api.Entry{a, b, g, big}},
		{api.Req{Set: true, ByAsid: true, Asid: 1}, []api.Entry{b, g}},
		{api.Req{Set: true, ByAsid: true, Asid: 2, Va: 1 << 40}, []api.Entry{a, g, big}},
		{api.Req{Set: true, ByAsid: true, Asid: 3}, []api.Entry{a, b, g, big}},
		{api.Req{Set: true, ByVa: true, ByAsid: true, Va: 4096, Asid: 1}, []api.Entry{b, g}},
		{api.Req{Set: true, ByVa: true, ByAsid: true, Va: 8192, Asid: 1}, []api.Entry{a, b, g}},
		{api.Req{Set: true, ByVa: true, ByAsid: true, Va: 8192, Asid: 2}, []api.Entry{a, b, g, big}},
	} {
		c := with(t, 5, a, b, g, big)
		if n := c.Forget(y.r); n != 4-len(y.want) {
			t.Fatalf("%+v: %d", y.r, n)
		}
		isAll(t, c, y.want...)
	}
}

// P28.2: All is new memory each time.
func TestAll(t *testing.T) {
	a, b := api.Entry{Asid: 1, Pte: own}, api.Entry{Asid: 2, Pte: own}
	c := with(t, 2, a, b)
	l := c.All()
	l[0] = api.Entry{Asid: 9}
	_ = append(l[:1], api.Entry{Asid: 9})
	isAll(t, c, a, b)
	isFound(t, c, 1, 0, a)
	l = c.All()
	c.Forget(api.Req{Set: true})
	c.Add(api.Entry{Asid: 7})
	if !slices.Equal(l, []api.Entry{a, b}) {
		t.Fatalf("%+v", l)
	}
}

// P28.2: a copy does not hang on the original, whichever of them changes.
func TestClone(t *testing.T) {
	a, b := api.Entry{Asid: 1, Pte: own}, api.Entry{Asid: 2, Pte: own}
	changes := []func(c *Tlb){
		func(c *Tlb) { c.Add(api.Entry{Asid: 3, Pte: own}) },
		func(c *Tlb) { c.Add(api.Entry{Asid: 1, Pte: 15}) },
		func(c *Tlb) { c.Add(a) },
		func(c *Tlb) { c.Forget(api.Req{Set: true}) },
		func(c *Tlb) { c.Forget(api.Req{Set: true, ByAsid: true, Asid: 1}) },
		func(c *Tlb) { c.Forget(api.Req{Set: true, ByAsid: true, Asid: 2}) },
	}
	for _, size := range []int{2, 3} {
		for i, change := range changes {
			c := with(t, size, a, b)
			o := c.Clone()
			if !c.Same(o) || !o.Same(c) {
				t.Fatal(i, "not the same")
			}
			change(c)
			isAll(t, o, a, b)
			isFound(t, o, 1, 0, a)
			isMissing(t, o, 3, 0)
			if c.Same(o) || o.Same(c) {
				t.Fatal(i, "still the same")
			}
			change(o)
			if !c.Same(o) {
				t.Fatal(i, "not the same again")
			}
			c = with(t, size, a, b)
			o = c.Clone()
			change(o)
			isAll(t, c, a, b)
			isFound(t, c, 1, 0, a)
		}
	}
	// The size is copied, too.
	o := with(t, 2, a).Clone()
	o.Add(b)
	o.Add(api.Entry{Asid: 3})
	isAll(t, o, b, api.Entry{Asid: 3})
}

// P28.2: Same asks for the size, the translations and their order.
func TestSame(t *testing.T) {
	a, b := api.Entry{Asid: 1, Page: 4096, Pte: own}, api.Entry{Asid: 2, Page: 4096, Pte: own}
	caches := []*Tlb{
		nil, fresh(t, 1), fresh(t, 2), with(t, 2, a), with(t, 2, b), with(t, 2, a, b), with(t, 2, b, a), with(t, 3, a, b),
		with(t, 2, api.Entry{Asid: 1, Page: 4096, Pte: 15}), with(t, 2, api.Entry{Asid: 1, Page: 8192, Pte: own}), with(t, 2, api.Entry{Asid: 1, Level: 1, Pte: own}),
		with(t, 2, api.Entry{Asid: 1, Page: 4096, Pte: global}), with(t, 2, api.Entry{Asid: 2, Page: 4096, Pte: global}),
	}
	for i, c := range caches {
		for j, o := range caches {
			if c.Same(o) != (i == j) {
				t.Fatal(i, j)
			}
		}
		if !c.Same(c.Clone()) {
			t.Fatal(i, "copy")
		}
	}
	// How a cache came to its translations does not count.
	c := with(t, 2, a, b, api.Entry{Asid: 3}, a, b)
	if o := with(t, 2, a, b); !c.Same(o) || !o.Same(c) {
		t.Fatal("the same")
	}
	c.Forget(api.Req{Set: true})
	if !c.Same(fresh(t, 2)) {
		t.Fatal("empty")
	}
}

// A nil cache has nothing, and is the same as another nil one alone.
func TestNil(t *testing.T) {
	var c *Tlb
	isMissing(t, c, 0, 0)
	if c.Add(api.Entry{}) || c.Forget(api.Req{Set: true}) != 0 || len(c.All()) != 0 || c.Clone() != nil || !c.Same(nil) || c.Same(fresh(t, 1)) || fresh(t, 1).Same(c) {
		t.Fatal("nil")
	}
}

// A cache that New has not made does not panic.
func TestUnmade(t *testing.T) {
	for _, e := range []api.Entry{{}, {Pte: global}, {Level: 3}} {
		c := new(Tlb)
		c.Add(e)
		c.Find(0, 0)
		c.Forget(api.Req{Set: true})
		c.All()
		c.Clone().Add(e)
		c.Same(new(Tlb))
	}
}

// anyEntry is a translation of few pages and address spaces; one in ten is none that can be added.
func anyEntry(rnd *rand.Rand) api.Entry {
	e := api.Entry{Asid: asids[rnd.IntN(4)], Page: places[rnd.IntN(len(places))], Level: rnd.IntN(3), Pte: []uint64{0, own, 15, global, 47, 32, rnd.Uint64()}[rnd.IntN(7)]}
	switch rnd.IntN(20) {
	case 0:
		e.Level = offLevels[rnd.IntN(len(offLevels))]
	case 1:
		e.Asid = strangers[rnd.IntN(len(strangers))]
	}
	return e
}

// anyRequest is a request that is mostly one for an address or an address space.
func anyRequest(rnd *rand.Rand) api.Req {
	r := api.Req{Set: rnd.IntN(5) > 0, ByVa: rnd.IntN(2) == 0, ByAsid: rnd.IntN(2) == 0, Va: places[rnd.IntN(len(places))], Asid: asids[rnd.IntN(len(asids))]}
	if !r.ByVa && !r.ByAsid && rnd.IntN(4) > 0 {
		r.ByVa, r.ByAsid = true, true
	}
	return r
}

// Fixed rows of additions and flushes, against the book: also that what was added is found until something of P28.3 happens to it.
func TestRows(t *testing.T) {
	rnd := rand.New(rand.NewPCG(28, 3))
	for round := range 300 {
		size := []int{1, 2, 3, 5, 8, 32}[round%6]
		c, b := fresh(t, size), &book{size: size}
		for range 60 {
			if rnd.IntN(6) == 0 {
				r := anyRequest(rnd)
				want := b.forget(r)
				if n := c.Forget(r); n != want {
					t.Fatalf("%+v: %d, not %d", r, n, want)
				}
			} else {
				e := anyEntry(rnd)
				if want := b.add(e); c.Add(e) != want {
					t.Fatalf("%+v: not %v", e, want)
				}
			}
			isBook(t, c, b)
			if o := with(t, size, b.list...); !c.Same(o) || !o.Same(c) {
				t.Fatalf("not the same: %+v %+v", c.All(), o.All())
			}
			if rnd.IntN(10) == 0 {
				c = c.Clone()
			}
		}
	}
}

// P28.3: a translation is found till it is flushed, is the oldest one of a full cache, or another one comes before it.
func TestFoundUntil(t *testing.T) {
	e := api.Entry{Asid: 1, Page: 4096, Pte: own}
	others := []api.Entry{{Asid: 2, Page: 4096, Pte: own}, {Asid: 1, Page: 8192, Pte: own}, {Asid: 1, Page: 4096, Pte: global}, {Asid: 1, Level: 1, Pte: own}, {Asid: 1, Level: 2, Pte: global}}
	for size := 2; size <= 6; size++ {
		c := with(t, size, e)
		for _, o := range others[:size-1] {
			c.Add(o)
			isFound(t, c, 1, 5000, e)
		}
		c.Forget(api.Req{Set: true, ByAsid: true, Asid: 2})
		c.Forget(api.Req{Set: true, ByVa: true, Va: 8192})
		isFound(t, c, 1, 5000, e)
		c.Forget(api.Req{Set: true, ByVa: true, Va: 4096, ByAsid: true, Asid: 1})
		if got, ok := c.Find(1, 5000); ok && got == e {
			t.Fatal("flushed")
		}
	}
	c := with(t, 2, e, others[0])
	c.Add(others[1])
	isMissing(t, c, 1, 5000)
	c = with(t, 2, api.Entry{Asid: 1, Level: 2, Pte: own})
	isFound(t, c, 1, 5000, api.Entry{Asid: 1, Level: 2, Pte: own})
	c.Add(e)
	isFound(t, c, 1, 5000, e)
}
