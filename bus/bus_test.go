package bus

import (
	"math"
	"math/rand/v2"
	"slices"
	"testing"

	"roebuck/api"
)

// Addresses of registers that the tests often need.
const (
	portByte    = uartAt
	portEnable  = uartAt + 1
	portCause   = uartAt + 2
	portControl = uartAt + 4
	priorityOf  = plicAt
	enableOf    = plicAt + 8192
	levelOf     = plicAt + 2097152
	claimOf     = plicAt + 2097156
	compareOf   = clintAt + 16384
	timeAt      = clintAt + 49144
)

// strangers are numbers of no hart, and wrong numbers of harts; doubled, or narrower, some of them would be right.
var strangers = []int{math.MinInt, math.MinInt + 1, -1 << 62, -1 << 32, -1<<32 + 1, -256, -8, -2, -1, 9, 16, 64, 255, 256, 257, 1 << 31, 1 << 32, 1<<32 + 1, 1 << 62, 1<<62 + 1, 1<<63 - 1}

// sizes are sizes of all kinds, the right ones among them.
var sizes = []int{math.MinInt, -1 << 32, -8, -4, -1, 0, 1, 2, 3, 4, 5, 6, 7, 8, 9, 12, 16, 64, 257, 1 << 32, 1<<32 + 1, 1<<32 + 4, 1<<32 + 8, math.MaxInt}

// kinds are kinds of all numbers, and some that are none.
func kinds() []api.Kind {
	out := []api.Kind{math.MinInt, -256, -1, 256 + api.Poll, 1<<32 + api.Poll, math.MaxInt}
	for k := api.NoKind; k < 40; k++ {
		out = append(out, k)
	}
	return out
}

// busy is a bus of which each device has something.
func busy(t *testing.T, harts int) *both {
	p := pair(t, harts)
	p.write(clintAt, 4, 1)
	p.write(compareOf, 8, 7)
	p.do(0, api.Ask{Kind: api.Tick, Data: 5})
	for i := range uint64(31) {
		p.write(priorityOf+4+4*i, 4, i)
	}
	p.write(enableOf, 4, ones)
	p.write(enableOf+128, 4, ones)
	p.write(levelOf+4096, 4, 3)
	p.wire(3, true)
	p.wire(12, true)
	p.read(claimOf, 4)
	p.write(portEnable, 1, 3)
	p.write(portByte, 1, 'o')
	p.input('i')
	return p
}

// P18.1: for each right number of harts a bus in which nothing has happened.
func TestNew(t *testing.T) {
	for harts := 1; harts <= 8; harts++ {
		p := pair(t, harts)
		p.same()
		for h := range harts {
			if p.x.Lines(h) != 0 {
				t.Fatal(harts, h)
			}
		}
		if p.x.Time() != 0 || len(p.x.Out()) != 0 || len(p.x.Waiting()) != 0 {
			t.Fatal(harts)
		}
	}
}

// P18.1: none for wrong numbers.
func TestNewWrong(t *testing.T) {
	for _, harts := range append([]int{0, 10}, strangers...) {
		if x, e := New(harts); x != nil || e != api.ErrArg {
			t.Fatal(harts, x, e)
		}
	}
}

// P18.1: each call has a bus by itself.
func TestNewApart(t *testing.T) {
	p, o := pair(t, 2), pair(t, 2)
	p.input(1)
	p.write(priorityOf+4, 4, 1)
	p.write(timeAt, 8, 1)
	o.same()
	if !o.x.Same(pair(t, 2).x) {
		t.Fatal("same")
	}
}

// P18.1: every address of the devices and about them, for each number of harts.
func TestFits(t *testing.T) {
	for harts := -1; harts <= 10; harts++ {
		right := table(harts)
		for _, r := range [][2]uint64{{clintAt - 80, clintAt + 50000}, {plicAt - 80, plicAt + 20000}, {plicAt + 2097152 - 80, plicAt + 2097152 + 18*4096}, {uartAt - 80, uartAt + 300}} {
			for addr := r[0]; addr < r[1]; addr++ {
				for _, size := range []int{0, 1, 2, 4, 8} {
					_, want := right[place{addr, size}]
					if Fits(harts, addr, size) != want {
						t.Fatal(harts, addr, size, want)
					}
				}
			}
		}
	}
	for _, harts := range strangers {
		for p := range table(8) {
			if Fits(harts, p.addr, p.size) {
				t.Fatal(harts, p)
			}
		}
	}
}

// P18.1: other sizes, and addresses far away, some of which a narrower number, another base or none would turn into right ones.
func TestFitsFar(t *testing.T) {
	for _, harts := range []int{1, 8} {
		right := table(harts)
		for p := range right {
			for _, size := range sizes {
				_, want := right[place{p.addr, size}]
				if Fits(harts, p.addr, size) != want {
					t.Fatal(harts, p, size)
				}
			}
			for at := range 64 {
				for _, addr := range []uint64{p.addr + 1<<at, p.addr - 1<<at, p.addr ^ 1<<at, p.addr - clintAt, p.addr - plicAt, p.addr - uartAt} {
					_, want := right[place{addr, p.size}]
					if Fits(harts, addr, p.size) != want {
						t.Fatal(harts, addr, p.size, want)
					}
				}
			}
		}
		for _, addr := range []uint64{0, 1, 4, 7, api.RamBase, api.RamBase + 4, ones - 7, ones - 3, ones} {
			for _, size := range sizes {
				if Fits(harts, addr, size) {
					t.Fatal(harts, addr, size)
				}
			}
		}
	}
}

// P18.1: May is Fits for what is read and written, and true for the other kinds of the table, whatever else is asked; no other kind is valid.
func TestMay(t *testing.T) {
	for _, harts := range []int{1, 3, 8} {
		p := pair(t, harts)
		for _, kind := range kinds() {
			for addr := range table(8) {
				for _, size := range []int{addr.size, 0, 2} {
					want := kind >= api.Tick && kind <= api.Wire || kind == api.Poll
					if kind == api.DevRead || kind == api.DevWrite {
						_, want = table(harts)[place{addr.addr, size}]
					}
					if p.x.May(api.Ask{Kind: kind, Addr: addr.addr, Size: size}) != want {
						t.Fatal(harts, kind, addr, size)
					}
				}
			}
			for _, n := range strangers {
				a := api.Ask{Kind: kind, Addr: uint64(n), Size: n, Data: uint64(n), Hart: n}
				if p.x.May(a) != p.b.may(a) {
					t.Fatal(a)
				}
			}
		}
	}
}

// P18.1: the chapter's example, and the sizes beside it.
func TestMayExample(t *testing.T) {
	x, _ := New(1)
	for _, size := range sizes {
		for _, kind := range []api.Kind{api.DevRead, api.DevWrite} {
			if x.May(api.Ask{Kind: kind, Addr: api.UartBase, Size: size}) != (size == 1) {
				t.Fatal(kind, size)
			}
		}
	}
}

// P18.2: what isn't valid does nothing, whoever asks it.
func TestDoWrong(t *testing.T) {
	p := busy(t, 2)
	before := p.x.Clone()
	for _, kind := range kinds() {
		for _, addr := range []uint64{0, 4, clintAt + 2, clintAt + 8, plicAt, plicAt + 128, plicAt + 8192 + 4*128, uartAt + 8, uartAt - 1, api.RamBase, ones} {
			a := api.Ask{Kind: kind, Addr: addr, Size: 4, Data: 255, Live: true}
			if p.x.May(a) {
				continue
			}
			for _, hart := range []int{-1, 0, 1, 2} {
				p.do(hart, a)
			}
		}
	}
	for addr := range table(2) {
		for _, size := range sizes {
			for _, kind := range []api.Kind{api.DevRead, api.DevWrite} {
				if a := (api.Ask{Kind: kind, Addr: addr.addr, Size: size, Data: ones}); !p.x.May(a) {
					p.do(0, a)
				}
			}
		}
	}
	if !p.x.Same(before) {
		t.Fatal("changed")
	}
	p.same()
}

// P18.2: a Poll is of a hart that exists, and Lines says the same; nothing is changed.
func TestPoll(t *testing.T) {
	for harts := 1; harts <= 8; harts++ {
		p := busy(t, harts)
		before := p.x.Clone()
		for h := -3; h < 12; h++ {
			got, ok := p.x.Do(h, api.Ask{Kind: api.Poll, Hart: 1, Addr: 1, Data: 1})
			if ok != (h >= 0 && h < harts) || got != (api.Answer{Data: p.x.Lines(h)}) {
				t.Fatal(harts, h, got, ok)
			}
			p.do(h, api.Ask{Kind: api.Poll})
		}
		for _, h := range strangers {
			if got, ok := p.x.Do(h, api.Ask{Kind: api.Poll}); ok || got != (api.Answer{}) || p.x.Lines(h) != 0 {
				t.Fatal(harts, h, got)
			}
		}
		if !p.x.Same(before) {
			t.Fatal(harts)
		}
	}
}

// P18.2: for all but Poll the hart is ignored.
func TestHartIgnored(t *testing.T) {
	for _, hart := range append([]int{0, 1, 2}, strangers...) {
		p := busy(t, 2)
		for _, a := range []api.Ask{
			{Kind: api.DevWrite, Addr: priorityOf + 40, Size: 4, Data: 5},
			{Kind: api.DevRead, Addr: claimOf, Size: 4},
			{Kind: api.DevRead, Addr: portByte, Size: 1},
			{Kind: api.Tick, Data: 3},
			{Kind: api.Input, Data: 66},
			{Kind: api.Wire, Size: 5, Live: true},
		} {
			if _, ok := p.x.Clone().Do(hart, a); !ok {
				t.Fatal(hart, a)
			}
			p.do(hart, a)
			p.look()
		}
	}
}

// P18.2: each register is read and written, with many numbers, of which the lowest bits are taken; others stay.
func TestRegisters(t *testing.T) {
	for _, harts := range []int{1, 2, 8} {
		for r := range table(harts) {
			p := pair(t, harts)
			for _, v := range []uint64{0, 1, 5, 10, 255, 0x8877665544332211, 1 << 32, ones} {
				p.write(r.addr, r.size, v)
				p.look()
				p.read(r.addr, r.size)
				p.look()
			}
			p.same()
		}
	}
}

// P18.2: a response has nothing but the Data of what is read, and a request's other fields are ignored.
func TestFields(t *testing.T) {
	full := api.Ask{Next: 7, Cut: 3, Op: api.Add, Old: 9, Live: true, Hart: 5, Req: api.Req{Set: true}, Entry: api.Entry{Pte: 1}}
	for _, a := range []api.Ask{
		{Kind: api.DevRead, Addr: timeAt, Size: 8, Data: 77},
		{Kind: api.DevRead, Addr: portByte, Size: 1, Data: 77},
		{Kind: api.DevWrite, Addr: portByte, Size: 1, Data: 77},
		{Kind: api.DevWrite, Addr: priorityOf + 4, Size: 4, Data: 77},
		{Kind: api.Poll, Addr: 1, Size: 9, Data: 77},
		{Kind: api.Tick, Addr: 1, Size: 9, Data: 77},
		{Kind: api.Input, Addr: 1, Size: 9, Data: 77},
		{Kind: api.Wire, Addr: 1, Size: 9, Data: 77, Live: true},
	} {
		p, q := busy(t, 1), busy(t, 1)
		more := full
		more.Kind, more.Addr, more.Size, more.Data = a.Kind, a.Addr, a.Size, a.Data
		p.do(0, a)
		q.do(0, more)
		p.same()
		q.same()
		if !p.x.Same(q.x) {
			t.Fatal(a)
		}
	}
}

// P18.2: ticks, as numbers with a sign.
func TestTick(t *testing.T) {
	for _, start := range []uint64{0, 1, 6, 1<<63 - 1, ones - 1, ones} {
		for _, n := range []uint64{0, 1, 2, 5, 1<<31 - 1, 1 << 31, 1 << 32, 1<<63 - 1, 1 << 63, 1<<63 + 1, ones - 1, ones} {
			p := pair(t, 2)
			p.write(timeAt, 8, start)
			p.do(0, api.Ask{Kind: api.Tick, Data: n})
			want := start
			if n < 1<<63 {
				want += n
			}
			if p.x.Time() != want || p.read(timeAt, 8) != want {
				t.Fatal(start, n, p.x.Time())
			}
			p.same()
		}
	}
}

// P18.2: the lowest byte of what comes in, as long as there is room.
func TestInput(t *testing.T) {
	for _, c := range []uint64{0, 1, 65, 255, 256, 0x141, 1<<32 + 66, 1 << 63, ones} {
		p := pair(t, 1)
		p.input(c)
		p.input(c + 1)
		if got := p.x.Waiting(); len(got) != 1 || got[0] != byte(c) {
			t.Fatal(c, got)
		}
		p.same()
	}
}

// P18.2: each source's wire but the port's; other numbers do nothing. All of them are answered.
func TestWire(t *testing.T) {
	for _, source := range append(strangers, 0, 1, 2, 9, 10, 11, 30, 31, 32, 33, 266, 1<<32+10) {
		p := pair(t, 1)
		p.wire(source, true)
		pending, want := p.read(plicAt+4096, 4), uint64(0)
		if source >= 1 && source <= 31 && source != 10 {
			want = 1 << source
		}
		if pending != want {
			t.Fatal(source, pending)
		}
		p.wire(source, true)
		p.same()
		p.wire(source, false)
		p.same()
		if p.read(plicAt+4096, 4) != pending {
			t.Fatal(source)
		}
	}
}

// P18.2: the port's wire isn't set by a request, neither on nor off.
func TestWireOfPort(t *testing.T) {
	p := pair(t, 1)
	p.wire(10, true)
	if !p.x.Same(pair(t, 1).x) {
		t.Fatal("on")
	}
	p.write(priorityOf+40, 4, 1)
	p.write(enableOf, 4, 1<<10)
	p.write(portEnable, 1, 1)
	p.input(65)
	before := p.x.Clone()
	p.wire(10, false)
	if !p.x.Same(before) {
		t.Fatal("off")
	}
	// A completion has the source wait again if its wire is still on.
	if p.read(claimOf, 4) != 10 {
		t.Fatal("claim")
	}
	p.wire(10, false)
	p.write(claimOf, 4, 10)
	if p.x.Lines(0) != 2048 || p.read(claimOf, 4) != 10 {
		t.Fatal("completed")
	}
	p.same()
}

// P18.2 and Terms: after each request by which the port begins or ends to interrupt, the wire is on or off.
func TestWireFollows(t *testing.T) {
	p := pair(t, 1)
	p.write(priorityOf+40, 4, 1)
	p.write(enableOf, 4, 1<<10)
	// on tells whether the wire is on: a copy in which all is claimed and completed waits again if it is.
	on := func() bool {
		y := p.clone()
		y.read(claimOf, 4)
		y.write(claimOf, 4, 10)
		return y.x.Lines(0) == 2048
	}
	for i, c := range []struct {
		ask  api.Ask
		want bool
	}{
		{api.Ask{Kind: api.Input, Data: 65}, false},
		{api.Ask{Kind: api.DevWrite, Addr: portEnable, Size: 1, Data: 1}, true},
		{api.Ask{Kind: api.DevRead, Addr: portByte, Size: 1}, false},
		{api.Ask{Kind: api.Input, Data: 66}, true},
		{api.Ask{Kind: api.Poll}, true},
		{api.Ask{Kind: api.DevWrite, Addr: portCause, Size: 1, Data: 2}, false},
		{api.Ask{Kind: api.DevWrite, Addr: portEnable, Size: 1, Data: 2}, true},
		{api.Ask{Kind: api.DevRead, Addr: portCause, Size: 1}, false},
		{api.Ask{Kind: api.DevWrite, Addr: portByte, Size: 1, Data: 'o'}, true},
		{api.Ask{Kind: api.Tick, Data: 1}, true},
		{api.Ask{Kind: api.DevWrite, Addr: portEnable, Size: 1}, false},
		{api.Ask{Kind: api.DevWrite, Addr: portEnable, Size: 1, Data: 4}, false},
		{api.Ask{Kind: api.Input, Data: 67}, false},
		{api.Ask{Kind: api.Input, Data: 68}, true},
		{api.Ask{Kind: api.DevRead, Addr: uartAt + 5, Size: 1}, false},
		{api.Ask{Kind: api.DevWrite, Addr: portControl, Size: 1, Data: 16}, false},
		{api.Ask{Kind: api.DevWrite, Addr: portByte, Size: 1, Data: 69}, true},
	} {
		p.do(0, c.ask)
		if on() != c.want {
			t.Fatal(i, c)
		}
		p.same()
	}
}

// P18.2: which bit each context has, with those of the clint, for each hart.
func TestLines(t *testing.T) {
	for hart := range 8 {
		for i := range uint64(16) {
			p, h := pair(t, 8), uint64(hart)
			p.write(clintAt+4*h, 4, i&1)
			p.write(compareOf+8*h, 8, 5-i>>1&1)
			p.write(timeAt, 8, 4)
			p.write(priorityOf+124, 4, 1)
			p.write(enableOf+256*h, 4, i>>2<<31)
			p.write(enableOf+256*h+128, 4, i>>3<<31)
			p.wire(31, true)
			want := i&1*8 + i>>1&1*128 + i>>2&1*2048 + i>>3*512
			for other := range 8 {
				if got := p.x.Lines(other); other != hart && got != 0 || other == hart && got != want {
					t.Fatal(hart, i, other, got, want)
				}
			}
			p.same()
		}
	}
}

// P18.2: what is sent is seen in order, and what waits too.
func TestOutAndWaiting(t *testing.T) {
	p := pair(t, 1)
	p.write(portCause, 1, 1)
	for _, c := range []byte("roebuck") {
		p.write(portByte, 1, uint64(c)|0xff00)
		p.input(uint64(c - 32))
	}
	if string(p.x.Out()) != "roebuck" || string(p.x.Waiting()) != "ROEBUCK" {
		t.Fatal(string(p.x.Out()), string(p.x.Waiting()))
	}
	out, in := p.x.Out(), p.x.Waiting()
	out[0], in[0] = 0, 0
	_, _ = append(out, 1), append(in, 1)
	p.same()
}

// P18.2: a copy has all, and neither changes with the other.
func TestClone(t *testing.T) {
	for harts := 1; harts <= 8; harts++ {
		p := busy(t, harts)
		q := p.clone()
		if p.x == q.x || !p.x.Same(q.x) || !q.x.Same(p.x) {
			t.Fatal(harts)
		}
		for i, a := range []api.Ask{
			{Kind: api.DevWrite, Addr: portByte, Size: 1, Data: 1},
			{Kind: api.DevRead, Addr: portByte, Size: 1},
			{Kind: api.Input, Data: 2},
			{Kind: api.Tick, Data: 2},
			{Kind: api.Wire, Size: 5, Live: true},
			{Kind: api.DevRead, Addr: claimOf, Size: 4},
			{Kind: api.DevWrite, Addr: clintAt, Size: 4, Data: 0},
			{Kind: api.DevWrite, Addr: levelOf, Size: 4, Data: 6},
		} {
			z, other := p, q
			if i%2 == 1 {
				z, other = q, p
			}
			z.do(0, a)
			z.same()
			other.same()
		}
	}
}

// P18.2: each part in which two buses may differ, the wire and the number of harts too.
func TestSame(t *testing.T) {
	var few []*both
	for harts := 1; harts <= 8; harts++ {
		few = append(few, pair(t, harts))
	}
	add := func(a ...api.Ask) {
		p := pair(t, 2)
		for _, a := range a {
			p.do(0, a)
		}
		few = append(few, p)
	}
	claim := api.Ask{Kind: api.DevRead, Addr: claimOf, Size: 4}
	priority := api.Ask{Kind: api.DevWrite, Addr: priorityOf + 4, Size: 4, Data: 1}
	enable := api.Ask{Kind: api.DevWrite, Addr: enableOf, Size: 4, Data: 2}
	on := api.Ask{Kind: api.Wire, Size: 1, Live: true}
	off := api.Ask{Kind: api.Wire, Size: 1}
	add(api.Ask{Kind: api.DevWrite, Addr: clintAt + 4, Size: 4, Data: 1})
	add(api.Ask{Kind: api.DevWrite, Addr: compareOf, Size: 8, Data: 1})
	add(api.Ask{Kind: api.Tick, Data: 1})
	add(priority)
	add(enable)
	add(priority, enable)
	add(api.Ask{Kind: api.DevWrite, Addr: levelOf, Size: 4, Data: 1})
	add(on)
	add(on, off)
	add(on, priority, enable, claim)
	add(on, off, priority, enable, claim)
	add(api.Ask{Kind: api.Input})
	add(api.Ask{Kind: api.Input, Data: 1})
	add(api.Ask{Kind: api.DevWrite, Addr: portEnable, Size: 1, Data: 1})
	add(api.Ask{Kind: api.DevWrite, Addr: uartAt + 7, Size: 1, Data: 1})
	add(api.Ask{Kind: api.DevWrite, Addr: portByte, Size: 1, Data: 1})
	for i, p := range few {
		for j, q := range few {
			if p.x.Same(q.x) != (i == j) {
				t.Fatal(i, j)
			}
		}
		if !p.x.Same(p.x.Clone()) || p.x.Same(nil) {
			t.Fatal(i)
		}
	}
}

// P18.2: nothing is left of what was undone.
func TestSameUndone(t *testing.T) {
	p := pair(t, 1)
	p.write(portEnable, 1, 1)
	p.write(priorityOf+40, 4, 1)
	p.write(enableOf, 4, 1<<10)
	p.input(65)
	p.read(claimOf, 4)
	p.read(portByte, 1)
	p.write(claimOf, 4, 10)
	p.write(portEnable, 1, 0)
	p.write(priorityOf+40, 4, 0)
	p.write(enableOf, 4, 0)
	if !p.x.Same(pair(t, 1).x) {
		t.Fatal("same")
	}
}

// P18.3: the chapter's example.
func TestExample(t *testing.T) {
	x, _ := New(1)
	for _, a := range []api.Ask{
		{Kind: api.DevWrite, Addr: api.UartBase + 1, Size: 1, Data: 1},
		{Kind: api.DevWrite, Addr: api.PlicBase + 40, Size: 4, Data: 1},
		{Kind: api.DevWrite, Addr: api.PlicBase + 8192, Size: 4, Data: 1024},
		{Kind: api.Input, Data: 65},
	} {
		if x.Lines(0) != 0 {
			t.Fatal(a)
		}
		if got, ok := x.Do(0, a); got != (api.Answer{}) || !ok {
			t.Fatal(a, got, ok)
		}
	}
	if x.Lines(0) != 2048 {
		t.Fatal(x.Lines(0))
	}
}

// orders is all orders of the numbers below n.
func orders(n int) [][]int {
	if n == 0 {
		return [][]int{nil}
	}
	var out [][]int
	for _, l := range orders(n - 1) {
		for i := range n {
			out = append(out, slices.Insert(slices.Clone(l), i, n-1))
		}
	}
	return out
}

// P18.3: a byte interrupts as soon as all permit it, in whichever order they come to do so, and for each context.
func TestPermits(t *testing.T) {
	for c := range uint64(4) {
		steps := []api.Ask{
			{Kind: api.DevWrite, Addr: portEnable, Size: 1, Data: 1},
			{Kind: api.DevWrite, Addr: priorityOf + 40, Size: 4, Data: 4},
			{Kind: api.DevWrite, Addr: enableOf + 128*c, Size: 4, Data: 1 << 10},
			{Kind: api.DevWrite, Addr: levelOf + 4096*c, Size: 4, Data: 3},
			{Kind: api.Input, Data: 65},
		}
		for _, order := range orders(len(steps)) {
			p := pair(t, 2)
			p.write(levelOf+4096*c, 4, 4)
			for i, step := range order {
				p.do(0, steps[step])
				want := uint64(0)
				if i == len(order)-1 {
					want = []uint64{2048, 512}[c%2]
				}
				if p.x.Lines(int(c/2)) != want || p.x.Lines(1-int(c/2)) != 0 {
					t.Fatal(c, order, i)
				}
			}
			p.same()
		}
	}
}

// P18.3: until the byte is read it interrupts, claims or not, each time that it is completed; once it is read and completed, no longer.
func TestUntilRead(t *testing.T) {
	p := pair(t, 1)
	p.write(portEnable, 1, 1)
	p.write(priorityOf+40, 4, 1)
	p.write(enableOf, 4, 1<<10)
	p.input(65)
	for range 5 {
		p.do(0, api.Ask{Kind: api.Tick, Data: 1})
		if p.x.Lines(0) != 2048 || p.read(claimOf, 4) != 10 || p.x.Lines(0) != 0 {
			t.Fatal("claim")
		}
		p.write(claimOf, 4, 10)
		p.same()
	}
	p.read(claimOf, 4)
	if p.read(portByte, 1) != 65 {
		t.Fatal("read")
	}
	p.write(claimOf, 4, 10)
	if p.x.Lines(0) != 0 || p.read(claimOf, 4) != 0 {
		t.Fatal("read and completed")
	}
	p.same()
}

// P18.3 and layer 16: a byte that is read before it is claimed leaves the source waiting, for one claim.
func TestReadUnclaimed(t *testing.T) {
	p := pair(t, 1)
	p.write(portEnable, 1, 1)
	p.write(priorityOf+40, 4, 1)
	p.write(enableOf+128, 4, 1<<10)
	p.input(65)
	p.read(portByte, 1)
	if p.x.Lines(0) != 512 || p.read(claimOf+4096, 4) != 10 || p.x.Lines(0) != 0 {
		t.Fatal("claim")
	}
	p.write(claimOf+4096, 4, 10)
	if p.x.Lines(0) != 0 {
		t.Fatal("completed")
	}
}

// ask is some request, most often one that has an effect.
func ask(r *rand.Rand, places []place) api.Ask {
	few := []int{0, 1, 2, 3, 9, 10, 11, 16, 31, 32, 128, 255, 1024, -1}
	a := api.Ask{Data: uint64(few[r.IntN(len(few))]), Live: r.IntN(2) == 0, Size: few[r.IntN(10)]}
	a.Kind = []api.Kind{api.DevRead, api.DevRead, api.DevWrite, api.DevWrite, api.DevWrite, api.Poll, api.Tick, api.Input, api.Input, api.Wire, api.Load}[r.IntN(11)]
	if a.Kind == api.DevRead || a.Kind == api.DevWrite {
		at := places[r.IntN(len(places))]
		a.Addr, a.Size = at.addr, at.size
	}
	return a
}

// P18.1 to P18.3: long rows of requests, in orders that are the same each time.
func TestRows(t *testing.T) {
	r := rand.New(rand.NewPCG(18, 3))
	for range 150 {
		harts := 1 + r.IntN(8)
		places := []place{{portByte, 1}, {portByte, 1}, {portEnable, 1}, {portCause, 1}, {uartAt + 5, 1}, {priorityOf + 40, 4}, {claimOf, 4}, {claimOf, 4}, {claimOf + 4096, 4}, {enableOf, 4}, {enableOf + 128, 4}}
		for at := range uint64(3) {
			places = append(places, place{clintAt + 4*at, 4}, place{compareOf + 8*at, 8}, place{priorityOf + 4*at, 4}, place{levelOf + 4096*at, 4})
		}
		p := pair(t, harts)
		p.write(priorityOf+40, 4, 2)
		p.write(enableOf, 4, ones)
		for i := range 200 {
			p.do(r.IntN(harts+1), ask(r, places))
			p.look()
			if i%20 == 0 {
				p.same()
			}
		}
		if !p.x.Same(p.x.Clone()) {
			t.Fatal("same")
		}
	}
}

// Promises: a nil bus returns false, a zero response, 0, nothing and nil, and is the same as another nil bus.
func TestNil(t *testing.T) {
	var x *Bus
	for _, kind := range kinds() {
		a := api.Ask{Kind: kind, Addr: api.UartBase, Size: 1}
		if got, ok := x.Do(0, a); got != (api.Answer{}) || ok || x.May(a) {
			t.Fatal(kind, got, ok)
		}
	}
	for _, h := range append([]int{0, 1}, strangers...) {
		if x.Lines(h) != 0 {
			t.Fatal(h)
		}
	}
	if x.Time() != 0 || x.Out() != nil || x.Waiting() != nil || x.Clone() != nil {
		t.Fatal("nil")
	}
	some, _ := New(1)
	if !x.Same(nil) || x.Same(some) || some.Same(nil) {
		t.Fatal("Same")
	}
}

// Ways: the port's methods are the bus's.
func TestPromoted(t *testing.T) {
	x, _ := New(1)
	if !x.Input(65) || x.Line() {
		t.Fatal("Input")
	}
	if c, ok := x.Read(5); c != 97 || !ok || !x.Write(7, 9) {
		t.Fatal(c, ok)
	}
	if got, ok := x.Do(0, api.Ask{Kind: api.DevRead, Addr: api.UartBase + 7, Size: 1}); got.Data != 9 || !ok {
		t.Fatal(got, ok)
	}
}
