package ram

import (
	"bytes"
	"iter"
	"math"
	"math/big"
	"math/rand/v2"
	"slices"
	"testing"

	"roebuck/api"
	"roebuck/line"
)

const base = api.RamBase

const ones = ^uint64(0)

// sizes are numbers of bytes that no number has, and those that one has.
var sizes = []int{math.MinInt, math.MinInt + 1, -1 << 32, -64, -8, -1, 0, 1, 2, 3, 4, 5, 6, 7, 8, 9, 16, 63, 64, 65, 127, 128, 129, 191, 192, 193, 1 << 31, 1 << 32, 1<<32 + 1, 1 << 62, math.MaxInt - 1, math.MaxInt}

// far are addresses at which no memory has a byte.
var far = []uint64{0, 1, api.UartBase, base - 64, base - 8, base - 2, base - 1, base + 4096*64, base + 1<<32, base + 1<<63, 1 << 63, ones - base, ones - 63, ones - 7, ones - 1, ones}

func fresh(t *testing.T, lines int) *Ram {
	t.Helper()
	m, e := New(lines)
	if m == nil || e != api.OK {
		t.Fatal(lines, e)
	}
	return m
}

// filled is a memory with bytes of which few are 0, and these bytes.
func filled(t *testing.T, lines int) (*Ram, []byte) {
	t.Helper()
	m, b := fresh(t, lines), make([]byte, 64*lines)
	for i := range b {
		b[i] = byte(i*37 + i/64 + 1)
	}
	for i := range lines {
		if !m.SetLine(i, line.Of(b[64*i:])) {
			t.Fatal(i)
		}
	}
	return m, b
}

// content is all bytes of a memory, line by line.
func content(m *Ram) []byte {
	var b []byte
	for i := range m.Lines() {
		l := m.Line(i)
		b = append(b, l[:]...)
	}
	return b
}

func isContent(t *testing.T, m *Ram, want []byte, args ...any) {
	t.Helper()
	if got := content(m); !bytes.Equal(got, want) {
		t.Fatalf("%v: got %v, want %v", args, got, want)
	}
	for p, l := range m.kept {
		if l == (line.Line{}) {
			t.Fatalf("%v: a line of noughts is kept at %v", args, p)
		}
	}
}

// exist tells whether bytes exist, in numbers of any size.
func exist(lines int, addr uint64, n int) bool {
	end := new(big.Int).Add(new(big.Int).SetUint64(addr), big.NewInt(int64(n)))
	top := new(big.Int).SetUint64(base + uint64(lines)*64)
	return n >= 1 && addr >= base && end.Cmp(top) <= 0
}

// addresses are those in and beside a memory, and far ones.
func addresses(lines int) []uint64 {
	out := slices.Clone(far)
	for i := -9; i <= 64*lines+9; i++ {
		out = append(out, base+uint64(i))
	}
	return out
}

// pair is what an iterator yields.
type pair struct {
	i int
	l line.Line
}

func collect(seq iter.Seq2[int, line.Line]) []pair {
	var out []pair
	for i, l := range seq {
		out = append(out, pair{i, l})
	}
	return out
}

func isPairs(t *testing.T, got []pair, want ...pair) {
	t.Helper()
	if !slices.Equal(got, want) {
		t.Fatalf("got %v, want %v", got, want)
	}
}

// P10.1: from 1 to 4096 lines, all bytes 0; otherwise nil and ErrArg.
func TestNew(t *testing.T) {
	for _, n := range []int{0, -1, -4096, 4097, 4098, 1 << 32, 1<<32 + 1, math.MinInt, math.MinInt + 1, math.MaxInt} {
		if m, e := New(n); m != nil || e != api.ErrArg {
			t.Error(n, m, e)
		}
	}
	for _, n := range []int{1, 2, 63, 64, 65, 4095, 4096} {
		m := fresh(t, n)
		if m.Lines() != n {
			t.Error(n, m.Lines())
		}
		isContent(t, m, make([]byte, 64*n), n)
		isPairs(t, collect(m.Some()))
	}
}

// P10.1: the bytes of a memory, and no others.
func TestHas(t *testing.T) {
	if m := fresh(t, 2); !m.Has(base, 128) || m.Has(base, 129) {
		t.Error("the chapter's example")
	}
	for _, lines := range []int{1, 2, 3} {
		m := fresh(t, lines)
		for _, addr := range addresses(lines) {
			for _, n := range sizes {
				if got, want := m.Has(addr, n), exist(lines, addr, n); got != want {
					t.Fatalf("%d lines: Has(%d, %d): %v", lines, addr, n, got)
				}
			}
		}
	}
}

// P10.1: the greatest memory has its last byte, and none behind it.
func TestHasOfTheGreatest(t *testing.T) {
	m := fresh(t, api.MaxLines)
	const all = api.MaxLines * 64
	if !m.Has(base, all) || m.Has(base, all+1) || m.Has(base-1, all) || !m.Has(base+all-1, 1) || m.Has(base+all-1, 2) || m.Has(base+all, 1) {
		t.Error("Has")
	}
	if !m.Store(base+all-8, 8, 7) || m.Store(base+all-7, 8, 7) || m.Line(api.MaxLines - 1)[56] != 7 {
		t.Error("Store")
	}
	if v, ok := m.Load(base+all-8, 8); v != 7 || !ok {
		t.Error(v, ok)
	}
}

// P10.1: numbers in one line and in two, little-endian; 0 and false where there is none.
func TestLoad(t *testing.T) {
	for _, lines := range []int{1, 2, 3} {
		m, b := filled(t, lines)
		for _, addr := range addresses(lines) {
			for _, n := range sizes {
				is, want := n <= 8 && exist(lines, addr, n), uint64(0)
				for i := n - 1; is && i >= 0; i-- {
					want = want*256 + uint64(b[addr-base+uint64(i)])
				}
				if v, ok := m.Load(addr, n); v != want || ok != is {
					t.Fatalf("%d lines: Load(%d, %d): got %d %v, want %d %v", lines, addr, n, v, ok, want, is)
				}
			}
		}
		isContent(t, m, b, "after loads")
	}
}

// P10.1: a Store sets its bytes and no others; without a number it does nothing.
func TestStore(t *testing.T) {
	for _, lines := range []int{1, 2, 3} {
		start, b := filled(t, lines)
		for _, addr := range addresses(lines) {
			for _, n := range sizes {
				for _, v := range []uint64{0, ones, 0xf1e2d3c4b5a69788} {
					m, want := start.Clone(), slices.Clone(b)
					is, rest := n <= 8 && exist(lines, addr, n), v
					for i := 0; is && i < n; i++ {
						want[addr-base+uint64(i)], rest = byte(rest%256), rest/256
					}
					if ok := m.Store(addr, n, v); ok != is {
						t.Fatalf("%d lines: Store(%d, %d): %v", lines, addr, n, ok)
					}
					isContent(t, m, want, lines, "Store", addr, n, v)
				}
			}
		}
	}
}

// P10.1: a Store of 9 bytes returns false.
func TestStoreExample(t *testing.T) {
	m := fresh(t, 2)
	if m.Store(base, 9, 1) {
		t.Error("9 bytes")
	}
	isContent(t, m, make([]byte, 128))
}

// P10.2: lines are set and returned by their numbers; what no line has is false, and a zero line.
func TestLine(t *testing.T) {
	m, b := filled(t, 130)
	for i := range 130 {
		if m.Line(i) != line.Line(b[64*i:64*i+64]) {
			t.Fatal(i, m.Line(i))
		}
	}
	if v, ok := m.Load(base+64*129, 1); v != uint64(b[64*129]) || !ok {
		t.Error("byte 0 of line 129:", v, ok)
	}
	for _, i := range []int{-1, -64, -130, 130, 131, 192, 4096, 1 << 32, 1<<32 + 1, math.MinInt, math.MinInt + 1, math.MaxInt} {
		if m.Line(i) != (line.Line{}) || m.SetLine(i, line.Line{5}) || m.SetLine(i, line.Line{}) || m.Line(i) != (line.Line{}) {
			t.Error(i)
		}
	}
	isContent(t, m, b)
}

// P10.2: a line that is set to noughts is set, too.
func TestSetLineOfNoughts(t *testing.T) {
	m, b := filled(t, 3)
	if !m.SetLine(1, line.Line{}) || !m.SetLine(1, line.Line{}) {
		t.Fatal("SetLine")
	}
	clear(b[64:128])
	isContent(t, m, b)
	if len(m.kept) != 2 {
		t.Fatal("kept:", len(m.kept))
	}
}

// P10.2: a line that was returned is a copy.
func TestLineIsACopy(t *testing.T) {
	m, b := filled(t, 2)
	l := m.Line(0)
	l[0]++
	isContent(t, m, b)
}

// Ways: only the lines that are not all zero are kept, whatever made them so.
func TestOnlyLinesWithBytesAreKept(t *testing.T) {
	m := fresh(t, 4)
	for _, x := range []struct {
		do   func() bool
		kept int
	}{
		{func() bool { return m.Store(base, 8, 0) }, 0},
		{func() bool { return m.Store(base+60, 8, 1<<32) }, 1},
		{func() bool { return m.Store(base+60, 8, 1) }, 1},
		{func() bool { return m.Store(base+60, 8, 1<<32|1) }, 2},
		{func() bool { return m.Fill(base, make([]byte, 64)) }, 1},
		{func() bool { return m.Fill(base, []byte{0, 1}) }, 2},
		{func() bool { return m.Store(base+1, 1, 256) }, 1},
		{func() bool { return m.SetLine(1, line.Line{}) }, 0},
	} {
		if !x.do() || len(m.kept) != x.kept {
			t.Fatalf("kept: %d, want %d", len(m.kept), x.kept)
		}
	}
}

// P10.2: bytes of any number, from any address on.
func TestFill(t *testing.T) {
	all := bytes.Repeat([]byte{201, 202, 203, 0, 205, 206, 207}, 40)
	for _, lines := range []int{1, 3} {
		start, b := filled(t, lines)
		for _, addr := range addresses(lines) {
			for _, n := range []int{1, 2, 3, 8, 9, 63, 64, 65, 127, 128, 129, 130, 191, 192, 193, 280} {
				m, want, is := start.Clone(), slices.Clone(b), exist(lines, addr, n)
				if is {
					copy(want[addr-base:], all[:n])
				}
				if ok := m.Fill(addr, all[:n]); ok != is {
					t.Fatalf("%d lines: Fill(%d, %d bytes): %v", lines, addr, n, ok)
				}
				isContent(t, m, want, lines, "Fill", addr, n)
			}
		}
	}
}

// P10.2: no bytes are set anywhere.
func TestFillWithoutBytes(t *testing.T) {
	m, b := filled(t, 2)
	for _, addr := range addresses(2) {
		if !m.Fill(addr, nil) || !m.Fill(addr, []byte{}) {
			t.Fatal(addr)
		}
	}
	isContent(t, m, b)
}

// P10.2: the bytes are neither changed nor retained.
func TestFillLeavesItsArgument(t *testing.T) {
	m, all := fresh(t, 2), bytes.Repeat([]byte{7}, 100)
	if !m.Fill(base+10, all[:70]) || !bytes.Equal(all, bytes.Repeat([]byte{7}, 100)) {
		t.Fatal("changed", all)
	}
	want := content(m)
	clear(all)
	isContent(t, m, want)
}

// P10.2: the whole of the greatest memory.
func TestFillAll(t *testing.T) {
	m, b := fresh(t, api.MaxLines), make([]byte, api.MaxLines*64)
	for i := range b {
		b[i] = byte(i/64 + i)
	}
	if !m.Fill(base, b) || m.Fill(base, append(b, 1)) || m.Fill(base+1, b) {
		t.Fatal("Fill")
	}
	isContent(t, m, b)
}

// P10.2: lines with bytes, ascending, with their numbers.
func TestSome(t *testing.T) {
	m := fresh(t, api.MaxLines)
	var want []pair
	for _, i := range []int{0, 1, 63, 64, 65, 127, 128, 1000, 4032, 4095} {
		want = append(want, pair{i, line.Line{63: byte(i + 1), 5: 3}})
	}
	for _, p := range slices.Backward(want) {
		m.SetLine(p.i, p.l)
	}
	m.SetLine(2, line.Line{1})
	m.SetLine(2, line.Line{})
	seq := m.Some()
	isPairs(t, collect(seq), want...)
	isPairs(t, collect(seq), want...)
	isPairs(t, collect(m.Some()), want...)
}

// P10.2: one byte, the first or the last or one between, makes a line that is not all zero.
func TestSomeOfOneByte(t *testing.T) {
	for at := range 128 {
		m := fresh(t, 2)
		m.Store(base+uint64(at), 1, 128)
		var want line.Line
		want[at%64] = 128
		isPairs(t, collect(m.Some()), pair{at / 64, want})
	}
}

// P7: an iterator that is left yields nothing more, and begins anew the next time.
func TestSomeIsLeft(t *testing.T) {
	m, _ := filled(t, 5)
	seq := m.Some()
	for range 2 {
		n := 0
		for i := range seq {
			if i != n {
				t.Fatal(i)
			}
			if n++; n == 3 {
				break
			}
		}
		if n != 3 {
			t.Fatal(n)
		}
	}
	calls := 0
	seq(func(int, line.Line) bool { calls++; return false })
	if calls != 1 {
		t.Fatal("after the end:", calls)
	}
	pairs := 0
	for range seq {
		for range seq {
			pairs++
		}
	}
	if pairs != 25 {
		t.Fatal("one loop within another:", pairs)
	}
}

// P10.2: contents at the time at which they are yielded: lines that are changed, emptied and filled by the loop's body.
func TestSomeWhileChanging(t *testing.T) {
	m := fresh(t, 6)
	seq := m.Some()
	for _, i := range []int{1, 3, 4} {
		m.SetLine(i, line.Line{byte(i)})
	}
	var got []pair
	for i, l := range seq {
		got = append(got, pair{i, l})
		if i == 1 {
			m.SetLine(0, line.Line{10})
			m.SetLine(1, line.Line{11})
			m.SetLine(3, line.Line{})
			m.SetLine(4, line.Line{14})
			m.SetLine(5, line.Line{15})
		}
		l[0] = 99
	}
	isPairs(t, got, pair{1, line.Line{1}}, pair{4, line.Line{14}}, pair{5, line.Line{15}})
	isPairs(t, collect(seq), pair{0, line.Line{10}}, pair{1, line.Line{11}}, pair{4, line.Line{14}}, pair{5, line.Line{15}})
}

// P10.3: a copy is the same, and neither memory hangs on the other one.
func TestClone(t *testing.T) {
	for _, lines := range []int{1, 65, 200} {
		m, b := filled(t, lines)
		m.SetLine(0, line.Line{})
		clear(b[:64])
		c := m.Clone()
		if c == m || c.Lines() != lines || !c.Same(m) || !m.Same(c) {
			t.Fatal(lines)
		}
		isContent(t, c, b)
		c.Store(base, 8, ones)
		c.SetLine(lines-1, line.Line{})
		isContent(t, m, b)
		d := m.Clone()
		m.Fill(base, bytes.Repeat([]byte{9}, 64))
		isContent(t, d, b)
	}
	e := fresh(t, 3).Clone()
	if e.Lines() != 3 || !e.Store(base+128, 8, 5) {
		t.Fatal("a copy of noughts")
	}
}

// P10.3: the number of lines and all bytes count, and nothing else does.
func TestSame(t *testing.T) {
	same := func(a, b *Ram, want bool, args ...any) {
		t.Helper()
		if a.Same(b) != want || b.Same(a) != want {
			t.Fatal(args...)
		}
	}
	m, b := filled(t, 3)
	same(m, m, true, "itself")
	same(fresh(t, 3), fresh(t, 3), true, "noughts")
	same(fresh(t, 3), fresh(t, 2), false, "fewer noughts")
	same(m, fresh(t, 3), false, "bytes and noughts")
	fewer, more := fresh(t, 2), fresh(t, 4)
	fewer.Fill(base, b[:128])
	more.Fill(base, b)
	same(m, fewer, false, "fewer lines")
	same(m, more, false, "more lines")
	for i := range b {
		c := m.Clone()
		c.Store(base+uint64(i), 1, uint64(b[i]^1))
		same(m, c, false, "byte", i)
		c.Store(base+uint64(i), 1, uint64(b[i]))
		same(m, c, true, "byte again", i)
	}
	first, last := fresh(t, 70), fresh(t, 70)
	first.SetLine(0, line.Line{1})
	last.SetLine(64, line.Line{1})
	same(first, last, false, "the same line at another place")
	last.SetLine(64, line.Line{})
	last.SetLine(0, line.Line{1})
	same(first, last, true, "by another way")
}

// A nil memory has nothing, and is the same as another nil one alone.
func TestNil(t *testing.T) {
	var m *Ram
	if m.Lines() != 0 || m.Has(base, 1) || m.Has(0, 0) || m.Store(base, 8, 1) || m.Line(0) != (line.Line{}) || m.SetLine(0, line.Line{}) || m.SetLine(0, line.Line{1}) {
		t.Error("nil")
	}
	if v, ok := m.Load(base, 8); v != 0 || ok {
		t.Error(v, ok)
	}
	if m.Fill(base, []byte{1}) || m.Fill(base, nil) || m.Fill(0, []byte{}) {
		t.Error("Fill")
	}
	if seq := m.Some(); seq == nil || len(collect(seq)) != 0 {
		t.Error("Some")
	}
	if m.Clone() != nil {
		t.Error("Clone")
	}
	o := fresh(t, 1)
	if !m.Same(nil) || m.Same(o) || o.Same(nil) {
		t.Error("Same")
	}
}

// P10.4: the chapter's example.
func TestExample(t *testing.T) {
	one := fresh(t, 1)
	if !one.Store(base+62, 2, 513) {
		t.Fatal("Store")
	}
	if v, ok := one.Load(base+62, 2); v != 513 || !ok {
		t.Error(v, ok)
	}
	if v, ok := one.Load(base+62, 4); v != 0 || ok {
		t.Error(v, ok)
	}
	two := fresh(t, 2)
	two.Store(base+62, 2, 513)
	if v, ok := two.Load(base+62, 4); v != 513 || !ok {
		t.Error(v, ok)
	}
}

// P10.4: Load returns what was stored, till one of its bytes is changed; a Store beside it changes nothing.
func TestLoadReturnsWhatWasStored(t *testing.T) {
	const v = 0xf1e2d3c4b5a69788
	for n := 1; n <= 8; n++ {
		for at := 40; at <= 90; at++ {
			m, _ := filled(t, 3)
			addr, want := base+uint64(at), uint64(v)&(ones>>(64-8*n))
			m.Store(addr, n, v)
			m.Store(addr-8, 8, ones)
			m.Store(addr+uint64(n), 8, ones)
			if got, ok := m.Load(addr, n); got != want || !ok {
				t.Fatalf("%d bytes at %d: %d", n, at, got)
			}
			for i := range n {
				m.Store(addr+uint64(i), 1, 0)
				want &^= 255 << (8 * i)
				if got, ok := m.Load(addr, n); got != want || !ok {
					t.Fatalf("%d bytes at %d without byte %d: %d", n, at, i, got)
				}
			}
		}
	}
}

// P10.1, P10.2, P10.4: many calls, one after another, against a slice of bytes; the same ones every time.
func TestManyCalls(t *testing.T) {
	const lines = 67
	r := rand.New(rand.NewPCG(10, 4))
	m, b := fresh(t, lines), make([]byte, lines*64)
	for round := range 20000 {
		at, n, v := r.IntN(lines*64+20)-10, r.IntN(11)-1, r.Uint64()>>r.IntN(64)
		addr := base + uint64(at)
		switch is := n <= 8 && exist(lines, addr, n); r.IntN(4) {
		case 0, 1:
			if m.Store(addr, n, v) != is {
				t.Fatal("Store", addr, n)
			}
			for i := 0; is && i < n; i++ {
				b[at+i] = byte(v >> (8 * i))
			}
		case 2:
			some := make([]byte, r.IntN(200))
			for i := range some {
				some[i] = byte(v >> (i % 64))
			}
			if m.Fill(addr, some) != (len(some) == 0 || exist(lines, addr, len(some))) {
				t.Fatal("Fill", addr, len(some))
			} else if exist(lines, addr, len(some)) {
				copy(b[at:], some)
			}
		case 3:
			var want uint64
			for i := 0; is && i < n; i++ {
				want |= uint64(b[at+i]) << (8 * i)
			}
			if got, ok := m.Load(addr, n); got != want || ok != is {
				t.Fatal("Load", addr, n, got, want)
			}
		}
		if round%500 == 0 {
			isContent(t, m, b, round)
		}
	}
	isContent(t, m, b)
}
