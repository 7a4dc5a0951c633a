package irq

import (
	"math"
	"math/rand/v2"
	"testing"

	"roebuck/api"
	"roebuck/cause"
	"roebuck/csr"
	"roebuck/csrfile"
)

const ones = ^uint64(0)

// levels are the privileges, and numbers that are none.
var levels = []api.Priv{api.User, api.Super, 2, api.Machine, 4, 5, 7, -1, -2, -3, math.MinInt, math.MaxInt, 1 << 32, 1<<32 + 1, 1<<32 + 3, 256 + 1, 256 + 3}

// file is a file with these words.
func file(mip, mie, mideleg, mstatus uint64) csrfile.File {
	f := csrfile.New(0)
	f.Set(csr.Mip, mip)
	f.Set(csr.Mie, mie)
	f.Set(csr.Mideleg, mideleg)
	f.Set(csr.Mstatus, mstatus)
	return f
}

// spread is all words whose bits are some of these.
func spread(places ...int) []uint64 {
	out := []uint64{0}
	for _, i := range places {
		for _, w := range out {
			out = append(out, w|1<<i)
		}
	}
	return out
}

// word is the word of a set.
func word(b bits) uint64 {
	var w uint64
	for i := range b {
		w |= 1 << i
	}
	return w
}

// each calls a function with files of all words that the chapter looks at.
func each(use func(f *csrfile.File, b book)) {
	for _, mip := range spread(1, 5, 9) {
		for _, mie := range spread(1, 3, 5, 7, 9, 11) {
			for _, mideleg := range spread(1, 5, 9) {
				for _, mstatus := range spread(1, 3) {
					f := file(mip, mie, mideleg, mstatus)
					use(&f, read(&f))
				}
			}
		}
	}
}

// P24.1: Waiting and Wakes: all words, and all lines.
func TestWaiting(t *testing.T) {
	each(func(f *csrfile.File, b book) {
		for _, lines := range spread(3, 7, 9, 11) {
			want := word(b.waiting(lines))
			if got := Waiting(f, lines); got != want || Wakes(f, lines) != (want != 0) {
				t.Fatalf("%v %x: %x", b, lines, got)
			}
		}
	})
}

// P24.1: Waiting: of the lines only bits 3, 7, 9 and 11 count, and of mip its own bits as well; mie has to have them.
func TestWaitingBits(t *testing.T) {
	for i := range 64 {
		want := uint64(0)
		if i == 3 || i == 7 || i == 9 || i == 11 {
			want = 1 << i
		}
		f := file(0, ones, 0, 0)
		if got := Waiting(&f, 1<<i); got != want || Wakes(&f, 1<<i) != (want != 0) {
			t.Fatal("line", i, got)
		}
		f = file(1<<i, ones, 0, 0)
		want = 0
		if i == 1 || i == 5 || i == 9 {
			want = 1 << i
		}
		if got := Waiting(&f, 0); got != want || Wakes(&f, 0) != (want != 0) {
			t.Fatal("mip", i, got)
		}
		f = file(ones, 1<<i, 0, 0)
		want = 0
		if i < 12 && i%2 == 1 {
			want = 1 << i
		}
		if got := Waiting(&f, ones); got != want || Wakes(&f, ones) != (want != 0) {
			t.Fatal("mie", i, got)
		}
	}
}

// P24.1: Next: all words, lines and privileges, and numbers that are no privilege, against the book.
func TestNext(t *testing.T) {
	each(func(f *csrfile.File, b book) {
		was := *f
		for _, lines := range spread(3, 7, 9, 11) {
			for _, priv := range []api.Priv{api.User, api.Super, api.Machine, 2} {
				want, any := b.next(priv, lines)
				if c, ok := Next(f, priv, lines); c != want || ok != any {
					t.Fatalf("%v %d %x: %v %v", b, priv, lines, c, ok)
				}
			}
		}
		if *f != was {
			t.Fatal("changed")
		}
	})
}

// P24.1: Next: numbers that are no privilege are held against Machine and Super as they are.
func TestNextNoPrivilege(t *testing.T) {
	each(func(f *csrfile.File, b book) {
		for _, lines := range []uint64{0, ones} {
			for _, priv := range levels {
				want, any := b.next(priv, lines)
				if c, ok := Next(f, priv, lines); c != want || ok != any {
					t.Fatalf("%v %d %x: %v %v", b, priv, lines, c, ok)
				}
			}
		}
	})
}

// P24.1: Next: the example: with all interrupts in mie and MIE 0, line 7 is taken in User, and not in Machine.
func TestNextExample(t *testing.T) {
	f := file(0, ones, 0, 0)
	if c, ok := Next(&f, api.User, 1<<7); !ok || c != (cause.Cause{Interrupt: true, Code: cause.MachineTime}) {
		t.Fatal(c, ok)
	}
	if c, ok := Next(&f, api.Machine, 1<<7); ok || c != (cause.Cause{}) {
		t.Fatal(c, ok)
	}
}

// P24.1: Next: Machine's interrupts come first, whatever their order beside Super's; those that may not enter leave the others their turn.
func TestNextOrder(t *testing.T) {
	for _, x := range []struct {
		mip, mideleg, mstatus uint64
		priv                  api.Priv
		lines                 uint64
		want                  int
	}{
		{1 << 9, 0x222, 0, api.User, 1 << 7, 7}, {1<<9 | 1<<5, 1 << 9, 0, api.User, 0, 5}, {1<<9 | 1<<5, 1 << 9, 2, api.Super, 0, 5},
		{1<<9 | 1<<5, 0, 0, api.User, 0, 9}, {1<<1 | 1<<5, 0, 0, api.User, 0, 1}, {0, 0, 0, api.User, ones, 11}, {0, 0, 0, api.User, 1<<3 | 1<<7 | 1<<9, 3},
		{1 << 9, 1 << 9, 0, api.Super, 0, -1}, {1 << 9, 1 << 9, 2, api.Super, 0, 9}, {1 << 9, 1 << 9, 8, api.Super, 0, -1}, {1 << 9, 0, 0, api.Super, 0, 9},
		{1 << 9, 1 << 9, 2 | 8, api.Machine, 0, -1}, {1 << 9, 0, 8, api.Machine, 0, 9}, {1 << 9, 0, 2, api.Machine, 0, -1}, {1<<9 | 1<<5, 1 << 9, 2 | 8, api.Machine, 0, 5},
		{0, 1 << 9, 2, api.Super, 1 << 9, 9}, {0, 0x222, 2, api.Super, 1<<9 | 1<<7, 7}, {0, 0x222, 2, api.Super, 0, -1},
	} {
		f := file(x.mip, ones, x.mideleg, x.mstatus)
		c, ok := Next(&f, x.priv, x.lines)
		if ok != (x.want >= 0) || ok && c != (cause.Cause{Interrupt: true, Code: x.want}) || !ok && c != (cause.Cause{}) {
			t.Fatal(x, c, ok)
		}
	}
}

// P24.1: Wakes: it does not hang on what is permitted.
func TestWakes(t *testing.T) {
	for _, mideleg := range []uint64{0, ones} {
		for _, mstatus := range []uint64{0, 2, 8, ones} {
			f := file(2, 2|1<<7, mideleg, mstatus)
			if !Wakes(&f, 0) || !Wakes(&f, ones) {
				t.Fatal(mideleg, mstatus)
			}
			f.Set(csr.Mip, 0)
			if Wakes(&f, 0) || Wakes(&f, 1<<9|1<<3|1<<11) || !Wakes(&f, 1<<7) {
				t.Fatal(mideleg, mstatus)
			}
			f.Set(csr.Mie, 0)
			if Wakes(&f, ones) {
				t.Fatal(mideleg, mstatus)
			}
		}
	}
}

// P24.2: no interrupt enters a privilege below the current one; the one that is taken is pending and wakes; in Machine with MIE 0 none is.
func TestConsequences(t *testing.T) {
	each(func(f *csrfile.File, b book) {
		for _, lines := range spread(3, 7, 9, 11) {
			for _, priv := range []api.Priv{api.User, api.Super, api.Machine} {
				c, ok := Next(f, priv, lines)
				if !ok {
					continue
				}
				to := cause.To(c, priv, 0, f.Get(csr.Mideleg, 0))
				if to < priv || to == priv && !b.permits[to] {
					t.Fatalf("%v %d %x: %v enters %d", b, priv, lines, c, to)
				}
				if !c.Interrupt || Waiting(f, lines)>>c.Code&1 != 1 || !Wakes(f, lines) {
					t.Fatalf("%v %d %x: %v", b, priv, lines, c)
				}
				if priv == api.Machine && !b.permits[api.Machine] {
					t.Fatalf("%v %x: %v", b, lines, c)
				}
			}
		}
	})
}

// P24.2: the example: with mie 136, MIE 0 and lines 136, machine-soft is taken in User, none in Machine, and the hart wakes.
func TestConsequencesExample(t *testing.T) {
	f := file(0, 136, 0, 0)
	if c, ok := Next(&f, api.User, 136); !ok || c != (cause.Cause{Interrupt: true, Code: cause.MachineSoft}) {
		t.Fatal(c, ok)
	}
	if c, ok := Next(&f, api.Machine, 136); ok || c != (cause.Cause{}) {
		t.Fatal(c, ok)
	}
	if !Wakes(&f, 136) || Waiting(&f, 136) != 136 {
		t.Fatal("wakes")
	}
}

// A nil file: 0, a zero cause, and false.
func TestNil(t *testing.T) {
	for _, lines := range []uint64{0, 8, 136, ones} {
		if Waiting(nil, lines) != 0 || Wakes(nil, lines) {
			t.Fatal(lines)
		}
		for _, priv := range levels {
			if c, ok := Next(nil, priv, lines); ok || c != (cause.Cause{}) {
				t.Fatal(priv, lines, c, ok)
			}
		}
	}
}

// The zero value of a file has nothing pending till mie is written.
func TestZeroValue(t *testing.T) {
	var f csrfile.File
	if _, ok := Next(&f, api.User, ones); ok || Wakes(&f, ones) || Waiting(&f, ones) != 0 {
		t.Fatal("zero value")
	}
	f.Set(csr.Mie, ones)
	if c, ok := Next(&f, api.User, ones); !ok || c.Code != cause.MachineOuter || Waiting(&f, ones) != 0xa88 {
		t.Fatal(c, ok)
	}
}

// Fixed rows of writes and lines of any bits, against the book; nothing of the file changes.
func TestRows(t *testing.T) {
	r := rand.New(rand.NewPCG(24, 1))
	written := []int{csr.Mstatus, csr.Sstatus, csr.Mideleg, csr.Mie, csr.Sie, csr.Mip, csr.Sip}
	for row := range 40 {
		f := csrfile.New(row)
		for range 200 {
			f.Set(written[r.IntN(len(written))], r.Uint64())
			was, b := f, read(&f)
			lines, priv := r.Uint64()&r.Uint64(), levels[r.IntN(len(levels))]
			want, any := b.next(priv, lines)
			if c, ok := Next(&f, priv, lines); c != want || ok != any {
				t.Fatalf("%v %d %x: %v %v", b, priv, lines, c, ok)
			}
			if got := Waiting(&f, lines); got != word(b.waiting(lines)) || Wakes(&f, lines) != (got != 0) {
				t.Fatalf("%v %x: %x", b, lines, got)
			}
			if f != was {
				t.Fatal("changed")
			}
		}
	}
}
