package status

import (
	"math"
	"math/rand/v2"
	"strings"
	"testing"

	"roebuck/api"
	"roebuck/csr"
)

// privs are the privileges, and numbers that are none.
var privs = []api.Priv{api.User, api.Super, 2, api.Machine, 4, 5, 7, 9, -1, -2, -3, math.MinInt, math.MinInt + 1, math.MaxInt, 1 << 32, 1<<32 + 1, 1<<32 + 3, 256 + 1, 256 + 3}

// words are all words of the fields that traps change, alone and with all other bits; each bit alone, and all but each; and a fixed row.
func words() []uint64 {
	all := ^uint64(0)
	out := []uint64{0, all, First, 2176, 8, 136}
	for n := range uint64(256) {
		w := n&1<<1 | n>>1&1<<3 | n>>2&1<<5 | n>>3&1<<7 | n>>4&1<<8 | n>>5&3<<11 | n>>7&1<<17
		out = append(out, w, w|First, w|(all&^0x219aa))
	}
	for i := range 64 {
		out = append(out, 1<<i, all&^(1<<i))
	}
	r := rand.New(rand.NewPCG(20, 1))
	for range 500 {
		out = append(out, r.Uint64())
	}
	return out
}

// The book reads and writes words as they are.
func TestBook(t *testing.T) {
	for _, w := range words() {
		if read(w).word() != w {
			t.Fatal(w)
		}
	}
}

// First is the word whose bits 33 and 35 alone are 1.
func TestFirst(t *testing.T) {
	if First != 1<<33+1<<35 {
		t.Fatal(uint64(First))
	}
	if w := uint64(First); csr.Legal(csr.Mstatus, w, 0) != w || csr.Legal(csr.Mstatus, w, ^uint64(0)) != w|8264106 {
		t.Fatal("written")
	}
}

// P20.1: Enter: the examples, and what is no privilege.
func TestEnterExamples(t *testing.T) {
	for _, x := range []struct {
		w        uint64
		from, to api.Priv
		want     uint64
	}{
		{8, api.Super, api.Machine, 2176}, {8, api.User, api.Machine, 128}, {8, api.Machine, api.Machine, 128 + 3<<11}, {0, api.Machine, api.Machine, 3 << 11},
		{2, api.Super, api.Super, 1<<5 | 1<<8}, {2 | 1<<8, api.User, api.Super, 1 << 5}, {2 | 1<<8, api.Machine, api.Super, 1 << 5}, {1 << 5, api.User, api.Super, 0}, {1 << 7, api.User, api.Machine, 0},
		{3 << 11, api.User, api.Machine, 0}, {10, api.User, api.Super, 8 | 1<<5}, {10, api.User, api.Machine, 2 | 1<<7}, {1 << 17, api.Machine, api.Machine, 1<<17 | 3<<11},
		{9, 2, api.Machine, 9}, {10, 2, api.Super, 10}, {10, -1, api.Machine, 10}, {10, 4, api.Machine, 10}, {10, 1<<32 + 1, api.Super, 10},
		{10, api.User, api.User, 10}, {10, api.User, 2, 10}, {10, api.Machine, 4, 10}, {10, api.User, -1, 10}, {10, api.User, 1<<32 + 3, 10},
	} {
		if got := Enter(x.w, x.from, x.to); got != x.want {
			t.Fatal(x, got)
		}
	}
}

// P20.1: Enter: all pairs of privileges, and of numbers that are none.
func TestEnter(t *testing.T) {
	for _, w := range words() {
		for _, from := range privs {
			for _, to := range privs {
				if got := Enter(w, from, to); got != read(w).enter(from, to).word() {
					t.Fatalf("%x %d %d: %x", w, from, to, got)
				}
			}
		}
	}
}

// P20.1: Leave: the examples, MPP 2, and what is no privilege that handles traps.
func TestLeaveExamples(t *testing.T) {
	for _, x := range []struct {
		w    uint64
		at   api.Priv
		want uint64
		to   api.Priv
	}{
		{2176 + 1<<17, api.Machine, 136, api.Super}, {2176, api.Machine, 136, api.Super},
		{3<<11 | 1<<17, api.Machine, 1<<7 | 1<<17, api.Machine}, {2<<11 | 1<<17, api.Machine, 1 << 7, api.User}, {1 << 17, api.Machine, 1 << 7, api.User}, {8, api.Machine, 1 << 7, api.User},
		{1<<5 | 1<<8 | 1<<17, api.Super, 2 | 1<<5, api.Super}, {2, api.Super, 1 << 5, api.User}, {1<<5 | 1<<17, api.Super, 2 | 1<<5, api.User}, {3 << 11, api.Super, 3<<11 | 1<<5, api.User},
		{2176 + 1<<17, api.User, 2176 + 1<<17, api.User}, {2176 | 1<<8, 2, 2176 | 1<<8, api.User}, {3 << 11, 4, 3 << 11, api.User}, {3 << 11, -1, 3 << 11, api.User}, {3 << 11, 1<<32 + 3, 3 << 11, api.User},
	} {
		if got, to := Leave(x.w, x.at); got != x.want || to != x.to {
			t.Fatal(x, got, to)
		}
	}
}

// P20.1: Leave: all words with all privileges, and with numbers that are none.
func TestLeave(t *testing.T) {
	for _, w := range words() {
		for _, at := range privs {
			want, priv := read(w).leave(at)
			if got, to := Leave(w, at); got != want.word() || to != priv {
				t.Fatalf("%x %d: %x %d", w, at, got, to)
			}
		}
	}
}

// P20.2: View: the fields of a supervisor, and nothing of a machine.
func TestView(t *testing.T) {
	if View(^uint64(0)) != 786722|1<<33 || View(0) != 0 || View(First) != 1<<33 || View(1<<35) != 0 || View(3<<11|8|1<<7) != 0 {
		t.Fatal("edges")
	}
	for _, w := range words() {
		if got := View(w); got != read(w).view().word() {
			t.Fatalf("%x: %x", w, got)
		}
	}
}

// P20.2: Lay: what a supervisor writes changes what it sees but bit 33, and nothing else.
func TestLay(t *testing.T) {
	if Lay(First, ^uint64(0)) != First|786722 || Lay(^uint64(0), 0) != ^uint64(786722) || Lay(0, 1<<33|1<<35) != 0 || Lay(2<<11, 0) != 2<<11 {
		t.Fatal("edges")
	}
	all := words()
	r := rand.New(rand.NewPCG(20, 2))
	for _, w := range all {
		for range 100 {
			v := all[r.IntN(len(all))]
			got := Lay(w, v)
			if got != read(w).lay(read(v)).word() || got != csr.Legal(csr.Sstatus, w, v) {
				t.Fatalf("%x %x: %x", w, v, got)
			}
			if View(got) != View(v)&^(1<<33)|w&(1<<33) || Lay(w, View(w)) != w {
				t.Fatalf("%x %x: %x is seen as %x", w, v, got, View(got))
			}
		}
	}
}

// P20.2: Data: MPP counts in Machine with MPRV alone.
func TestData(t *testing.T) {
	for _, x := range []struct {
		w          uint64
		priv, want api.Priv
	}{
		{1<<17 | 1<<11, api.Machine, api.Super}, {1<<17 | 2<<11, api.Machine, api.User}, {1<<17 | 3<<11, api.Machine, api.Machine}, {1 << 17, api.Machine, api.User},
		{1 << 11, api.Machine, api.Machine}, {1 << 17, api.Super, api.Super}, {1<<17 | 3<<11, api.User, api.User}, {1<<17 | 3<<11, 2, 2}, {1 << 17, -1, -1},
	} {
		if got := Data(x.w, x.priv); got != x.want {
			t.Fatal(x, got)
		}
	}
	for _, w := range words() {
		for _, p := range privs {
			if got := Data(w, p); got != read(w).data(p) {
				t.Fatalf("%x %d: %d", w, p, got)
			}
		}
	}
}

// P20.2: Lets: always from below, never from above, and from the same one as SIE or MIE says.
func TestLets(t *testing.T) {
	all := ^uint64(0)
	for _, x := range []struct {
		w        uint64
		priv, to api.Priv
		want     bool
	}{
		{0, api.User, api.Super, true}, {0, api.User, api.Machine, true}, {0, api.Super, api.Machine, true},
		{0, api.Super, api.Super, false}, {2, api.Super, api.Super, true}, {all &^ 2, api.Super, api.Super, false},
		{0, api.Machine, api.Machine, false}, {8, api.Machine, api.Machine, true}, {all &^ 8, api.Machine, api.Machine, false},
		{all, api.Machine, api.Super, false}, {all, api.User, api.User, false}, {all, api.User, 2, false}, {all, api.User, 4, false}, {all, api.User, -1, false}, {all, -1, api.User, false}, {all, api.User, 1<<32 + 3, false},
	} {
		if got := Lets(x.w, x.priv, x.to); got != x.want {
			t.Fatal(x, got)
		}
	}
	for _, w := range words() {
		for _, p := range privs {
			for _, to := range privs {
				if got := Lets(w, p, to); got != read(w).lets(p, to) {
					t.Fatalf("%x %d %d: %v", w, p, to, got)
				}
			}
		}
	}
}

// P20.2: Has: eleven names, each with its bit, and no others.
func TestHas(t *testing.T) {
	places := map[string]int{"sie": 1, "mie": 3, "spie": 5, "mpie": 7, "spp": 8, "mprv": 17, "sum": 18, "mxr": 19, "tvm": 20, "tw": 21, "tsr": 22}
	for name, at := range places {
		if !Has(1<<at, name) || Has(^uint64(0)&^(1<<at), name) {
			t.Fatal(name)
		}
		for _, other := range []string{strings.ToUpper(name), name + " ", " " + name, name[1:], name + "x", name + "\x00", name + name} {
			if Has(^uint64(0), other) {
				t.Fatalf("%q", other)
			}
		}
	}
	for _, other := range []string{"", "mpp", "uxl", "sxl", "first", "1", "uie", "\xff", "mode"} {
		if Has(^uint64(0), other) {
			t.Fatalf("%q", other)
		}
	}
	for _, w := range words() {
		for name, is := range read(w).has() {
			if Has(w, name) != is {
				t.Fatalf("%x %s", w, name)
			}
		}
	}
}

// P20.3: a trap and its return: the privilege is the previous one, and interrupts are permitted as before;
// between them, none enters the privilege that handles the trap.
func TestTrapAndReturn(t *testing.T) {
	if w, p := Leave(2176, api.Machine); w != 136 || p != api.Super {
		t.Fatal("example", w, p)
	}
	for _, w := range words() {
		for _, way := range [][2]api.Priv{{0, 1}, {1, 1}, {0, 3}, {1, 3}, {3, 3}} {
			from, to := way[0], way[1]
			inside := Enter(w, from, to)
			if Lets(inside, to, to) {
				t.Fatalf("%x %d %d: %x", w, from, to, inside)
			}
			back, p := Leave(inside, to)
			if p != from || Has(back, "sie") != Has(w, "sie") || Has(back, "mie") != Has(w, "mie") {
				t.Fatalf("%x %d %d: %x %d", w, from, to, back, p)
			}
			for _, next := range []api.Priv{api.Super, api.Machine} {
				if Lets(back, p, next) != Lets(w, from, next) {
					t.Fatalf("%x %d %d %d: %x", w, from, to, next, back)
				}
			}
		}
	}
}

// T2: traps of a supervisor change no field of a machine's traps, and the other way round.
func TestTrapsAreIndependent(t *testing.T) {
	const machines, supers = uint64(1<<3 | 1<<7 | 3<<11), uint64(1<<1 | 1<<5 | 1<<8)
	for _, w := range words() {
		for _, from := range []api.Priv{api.User, api.Super, api.Machine} {
			s, m := Enter(w, from, api.Super), Enter(w, from, api.Machine)
			if (s^w)&^supers != 0 || (m^w)&^machines != 0 {
				t.Fatalf("%x %d: %x %x", w, from, s, m)
			}
		}
		s, _ := Leave(w, api.Super)
		m, _ := Leave(w, api.Machine)
		if (s^w)&^(supers|1<<17) != 0 || (m^w)&^(machines|1<<17) != 0 {
			t.Fatalf("%x: %x %x", w, s, m)
		}
	}
}
