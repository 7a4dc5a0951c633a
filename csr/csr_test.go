package csr

import (
	"math"
	"math/rand/v2"
	"strings"
	"testing"

	"roebuck/api"
)

// constants is the package's constants, by their names with a lower-case first letter.
func constants() map[string]int {
	return map[string]int{
		"sstatus": Sstatus, "sie": Sie, "stvec": Stvec, "scounteren": Scounteren, "sscratch": Sscratch,
		"sepc": Sepc, "scause": Scause, "stval": Stval, "sip": Sip, "satp": Satp,
		"mstatus": Mstatus, "misa": Misa, "medeleg": Medeleg, "mideleg": Mideleg, "mie": Mie, "mtvec": Mtvec,
		"mcounteren": Mcounteren, "mscratch": Mscratch, "mepc": Mepc, "mcause": Mcause, "mtval": Mtval, "mip": Mip,
		"shootva": Shootva, "shootasid": Shootasid, "shoot": Shoot, "mcycle": Mcycle, "minstret": Minstret,
		"cycle": Cycle, "time": Time, "instret": Instret,
		"mvendorid": Mvendorid, "marchid": Marchid, "mimpid": Mimpid, "mhartid": Mhartid,
	}
}

// strangers are numbers far from those of any CSR, many of them equal to one in their lowest bits.
func strangers() []int {
	out := []int{math.MinInt, math.MinInt + Sstatus, math.MaxInt, math.MaxInt - 1, -1, -Sstatus, -Mhartid}
	for _, n := range constants() {
		out = append(out, n+4096, n+8192, n+1<<16, n+1<<32, n-1<<12, n-1<<32, n|math.MinInt, ^n, -n)
	}
	return out
}

// numbers are all numbers of 12 bits, some on both sides of them, and strangers.
func numbers() []int {
	out := strangers()
	for n := -5000; n < 9000; n++ {
		out = append(out, n)
	}
	return out
}

// privs are the privileges, and numbers that are none.
var privs = []api.Priv{api.User, api.Super, 2, api.Machine, 4, 5, 7, -1, -2, -3, math.MinInt, math.MaxInt, 1 << 32, 1<<32 + 1, 1<<32 + 3, 256 + 3}

// words are words that matter to some CSR: edges, each bit, each but one, both modes of translation and all others.
func words() []uint64 {
	all := ^uint64(0)
	out := []uint64{0, all, 0x5555555555555555, 0xaaaaaaaaaaaaaaaa, 786722, 8264106, 46079, 546, 2730, 65535, 1023, 1 << 11, 2 << 11, 3 << 11}
	for i := range 64 {
		out = append(out, 1<<i, all&^(1<<i))
	}
	for mode := range uint64(16) {
		out = append(out, mode<<60, mode<<60|9, mode<<60|1<<60-1)
	}
	return out
}

// The constants are the names with the numbers of the table.
func TestConstants(t *testing.T) {
	found := constants()
	if len(found) != 34 {
		t.Fatal(len(found))
	}
	for _, e := range book(t) {
		if found[e.name] != e.number {
			t.Fatal(e.name, found[e.name])
		}
	}
}

// P19.1: Known, Name: the CSRs of the table, and no others.
func TestKnownAndName(t *testing.T) {
	want := map[int]string{}
	for _, e := range book(t) {
		want[e.number] = e.name
	}
	for _, n := range numbers() {
		name, is := want[n]
		if Known(n) != is || Name(n) != name {
			t.Fatal(n, Known(n), Name(n))
		}
	}
	if Name(5) != "" || !Known(256) || Known(257) {
		t.Fatal("edges")
	}
}

// P19.1: Find: each name, and nothing else that looks like one.
func TestFind(t *testing.T) {
	names := constants()
	for _, e := range book(t) {
		if n, ok := Find(e.name); n != e.number || !ok {
			t.Fatal(e.name, n, ok)
		}
		for _, other := range []string{
			strings.ToUpper(e.name), strings.ToUpper(e.name[:1]) + e.name[1:], e.name + " ", " " + e.name, e.name + "x", e.name + "\x00",
			"x" + e.name, e.name[:len(e.name)-1], e.name[1:], e.name + e.name,
		} {
			// A piece of mcycle is cycle.
			if n, ok := Find(other); n != names[other] || ok != (n != 0) {
				t.Fatalf("%q: %d %v", other, n, ok)
			}
		}
	}
	for _, other := range []string{"", " ", "256", "0", "ustatus", "hstatus", "sedeleg", "mcounterem", "\xff", "m\xc3", strings.Repeat("m", 9999), "stimecmp", "mstatush"} {
		if n, ok := Find(other); n != 0 || ok {
			t.Fatalf("%q: %d %v", other, n, ok)
		}
	}
}

// P19.1: All: the 34 CSRs of the table, in its order, which is ascending.
func TestAll(t *testing.T) {
	want := book(t)
	all := All()
	for range 3 {
		i, last := 0, -1
		for n, name := range all {
			if i >= len(want) || n != want[i].number || name != want[i].name || n <= last {
				t.Fatal(i, n, name)
			}
			i, last = i+1, n
		}
		if i != 34 {
			t.Fatal(i)
		}
	}
}

// P7: an iterator starts from the beginning each time, and yields nothing more once the loop is left.
func TestAllLeft(t *testing.T) {
	want := book(t)
	all := All()
	for stop := 1; stop <= len(want); stop++ {
		calls := 0
		all(func(n int, name string) bool {
			if n != want[calls].number || name != want[calls].name {
				t.Fatal(stop, calls, n, name)
			}
			calls++
			return calls < stop
		})
		if calls != stop {
			t.Fatal(stop, calls)
		}
	}
	for n := range all {
		inner := 0
		for range all {
			inner++
		}
		if inner != 34 {
			t.Fatal(n, inner)
		}
	}
}

// P19.2: Least: bits 8 and 9 of the number; Machine if there is no such CSR.
func TestLeast(t *testing.T) {
	if Least(Shoot) != api.Super || Least(9) != api.Machine || Least(Cycle) != api.User || Least(Mcycle) != api.Machine || Least(Mhartid) != api.Machine {
		t.Fatal("examples")
	}
	want := map[int]api.Priv{}
	for _, e := range book(t) {
		want[e.number] = e.least()
	}
	for _, n := range numbers() {
		least, is := want[n]
		if !is {
			least = api.Machine
		}
		if Least(n) != least {
			t.Fatal(n, Least(n))
		}
	}
}

// P19.2: ReadOnly: bits 10 and 11 of the number are both 1; false if there is no such CSR.
func TestReadOnly(t *testing.T) {
	for n, want := range map[int]bool{Cycle: true, Time: true, Instret: true, Mvendorid: true, Marchid: true, Mimpid: true, Mhartid: true, Mcycle: false, Minstret: false, Shoot: false, Misa: false, 3075: false, 4095: false, -1: false} {
		if ReadOnly(n) != want {
			t.Fatal(n)
		}
	}
	want := map[int]bool{}
	for _, e := range book(t) {
		want[e.number] = e.readOnly()
	}
	for _, n := range numbers() {
		if ReadOnly(n) != want[n] {
			t.Fatal(n, ReadOnly(n))
		}
	}
}

// P19.2: May: the examples.
func TestMayExamples(t *testing.T) {
	for _, x := range []struct {
		n     int
		priv  api.Priv
		write bool
		want  bool
	}{
		{Time, api.User, false, true}, {Time, api.User, true, false}, {Time, api.Machine, true, false},
		{Mhartid, api.Machine, false, true}, {Mhartid, api.Machine, true, false}, {Mhartid, api.Super, false, false},
		{Satp, api.User, false, false}, {Satp, api.Super, true, true}, {Satp, api.Machine, true, true}, {Satp, 2, false, false},
		{Mip, api.Super, false, false}, {Mip, 2, false, false}, {Mip, 4, false, false}, {Mip, api.Machine, true, true},
		{Misa, api.Machine, true, true}, {Shoot, api.Super, true, true}, {Time, 2, false, false}, {Time, -1, false, false}, {Time, 4, false, false},
		{0, api.Machine, false, false}, {0, api.User, false, false}, {3075, api.Machine, false, false},
	} {
		if got := May(x.n, x.priv, x.write); got != x.want {
			t.Fatal(x, got)
		}
	}
}

// P19.2: May: every number with every privilege, and numbers that are none.
func TestMay(t *testing.T) {
	want := map[int]entry{}
	for _, e := range book(t) {
		want[e.number] = e
	}
	for _, n := range numbers() {
		for _, p := range privs {
			e, is := want[n]
			is = is && (p == 0 || p == 1 || p == 3) && p >= e.least()
			if May(n, p, false) != is || May(n, p, true) != (is && !e.readOnly()) {
				t.Fatal(n, p)
			}
		}
	}
}

// P19.3: Mask: the table's bits; 0 if there is no such CSR.
func TestMask(t *testing.T) {
	want := map[int]uint64{}
	for _, e := range book(t) {
		want[e.number] = sum(e.writes)
	}
	for _, n := range numbers() {
		if Mask(n) != want[n] {
			t.Fatal(n, Mask(n))
		}
	}
	if Mask(Mtvec) != ^uint64(2) || Mask(Sepc) != ^uint64(3) || Mask(Satp) != ^uint64(0) || Mask(Misa) != 0 || Mask(Shoot) != 1023 {
		t.Fatal("edges")
	}
}

// P19.3, P19.4: Legal: the examples, and both exceptions with values that stand already.
func TestLegalExamples(t *testing.T) {
	all := ^uint64(0)
	for _, x := range []struct {
		n            int
		old, v, want uint64
	}{
		{Mtvec, 0, 7, 5}, {Satp, 5, 1 << 60, 5}, {Mstatus, 0, all, 8264106}, {Mstatus, 0, 4096, 0},
		{Mtvec, 2, 0, 2}, {Mtvec, all, 0, 2}, {Stvec, 2, 5, 7}, {Mepc, 0, 7, 4}, {Sepc, 3, 8, 11},
		{Mstatus, 1 << 11, 2 << 11, 1 << 11}, {Mstatus, 3 << 11, 2 << 11, 3 << 11}, {Mstatus, 2 << 11, 2 << 11, 2 << 11}, {Mstatus, 2 << 11, 1 << 11, 1 << 11},
		{Mstatus, 3 << 11, 2<<11 | 8, 3<<11 | 8}, {Mstatus, 10 << 32, 0, 10 << 32}, {Mstatus, 10 << 32, all, 10<<32 | 8264106},
		{Sstatus, 2 << 11, 1 << 11, 2 << 11}, {Sstatus, 10 << 32, all, 10<<32 | 786722},
		{Satp, 5, 8<<60 | 9, 8<<60 | 9}, {Satp, 5, 9 << 60, 5}, {Satp, 5, 15 << 60, 5}, {Satp, 5, 4<<60 | 3, 5}, {Satp, 8<<60 | 1, 7, 7}, {Satp, 3 << 60, 7, 7}, {Satp, 3 << 60, 3 << 60, 3 << 60}, {Satp, 3 << 60, 5<<60 | 1, 3 << 60},
		{Misa, 7, 0, 7}, {Misa, 0, all, 0}, {Mhartid, 3, 9, 3}, {Cycle, 3, 9, 3}, {Mcycle, 3, 9, 9},
		{Medeleg, 0, all, 46079}, {Mip, 0, all, 546}, {Mie, all, 0, all &^ 2730}, {Sip, 0, all, 2}, {Shootasid, 0, 1<<16 | 5, 5}, {Shoot, 0, all, 1023}, {Mcause, 0, 1 << 63, 1 << 63},
		{1, 7, 9, 7}, {-1, 7, 9, 7}, {Mstatus + 1<<32, 7, 9, 7}, {Satp + 4096, 7, 8 << 60, 7},
	} {
		if got := Legal(x.n, x.old, x.v); got != x.want {
			t.Fatal(x, got)
		}
	}
}

// check holds a write against the book, and against P19.4: it says nothing new the second time, and no other bit changes.
func check(t *testing.T, e entry, old, v uint64) {
	t.Helper()
	got := Legal(e.number, old, v)
	if got != e.after(old, v) {
		t.Fatalf("%s: %x, %x: %x, want %x", e.name, old, v, got, e.after(old, v))
	}
	if again := Legal(e.number, got, got); again != got {
		t.Fatalf("%s: %x, %x: %x, and again %x", e.name, old, v, got, again)
	}
	if (got^old)&^sum(e.writes) != 0 || (got^old)&^Mask(e.number) != 0 {
		t.Fatalf("%s: %x, %x: %x", e.name, old, v, got)
	}
}

// P19.3, P19.4: Legal: each CSR, with all pairs of words that matter.
func TestLegal(t *testing.T) {
	for _, e := range book(t) {
		for _, old := range words() {
			for _, v := range words() {
				check(t, e, old, v)
			}
		}
	}
}

// P19.3, P19.4: Legal: each CSR, with a fixed row of words of all kinds.
func TestLegalRow(t *testing.T) {
	r := rand.New(rand.NewPCG(19, 3))
	for _, e := range book(t) {
		for range 2000 {
			check(t, e, r.Uint64(), r.Uint64())
			check(t, e, r.Uint64()>>4, r.Uint64()>>4|8<<60)
		}
	}
}

// P19.3: Legal: where there is no such CSR, the old value.
func TestLegalOfNone(t *testing.T) {
	is := map[int]bool{}
	for _, e := range book(t) {
		is[e.number] = true
	}
	for _, n := range numbers() {
		if is[n] {
			continue
		}
		for _, old := range []uint64{0, 5, 2 << 11, ^uint64(0)} {
			if got := Legal(n, old, 8<<60|7); got != old {
				t.Fatal(n, old, got)
			}
		}
	}
}
