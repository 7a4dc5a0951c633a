package csrfile

import (
	"math"
	"math/rand/v2"
	"testing"

	"roebuck/api"
	"roebuck/csr"
	"roebuck/kind"
	"roebuck/status"
)

const ones = ^uint64(0)

// csrs is the numbers of all CSRs.
func csrs() []int {
	var out []int
	for n := range csr.All() {
		out = append(out, n)
	}
	return out
}

// strangers are numbers of no CSR, many of them equal to one in their lowest bits.
func strangers() []int {
	out := []int{0, 1, 5, 255, 257, 262 + 4096, 767, 2817, 3075, 4095, 4096, -1, -256, math.MinInt, math.MaxInt}
	for _, n := range csrs() {
		out = append(out, n+4096, n+1<<16, n+1<<32, n-1<<32, n|math.MinInt, -n)
	}
	return out
}

// privs are the privileges, and numbers that are none.
var privs = []api.Priv{api.User, api.Super, 2, api.Machine, 4, 5, 7, -1, -2, math.MinInt, math.MaxInt, 1 << 32, 1<<32 + 1, 1<<32 + 3}

// edges are words that matter to some CSR.
func edges() []uint64 {
	out := []uint64{0, ones, 2, 8, 9, 546, 2730, 46079, 786722, 8264106, 1 << 20, 2 << 11, 3 << 11, 8<<60 | 5, 1 << 60, 7, 0xaaa, 0x555, ones - 1, 1 << 63}
	for i := range 24 {
		out = append(out, 1<<i)
	}
	return out
}

// agree holds a file against a book: every CSR, with the lines that are given and with none.
func agree(t *testing.T, f *File, b *book, lines uint64) {
	t.Helper()
	for _, n := range csrs() {
		for _, l := range []uint64{0, lines, ones} {
			if got, want := f.Get(n, l), b.get(n, l); got != want {
				t.Fatalf("%s, lines %x: %x, want %x", csr.Name(n), l, got, want)
			}
		}
	}
}

// P22.1: New: mstatus is First, the numbers that never change are what they are, and all others are 0.
func TestNew(t *testing.T) {
	for _, hart := range []int{0, 1, 3, 7, 8, -1, math.MinInt, math.MaxInt, 1 << 32} {
		f := New(hart)
		for _, n := range csrs() {
			want := uint64(0)
			switch n {
			case csr.Mstatus:
				want = 42949672960
			case csr.Sstatus:
				want = 8589934592
			case csr.Misa:
				want = 9223372036856090881
			case csr.Mhartid:
				want = uint64(hart)
			}
			if got := f.Get(n, 0); got != want {
				t.Fatal(hart, csr.Name(n), got)
			}
		}
		if f != New(hart) || f == New(hart+1) || f == (File{}) {
			t.Fatal(hart)
		}
	}
	if f := New(3); f.Get(csr.Mhartid, 0) != 3 {
		t.Fatal("example")
	}
}

// The zero value of a file is one of hart 0 whose mstatus is 0; all calls hold for it as well.
func TestZeroValue(t *testing.T) {
	var f File
	b := opened(0)
	b.words["mstatus"] = 0
	agree(t, &f, b, 512)
	for _, n := range csrs() {
		f.Set(n, ones)
		b.set(n, ones)
		agree(t, &f, b, 8)
	}
	if f.Get(csr.Mstatus, 0) != 8264106 || f.Get(csr.Mhartid, 0) != 0 {
		t.Fatal("written")
	}
	f.Turn(true)
	b.turn(true)
	agree(t, &f, b, 8)
}

// P22.1: Get: a number of no CSR is 0, whatever was written there, and writing there changes nothing.
func TestStrangers(t *testing.T) {
	f := New(2)
	for _, n := range csrs() {
		f.Set(n, ones>>4|8<<60)
	}
	was := f
	for _, n := range strangers() {
		for _, v := range edges() {
			f.Set(n, v)
			if f != was || f.Get(n, v) != 0 {
				t.Fatal(n, v)
			}
			if f.Do(api.Insn{Op: api.Csrrw, Csr: n, Rs1: 1}, v, ones) != 0 || f != was {
				t.Fatal(n, v)
			}
		}
		for _, p := range privs {
			if f.May(n, p, false) || f.May(n, p, true) {
				t.Fatal(n, p)
			}
		}
	}
}

// P22.1: Get: the lines count in mip and sip, by their bits 3, 7, 9 and 11 alone.
func TestLines(t *testing.T) {
	f := New(0)
	for i := range 64 {
		want := uint64(0)
		if i == 3 || i == 7 || i == 9 || i == 11 {
			want = 1 << i
		}
		if got := f.Get(csr.Mip, 1<<i); got != want || f.Get(csr.Sip, 1<<i) != 0 || f.Get(csr.Mie, 1<<i) != 0 || f.Get(csr.Sie, 1<<i) != 0 {
			t.Fatal(i, got)
		}
	}
	f.Set(csr.Mip, 34)
	if f.Get(csr.Mip, 512) != 546 || f.Get(csr.Mip, ones) != 2730|34 || f.Get(csr.Mip, 0) != 34 {
		t.Fatal("or")
	}
	f.Set(csr.Mideleg, ones)
	if f.Get(csr.Sip, ones) != 546 || f.Get(csr.Sip, 0) != 34 || f.Get(csr.Sip, 128) != 34 {
		t.Fatal("sip")
	}
	f.Set(csr.Mideleg, 512)
	if f.Get(csr.Sip, ones) != 512 || f.Get(csr.Sip, 0) != 0 {
		t.Fatal("delegated")
	}
}

// P22.1: Set: what a supervisor writes changes the machine's words where it is let.
func TestSetOfSupervisor(t *testing.T) {
	f := New(0)
	f.Set(csr.Sstatus, ones)
	if f.Get(csr.Mstatus, 0) != status.First|786722 || f.Get(csr.Sstatus, 0) != 1<<33|786722 {
		t.Fatal("sstatus")
	}
	f.Set(csr.Mstatus, 8264106)
	f.Set(csr.Sstatus, 0)
	if f.Get(csr.Mstatus, 0) != status.First|(8264106&^786722) {
		t.Fatal("sstatus")
	}
	f.Set(csr.Mie, ones)
	f.Set(csr.Sie, 0)
	if f.Get(csr.Mie, 0) != 2730 {
		t.Fatal("not delegated")
	}
	f.Set(csr.Mideleg, 34)
	f.Set(csr.Sie, 32)
	if f.Get(csr.Mie, 0) != 2728 || f.Get(csr.Sie, 0) != 32 {
		t.Fatal("sie")
	}
	f.Set(csr.Sip, ones)
	if f.Get(csr.Mip, 0) != 2 {
		t.Fatal("sip")
	}
	f.Set(csr.Mip, 546)
	f.Set(csr.Sip, 0)
	if f.Get(csr.Mip, 0) != 544 {
		t.Fatal("sip")
	}
	f.Set(csr.Mideleg, 544)
	f.Set(csr.Sip, ones)
	if f.Get(csr.Mip, 0) != 544 {
		t.Fatal("not delegated")
	}
}

// P22.1: Set: CSRs that can only be read, and shoot, leave the file as it is.
func TestSetOfNothing(t *testing.T) {
	f := New(6)
	for _, n := range []int{csr.Shoot, csr.Misa, csr.Cycle, csr.Time, csr.Instret, csr.Mvendorid, csr.Marchid, csr.Mimpid, csr.Mhartid} {
		for _, v := range edges() {
			f.Set(n, v)
			if f != New(6) {
				t.Fatal(csr.Name(n), v)
			}
		}
	}
}

// P22.1: Set, Get: each CSR written before each other one, with words that matter.
func TestSetThenSet(t *testing.T) {
	for _, n := range csrs() {
		for _, v := range edges() {
			f, b := New(5), opened(5)
			f.Set(csr.Mideleg, v)
			b.set(csr.Mideleg, v)
			f.Set(csr.Mie, ones-v)
			b.set(csr.Mie, ones-v)
			f.Set(n, v)
			b.set(n, v)
			agree(t, &f, b, v)
			for _, m := range csrs() {
				g, c := f, b.clone()
				g.Set(m, ones-v)
				c.set(m, ones-v)
				if g.Get(n, v) != c.get(n, v) || g.Get(m, v) != c.get(m, v) || g.Get(csr.Mie, 0) != c.get(csr.Mie, 0) || g.Get(csr.Mip, 0) != c.get(csr.Mip, 0) {
					t.Fatal(csr.Name(n), csr.Name(m), v)
				}
			}
		}
	}
}

// P22.1: May: the counters, by both words that show them.
func TestMayOfCounters(t *testing.T) {
	f := New(0)
	if f.May(csr.Cycle, api.Super, false) {
		t.Fatal("example")
	}
	for m := range uint64(8) {
		for s := range uint64(8) {
			f.Set(csr.Mcounteren, m)
			f.Set(csr.Scounteren, s)
			for i, n := range []int{csr.Cycle, csr.Time, csr.Instret} {
				super := m>>i&1 == 1
				if f.May(n, api.Machine, false) != true || f.May(n, api.Super, false) != super || f.May(n, api.User, false) != (super && s>>i&1 == 1) {
					t.Fatal(m, s, csr.Name(n))
				}
				for _, p := range privs {
					if f.May(n, p, true) || f.May(n, 2, false) || f.May(n, -1, false) || f.May(n, 4, false) {
						t.Fatal(m, s, csr.Name(n), p)
					}
				}
			}
			if !f.May(csr.Mcycle, api.Machine, true) || f.May(csr.Mcycle, api.Super, false) || f.May(csr.Minstret, api.User, false) {
				t.Fatal(m, s)
			}
		}
	}
}

// P22.1: May: satp, which TVM takes from a supervisor, and nothing else.
func TestMayOfSatp(t *testing.T) {
	f := New(0)
	for _, tvm := range []bool{false, true, false} {
		f.Set(csr.Mstatus, 0)
		if tvm {
			f.Set(csr.Mstatus, 1<<20)
		}
		for _, write := range []bool{false, true} {
			if f.May(csr.Satp, api.Super, write) == tvm || !f.May(csr.Satp, api.Machine, write) || f.May(csr.Satp, api.User, write) || f.May(csr.Satp, 2, write) {
				t.Fatal(tvm, write)
			}
			for _, n := range []int{csr.Sstatus, csr.Stvec, csr.Sepc, csr.Shoot} {
				if !f.May(n, api.Super, write) {
					t.Fatal(tvm, csr.Name(n))
				}
			}
		}
	}
	f.Set(csr.Mstatus, 8264106&^(1<<20))
	if !f.May(csr.Satp, api.Super, true) {
		t.Fatal("other bits")
	}
}

// P22.1: May: each CSR in each privilege, with words of both kinds.
func TestMay(t *testing.T) {
	for _, v := range edges() {
		f, b := New(1), opened(1)
		for _, n := range []int{csr.Mstatus, csr.Mcounteren, csr.Scounteren} {
			f.Set(n, v)
			b.set(n, v)
		}
		for _, n := range csrs() {
			for _, p := range privs {
				if f.May(n, p, false) != b.may(n, p, false) || f.May(n, p, true) != b.may(n, p, true) {
					t.Fatal(v, csr.Name(n), p)
				}
			}
		}
	}
}

// ops are all ops, and numbers that are none.
func ops() []api.Op {
	out := []api.Op{api.NoOp, api.AllOps + 1, -1, math.MinInt, math.MaxInt, 1<<32 + api.Csrrw, 256 + api.Csrrs}
	for op := range kind.All() {
		out = append(out, op)
	}
	return out
}

// P22.2: Writes: csrrw and csrrwi always, the other four by rs1, and no other op.
func TestWrites(t *testing.T) {
	if Writes(api.Csrrs, 0) {
		t.Fatal("example")
	}
	for _, op := range ops() {
		for _, rs1 := range []int{0, 1, 2, 31, 32, -1, 1 << 32, math.MinInt, math.MaxInt} {
			if got := Writes(op, rs1); got != writes(op, rs1) {
				t.Fatal(op, rs1, got)
			}
		}
	}
	for _, op := range []api.Op{api.Csrrw, api.Csrrwi} {
		if !Writes(op, 0) || !Writes(op, 1) {
			t.Fatal(op)
		}
	}
}

// P22.2: Do: the example, and what each op writes.
func TestDoExamples(t *testing.T) {
	f := New(0)
	f.Set(csr.Mip, 2)
	if f.Do(api.Insn{Op: api.Csrrs, Csr: csr.Mip, Rs1: 1}, 32, 512) != 514 || f.Get(csr.Mip, 0) != 34 {
		t.Fatal("example")
	}
	for _, x := range []struct {
		op   api.Op
		rs1  int
		v    uint64
		want uint64
	}{
		{api.Csrrw, 1, 5, 5}, {api.Csrrw, 0, 5, 5}, {api.Csrrwi, 0, 5, 5}, {api.Csrrwi, 7, 5, 5},
		{api.Csrrs, 1, 5, 13}, {api.Csrrs, 0, 5, 12}, {api.Csrrsi, 3, 5, 13}, {api.Csrrsi, 0, 5, 12},
		{api.Csrrc, 1, 5, 8}, {api.Csrrc, 0, 5, 12}, {api.Csrrci, 3, 5, 8}, {api.Csrrci, 0, 5, 12},
	} {
		f := New(0)
		f.Set(csr.Mscratch, 12)
		if f.Do(api.Insn{Op: x.op, Csr: csr.Mscratch, Rs1: x.rs1}, x.v, ones) != 12 || f.Get(csr.Mscratch, 0) != x.want {
			t.Fatal(x, f.Get(csr.Mscratch, 0))
		}
	}
	// The other fields of an instruction do not matter.
	g := New(0)
	g.Do(api.Insn{Op: api.Csrrw, Rd: 9, Rs1: 4, Rs2: 7, Imm: 99, Csr: csr.Sscratch, Aq: true}, 3, 0)
	if g.Get(csr.Sscratch, 0) != 3 {
		t.Fatal("fields")
	}
}

// P22.2: Do: the lines are told, and not written; a line that goes off is gone.
func TestDoOfLines(t *testing.T) {
	f := New(0)
	f.Set(csr.Mideleg, 546)
	for _, op := range []api.Op{api.Csrrs, api.Csrrc, api.Csrrsi, api.Csrrci} {
		for _, n := range []int{csr.Mip, csr.Sip} {
			if got := f.Do(api.Insn{Op: op, Csr: n, Rs1: 1}, 0, 512); got != 512 || f.Get(n, 0) != 0 {
				t.Fatal(op, csr.Name(n), got)
			}
		}
	}
}

// P22.2: Do: other ops answer 0 and do nothing.
func TestDoOfOthers(t *testing.T) {
	f := New(0)
	f.Set(csr.Mscratch, 12)
	was := f
	for _, op := range ops() {
		if api.Csrrw <= op && op <= api.Csrrci {
			continue
		}
		if f.Do(api.Insn{Op: op, Csr: csr.Mscratch, Rs1: 1}, 5, ones) != 0 || f != was {
			t.Fatal(op)
		}
	}
}

// P22.3: Turn: the example; one that was written keeps its value once, and the other goes on.
func TestTurn(t *testing.T) {
	f := New(0)
	is := func(cycle, instret uint64) {
		t.Helper()
		if f.Get(csr.Mcycle, 0) != cycle || f.Get(csr.Minstret, 0) != instret || f.Get(csr.Cycle, 0) != cycle || f.Get(csr.Instret, 0) != instret {
			t.Fatal(f.Get(csr.Mcycle, 0), f.Get(csr.Minstret, 0))
		}
	}
	f.Set(csr.Mcycle, 9)
	f.Turn(true)
	is(9, 1)
	f.Turn(true)
	is(10, 2)
	f.Turn(false)
	is(11, 2)
	f.Set(csr.Minstret, 7)
	f.Turn(true)
	is(12, 7)
	f.Turn(true)
	is(13, 8)
	f.Set(csr.Minstret, 7)
	f.Turn(false)
	is(14, 7)
	f.Turn(true)
	is(15, 8)
	f.Set(csr.Mcycle, ones)
	f.Set(csr.Minstret, ones)
	f.Turn(true)
	is(ones, ones)
	f.Turn(true)
	is(0, 0)
}

// P22.3: Turn: what counts as written: Set, and Do if it writes, whatever the word; not the counters that can only be read.
func TestTurnAfterDo(t *testing.T) {
	for _, x := range []struct {
		op      api.Op
		n, rs1  int
		v       uint64
		cycle   uint64
		instret uint64
	}{
		{api.Csrrw, csr.Mcycle, 0, 5, 5, 6}, {api.Csrrs, csr.Mcycle, 0, 5, 6, 6}, {api.Csrrs, csr.Mcycle, 1, 0, 5, 6}, {api.Csrrc, csr.Mcycle, 1, 0, 5, 6}, {api.Csrrci, csr.Mcycle, 0, 7, 6, 6},
		{api.Csrrw, csr.Minstret, 0, 5, 6, 5}, {api.Csrrsi, csr.Minstret, 0, 5, 6, 6}, {api.Csrrsi, csr.Minstret, 1, 0, 6, 5}, {api.Csrrc, csr.Minstret, 1, 4, 6, 1},
		{api.Csrrw, csr.Cycle, 1, 9, 6, 6}, {api.Csrrw, csr.Instret, 1, 9, 6, 6}, {api.Csrrw, csr.Mscratch, 1, 9, 6, 6}, {api.Csrrw, csr.Mcycle + 4096, 1, 9, 6, 6}, {api.Add, csr.Mcycle, 1, 9, 6, 6},
	} {
		f := New(0)
		for range 5 {
			f.Turn(true)
		}
		f.Do(api.Insn{Op: x.op, Csr: x.n, Rs1: x.rs1}, x.v, 0)
		f.Turn(true)
		if f.Get(csr.Mcycle, 0) != x.cycle || f.Get(csr.Minstret, 0) != x.instret {
			t.Fatal(x, f.Get(csr.Mcycle, 0), f.Get(csr.Minstret, 0))
		}
	}
}

// P22.4: the example.
func TestExample(t *testing.T) {
	f := New(3)
	f.Set(csr.Mideleg, 2)
	f.Set(csr.Mie, 10)
	if f.Get(csr.Sie, 0) != 2 || f.Get(csr.Sip, 8) != 0 {
		t.Fatal("example")
	}
}

// step does one thing, drawn from a fixed row, to a file and its book.
func step(t *testing.T, r *rand.Rand, f *File, b *book) {
	t.Helper()
	all, words := csrs(), edges()
	n, v, lines := all[r.IntN(len(all))], words[r.IntN(len(words))], r.Uint64()
	if r.IntN(3) == 0 {
		v = r.Uint64()
	}
	switch r.IntN(8) {
	case 0:
		retired := r.IntN(2) == 0
		f.Turn(retired)
		b.turn(retired)
	case 1, 2, 3:
		f.Set(n, v)
		b.set(n, v)
	default:
		x := api.Insn{Op: api.Csrrw + api.Op(r.IntN(8)-1), Rs1: r.IntN(3), Csr: n}
		if got, want := f.Do(x, v, lines), b.do(x, v, lines); got != want {
			t.Fatalf("%+v, %x, %x: %x, want %x", x, v, lines, got, want)
		}
	}
}

// P22.1 to P22.3: long rows of steps, held against the book.
func TestRows(t *testing.T) {
	r := rand.New(rand.NewPCG(22, 1))
	for hart := range 30 {
		f, b := New(hart), opened(hart)
		for range 300 {
			step(t, r, &f, b)
			agree(t, &f, b, r.Uint64())
			n, p := csrs()[r.IntN(34)], privs[r.IntN(len(privs))]
			if f.May(n, p, false) != b.may(n, p, false) || f.May(n, p, true) != b.may(n, p, true) {
				t.Fatal(csr.Name(n), p)
			}
		}
	}
}

// Two files are equal if and only if they belong to the same hart and agree in everything.
func TestEqual(t *testing.T) {
	var files []File
	var books []*book
	keep := func(f File, b *book) {
		files, books = append(files, f), append(books, b)
	}
	for hart := range 2 {
		for _, n := range csrs() {
			for _, v := range []uint64{0, 1, 2, ones} {
				f, b := New(hart), opened(hart)
				f.Set(n, v)
				b.set(n, v)
				keep(f, b.clone())
				f.Turn(v == 1)
				b.turn(v == 1)
				keep(f, b)
			}
		}
	}
	for i := range files {
		for j := range files {
			if (files[i] == files[j]) != books[i].same(books[j]) {
				t.Fatal(i, j)
			}
		}
	}
	// The same words by other ways.
	f, g := New(0), New(0)
	f.Set(csr.Sstatus, 2)
	g.Do(api.Insn{Op: api.Csrrsi, Csr: csr.Mstatus, Rs1: 2}, 2, ones)
	f.Turn(true)
	g.Set(csr.Minstret, 1)
	g.Set(csr.Mcycle, 1)
	g.Turn(false)
	if f != g {
		t.Fatal("ways")
	}
}

// P4: a copy is a file by itself.
func TestCopy(t *testing.T) {
	r := rand.New(rand.NewPCG(22, 4))
	for range 50 {
		f, b := New(1), opened(1)
		for range 20 {
			step(t, r, &f, b)
		}
		g, c := f, b.clone()
		for range 20 {
			step(t, r, &g, c)
		}
		agree(t, &f, b, ones)
		agree(t, &g, c, ones)
		h := f
		f.Get(csr.Mip, ones)
		f.May(csr.Cycle, api.User, false)
		if f != h {
			t.Fatal("reading")
		}
	}
}

// P22.4: what can be reached in Super changes no bit of a machine's CSRs that a supervisor does not see.
func TestSupervisorsWrites(t *testing.T) {
	r := rand.New(rand.NewPCG(22, 5))
	for range 100 {
		f, b := New(1), opened(1)
		for range 30 {
			step(t, r, &f, b)
		}
		seen := map[int]uint64{csr.Mstatus: 786722, csr.Mie: f.Get(csr.Mideleg, 0), csr.Mip: f.Get(csr.Mideleg, 0)}
		for _, n := range csrs() {
			if csr.Least(n) == api.Machine {
				continue
			}
			g := f
			g.Set(n, r.Uint64())
			for _, m := range csrs() {
				if changed := g.Get(m, 0) ^ f.Get(m, 0); csr.Least(m) == api.Machine && changed&^seen[m] != 0 {
					t.Fatalf("%s changes %s: %x", csr.Name(n), csr.Name(m), changed)
				}
			}
		}
	}
}

// P22.4: to read a CSR and write it back leaves all as it was but for bits that come only from the lines,
// and but for the next turn of a counter, which P22.3 has stand still.
func TestReadAndWriteBack(t *testing.T) {
	r := rand.New(rand.NewPCG(22, 6))
	for range 100 {
		f, b := New(1), opened(1)
		for range 30 {
			step(t, r, &f, b)
		}
		for _, n := range csrs() {
			g := f
			g.Set(n, g.Get(n, 0))
			if n != csr.Mcycle && n != csr.Minstret && g != f {
				t.Fatal(csr.Name(n))
			}
			lines := r.Uint64()
			g.Set(n, g.Get(n, lines))
			for _, m := range csrs() {
				changed := g.Get(m, 0) ^ f.Get(m, 0)
				if (m == csr.Mip || m == csr.Sip) && n == csr.Mip {
					changed &^= lines & 512
				}
				if changed != 0 {
					t.Fatalf("%s changes %s: %x", csr.Name(n), csr.Name(m), changed)
				}
			}
		}
	}
}

// P1: a nil file answers 0 and false, and does nothing.
func TestNil(t *testing.T) {
	var f *File
	for _, n := range append(csrs(), strangers()...) {
		f.Set(n, ones)
		if f.Get(n, ones) != 0 || f.May(n, api.Machine, false) || f.May(n, api.Machine, true) {
			t.Fatal(n)
		}
		if f.Do(api.Insn{Op: api.Csrrw, Csr: n, Rs1: 1}, 5, ones) != 0 {
			t.Fatal(n)
		}
	}
	f.Turn(true)
	f.Turn(false)
}
