package trap

import (
	"math"
	"math/rand/v2"
	"testing"

	"roebuck/api"
	"roebuck/cause"
	"roebuck/csr"
	"roebuck/csrfile"
)

const ones = ^uint64(0)

// levels are the privileges, and numbers that are none.
var levels = []api.Priv{api.User, api.Super, 2, api.Machine, 4, 5, 7, -1, -2, -3, math.MinInt, math.MaxInt, 1 << 32, 1<<32 + 1, 1<<32 + 3, 256 + 1, 256 + 3}

// codes are all codes that fit a word, and some that do not.
func codes() []int {
	out := []int{-1, -2, -7, -64, 64, 65, 64 + 7, 128 + 7, 256 + 7, 1<<16 + 7, 1<<32 + 7, 1 << 61, 1<<62 + 7, math.MinInt, math.MinInt + 7, math.MaxInt}
	for n := range 64 {
		out = append(out, n)
	}
	return out
}

// causes are exceptions and interrupts of all codes.
func causes() []cause.Cause {
	var out []cause.Cause
	for _, n := range codes() {
		out = append(out, cause.Cause{Code: n}, cause.Cause{Interrupt: true, Code: n})
	}
	return out
}

// vectors are words of vectors: both modes, bits that are no part of an address, and addresses near the end.
var vectors = []uint64{0, 1, 2, 3, 4, 5, 256, 257, 258, 259, 512, 513, 1 << 32, 1<<32 | 1, 1 << 63, 1<<63 | 1, ones, ones - 1, ones - 2, ones - 3, ones - 6, ones - 254, api.RamBase, api.RamBase | 1}

// file is a file whose CSRs have these values, as far as they can.
func file(hart int, set map[int]uint64) csrfile.File {
	f := csrfile.New(hart)
	for n, v := range set {
		f.Set(n, v)
	}
	return f
}

// full is a file of which all words differ: a trap that touches a wrong one is seen.
func full(mstatus, medeleg, mideleg uint64) csrfile.File {
	f := csrfile.New(5)
	for n := range csr.All() {
		switch n {
		case csr.Mcycle, csr.Minstret, csr.Sstatus, csr.Sie, csr.Sip:
		default:
			f.Set(n, uint64(n)*0x0001000100010004)
		}
	}
	f.Set(csr.Mtvec, 1<<20|1)
	f.Set(csr.Stvec, 1<<21|1)
	f.Set(csr.Medeleg, medeleg)
	f.Set(csr.Mideleg, mideleg)
	f.Set(csr.Mstatus, mstatus)
	return f
}

// statuses are words of mstatus: all fields that traps change, with the other ones on and off.
func statuses() []uint64 {
	out := []uint64{0, ones}
	for n := range uint64(256) {
		w := n&1<<1 | n>>1&1<<3 | n>>2&1<<5 | n>>3&1<<7 | n>>4&1<<8 | n>>5&3<<11 | n>>7&1<<17
		out = append(out, w, w|0x7c0000)
	}
	return out
}

// P23.1: Enter: the example of the chapter: machine-time in Super is handled by Machine, and leads to 284.
// P23.2: Leave: after it, a return of Machine leads to Super.
func TestExample(t *testing.T) {
	f := file(0, map[int]uint64{csr.Mtvec: 257})
	if to, pc := Enter(&f, cause.Cause{Interrupt: true, Code: cause.MachineTime}, api.Super, 4096, 7); to != api.Machine || pc != 284 {
		t.Fatal(to, pc)
	}
	if f.Get(csr.Mepc, 0) != 4096 || f.Get(csr.Mcause, 0) != 1<<63+7 || f.Get(csr.Mtval, 0) != 7 {
		t.Fatal("registers")
	}
	if to, pc := Leave(&f, api.Machine); to != api.Super || pc != 4096 {
		t.Fatal(to, pc)
	}
}

// P23.1: Enter: a trap of Super is told in its own registers, and those of Machine stay.
func TestEnterSuper(t *testing.T) {
	f := file(0, map[int]uint64{csr.Stvec: 1025, csr.Mtvec: 257, csr.Mideleg: 2, csr.Medeleg: 1 << 13, csr.Mstatus: 2 | 8})
	if to, pc := Enter(&f, cause.Cause{Interrupt: true, Code: cause.SuperSoft}, api.Super, 83, 9); to != api.Super || pc != 1028 {
		t.Fatal(to, pc)
	}
	want := file(0, map[int]uint64{csr.Stvec: 1025, csr.Mtvec: 257, csr.Mideleg: 2, csr.Medeleg: 1 << 13, csr.Mstatus: 8 | 1<<5 | 1<<8, csr.Sepc: 80, csr.Scause: 1<<63 | 1, csr.Stval: 9})
	if f != want {
		t.Fatal("registers")
	}
	// The exception of the same code is not delegated, nor is the interrupt that the other word has a bit for.
	if to, pc := Enter(&f, cause.Cause{Code: cause.InsnFault}, api.Super, 0, 0); to != api.Machine || pc != 256 {
		t.Fatal(to, pc)
	}
	if to, _ := Enter(&f, cause.Page(cause.Load), api.User, 0, 0); to != api.Super {
		t.Fatal(to)
	}
	if to, _ := Enter(&f, cause.Page(cause.Load), api.Machine, 0, 0); to != api.Machine {
		t.Fatal(to)
	}
}

// P23.1: Enter: all causes in all privileges and in numbers that are none, with several delegations, against the book.
func TestEnter(t *testing.T) {
	for _, deleg := range [][2]uint64{{0, 0}, {ones, ones}, {ones, 0}, {0, ones}, {1 << 13, 2}} {
		first := full(2|8|1<<17, deleg[0], deleg[1])
		for _, c := range causes() {
			for _, priv := range levels {
				f, b := first, read(&first)
				to, pc := Enter(&f, c, priv, 0x123457, ones-1)
				if wantTo, wantPc := b.enter(c, priv, 0x123457, ones-1); to != wantTo || pc != wantPc {
					t.Fatal(deleg, c, priv, to, pc)
				}
				agree(t, &f, b)
			}
		}
	}
}

// P23.1: Enter: what it makes of mstatus, for all its fields.
func TestEnterStatus(t *testing.T) {
	for _, w := range statuses() {
		first := full(w, ones, 0)
		for _, c := range []cause.Cause{{Code: cause.Illegal}, {Code: cause.CallMachine}, {Interrupt: true, Code: cause.SuperOuter}} {
			for _, priv := range levels {
				f, b := first, read(&first)
				Enter(&f, c, priv, 4, 4)
				b.enter(c, priv, 4, 4)
				agree(t, &f, b)
			}
		}
	}
}

// P23.1: Enter: a number that is no privilege leaves mstatus as it is; all else is told.
func TestEnterNoPrivilege(t *testing.T) {
	for _, priv := range levels {
		if priv == api.User || priv == api.Super || priv == api.Machine {
			continue
		}
		f := full(2|8, 0, 0)
		was := f
		if to, pc := Enter(&f, cause.Cause{Code: cause.Break}, priv, 12, 13); to != api.Machine || pc != 1<<20 {
			t.Fatal(priv, to, pc)
		}
		was.Set(csr.Mepc, 12)
		was.Set(csr.Mcause, 3)
		was.Set(csr.Mtval, 13)
		if f != was {
			t.Fatal(priv)
		}
	}
}

// P23.1: Enter: mepc and sepc take an address without bits 0 and 1, mtval and stval any word.
func TestEnterWords(t *testing.T) {
	for _, at := range []string{"m", "s"} {
		for i := range 64 {
			for _, w := range []uint64{1 << i, ones - 1<<i} {
				f := full(0, map[string]uint64{"s": ones}[at], 0)
				b := read(&f)
				Enter(&f, cause.Cause{Code: cause.Illegal}, api.User, w, ^w)
				b.enter(cause.Cause{Code: cause.Illegal}, api.User, w, ^w)
				agree(t, &f, b)
				if b[at+"epc"] != w&^3 || b[at+"tval"] != ^w || b[at+"cause"] != 2 {
					t.Fatal(at, i)
				}
			}
		}
	}
}

// P23.1: Enter: execution continues where the vector of the privilege says, for all kinds of vectors.
func TestEnterVectors(t *testing.T) {
	for _, v := range vectors {
		for _, o := range vectors {
			f := file(1, map[int]uint64{csr.Mtvec: v, csr.Stvec: o, csr.Mideleg: 1 << 9})
			for _, c := range []cause.Cause{{Interrupt: true, Code: 11}, {Interrupt: true, Code: 9}, {Code: 9}} {
				b := read(&f)
				wantTo, wantPc := b.enter(c, api.User, 0, 0)
				if to, pc := Enter(&f, c, api.User, 0, 0); to != wantTo || pc != wantPc {
					t.Fatal(v, o, c, to, pc)
				}
			}
		}
	}
}

// P23.1: Vector: examples: exceptions and interrupts in both modes, codes that count as 0, bit 1, and an address that wraps around.
func TestVectorExamples(t *testing.T) {
	for _, x := range []struct {
		tvec uint64
		c    cause.Cause
		want uint64
	}{
		{257, cause.Cause{Interrupt: true, Code: 7}, 284}, {257, cause.Cause{Code: 7}, 256}, {256, cause.Cause{Interrupt: true, Code: 7}, 256}, {256, cause.Cause{Code: 7}, 256},
		{258, cause.Cause{Interrupt: true, Code: 7}, 256}, {259, cause.Cause{Interrupt: true, Code: 7}, 284}, {259, cause.Cause{Code: 7}, 256},
		{257, cause.Cause{Interrupt: true, Code: 0}, 256}, {257, cause.Cause{Interrupt: true, Code: 63}, 508}, {257, cause.Cause{Interrupt: true, Code: 64}, 256}, {257, cause.Cause{Interrupt: true, Code: -1}, 256},
		{257, cause.Cause{Interrupt: true, Code: math.MaxInt}, 256}, {257, cause.Cause{Interrupt: true, Code: math.MinInt}, 256}, {257, cause.Cause{Interrupt: true, Code: 1<<32 + 7}, 256},
		{ones, cause.Cause{Interrupt: true, Code: 1}, 0}, {ones, cause.Cause{Interrupt: true, Code: 11}, 40}, {ones, cause.Cause{Code: 11}, ones - 3}, {0, cause.Cause{}, 0}, {3, cause.Cause{}, 0},
	} {
		if got := Vector(x.tvec, x.c); got != x.want {
			t.Fatal(x, got)
		}
	}
}

// P23.1: Vector: all causes with all vectors, and each bit of a vector by itself.
func TestVector(t *testing.T) {
	all := append([]uint64{}, vectors...)
	for i := range 64 {
		all = append(all, 1<<i, 1<<i|1, ones-1<<i)
	}
	for _, v := range all {
		for _, c := range causes() {
			if got := Vector(v, c); got != leads(v, c) {
				t.Fatalf("%x %v: %x", v, c, got)
			}
		}
	}
}

// P23.2: Leave: both privileges and all fields of mstatus, against the book.
func TestLeave(t *testing.T) {
	for _, w := range statuses() {
		first := full(w, ones, 2)
		for at, priv := range privs {
			f, b := first, read(&first)
			to, pc := Leave(&f, priv)
			if wantTo, wantPc := b.leave(at); to != wantTo || pc != wantPc {
				t.Fatalf("%x %d: %d %x", w, priv, to, pc)
			}
			agree(t, &f, b)
		}
	}
}

// P23.2: Leave: it continues at mepc for Machine, at sepc for Super, and changes mstatus alone.
func TestLeavePlace(t *testing.T) {
	f := file(2, map[int]uint64{csr.Mepc: 84, csr.Sepc: 168, csr.Mstatus: 1<<7 | 1<<5 | 3<<11 | 1<<17})
	if to, pc := Leave(&f, api.Machine); to != api.Machine || pc != 84 {
		t.Fatal(to, pc)
	}
	if f != file(2, map[int]uint64{csr.Mepc: 84, csr.Sepc: 168, csr.Mstatus: 8 | 1<<7 | 1<<5 | 1<<17}) {
		t.Fatal("machine")
	}
	if to, pc := Leave(&f, api.Super); to != api.User || pc != 168 {
		t.Fatal(to, pc)
	}
	if f != file(2, map[int]uint64{csr.Mepc: 84, csr.Sepc: 168, csr.Mstatus: 8 | 1<<7 | 2 | 1<<5}) {
		t.Fatal("super")
	}
}

// P23.2: Leave: what handles no traps has no return: User, 0, and nothing is changed.
func TestLeaveNothing(t *testing.T) {
	for _, w := range statuses() {
		f := full(w, ones, ones)
		was := f
		for _, at := range levels {
			if at == api.Machine || at == api.Super {
				continue
			}
			if to, pc := Leave(&f, at); to != api.User || pc != 0 || f != was {
				t.Fatal(at, to, pc)
			}
		}
	}
}

// P23.3: after a trap and the return from it execution continues where the trap occurred, in the same privilege, and mstatus permits what it permitted.
func TestRound(t *testing.T) {
	for _, w := range statuses() {
		for _, deleg := range []uint64{0, ones} {
			first := full(w, deleg, deleg)
			for _, c := range causes() {
				if c.Code > 15 {
					continue
				}
				for _, priv := range []api.Priv{api.User, api.Super, api.Machine} {
					f := first
					at, _ := Enter(&f, c, priv, 0x80001236, 1)
					to, pc := Leave(&f, at)
					if to != priv || pc != 0x80001234 {
						t.Fatal(w, deleg, c, priv, to, pc)
					}
					permits := uint64(8)
					if at == api.Super {
						permits = 2
					}
					if f.Get(csr.Mstatus, 0)&permits != first.Get(csr.Mstatus, 0)&permits {
						t.Fatal(w, deleg, c, priv)
					}
				}
			}
		}
	}
}

// P23.3: the example: with mtvec 257, machine-time leads to 284, and an exception to 256.
func TestRoundExample(t *testing.T) {
	f := file(0, map[int]uint64{csr.Mtvec: 257})
	for _, priv := range []api.Priv{api.User, api.Super, api.Machine} {
		if _, pc := Enter(&f, cause.Cause{Interrupt: true, Code: cause.MachineTime}, priv, 0, 0); pc != 284 {
			t.Fatal(priv, pc)
		}
		if _, pc := Enter(&f, cause.Cause{Code: cause.Illegal}, priv, 0, 0); pc != 256 {
			t.Fatal(priv, pc)
		}
	}
}

// T2: the traps of a supervisor and those of a machine do not touch each other's registers, nor each other's fields of mstatus.
func TestApart(t *testing.T) {
	const ofSuper, ofMachine = 1<<1 | 1<<5 | 1<<8, 1<<3 | 1<<7 | 3<<11
	for _, w := range statuses() {
		f := full(w, 1<<cause.LoadPage, 0)
		for _, x := range []struct {
			c     cause.Cause
			at    api.Priv
			stays []int
			bits  uint64
		}{
			{cause.Page(cause.Load), api.Super, []int{csr.Mtvec, csr.Mepc, csr.Mcause, csr.Mtval}, ofMachine},
			{cause.Page(cause.Store), api.Machine, []int{csr.Stvec, csr.Sepc, csr.Scause, csr.Stval}, ofSuper},
		} {
			was := f
			held := func() {
				t.Helper()
				for _, n := range x.stays {
					if f.Get(n, 0) != was.Get(n, 0) {
						t.Fatal(csr.Name(n))
					}
				}
				if f.Get(csr.Mstatus, 0)&x.bits != was.Get(csr.Mstatus, 0)&x.bits {
					t.Fatalf("%x", w)
				}
			}
			if at, _ := Enter(&f, x.c, api.Super, 44, 55); at != x.at {
				t.Fatal(at)
			}
			held()
			Leave(&f, x.at)
			held()
		}
	}
}

// A trap of Super inside, then one of Machine: both returns lead back, one after another.
func TestNested(t *testing.T) {
	f := file(0, map[int]uint64{csr.Medeleg: 1 << cause.CallUser, csr.Mtvec: 256, csr.Stvec: 512, csr.Mstatus: 2 | 8})
	if to, pc := Enter(&f, cause.Call(api.User), api.User, 40, 0); to != api.Super || pc != 512 {
		t.Fatal(to, pc)
	}
	if to, pc := Enter(&f, cause.Call(api.Super), api.Super, 520, 0); to != api.Machine || pc != 256 {
		t.Fatal(to, pc)
	}
	if to, pc := Leave(&f, api.Machine); to != api.Super || pc != 520 {
		t.Fatal(to, pc)
	}
	if to, pc := Leave(&f, api.Super); to != api.User || pc != 40 {
		t.Fatal(to, pc)
	}
	if got := f.Get(csr.Mstatus, 0); got != 10<<32|2|8|1<<5|1<<7 {
		t.Fatalf("%x", got)
	}
}

// A trap writes no counter: the next turn counts as ever.
func TestCounters(t *testing.T) {
	f := full(0, ones, 0)
	Enter(&f, cause.Cause{Code: cause.Illegal}, api.User, 0, 0)
	Enter(&f, cause.Cause{Code: cause.CallMachine}, api.Super, 0, 0)
	Leave(&f, api.Machine)
	Leave(&f, api.Super)
	f.Turn(true)
	if f.Get(csr.Mcycle, 0) != 1 || f.Get(csr.Minstret, 0) != 1 {
		t.Fatal("counters")
	}
}

// P4: a file is a value: a trap of a copy is not one of the file.
func TestCopy(t *testing.T) {
	f := full(2|8, ones, ones)
	was, copied := f, f
	Enter(&copied, cause.Cause{Code: cause.Illegal}, api.User, 0, 0)
	Leave(&copied, api.Machine)
	if f != was || copied == was {
		t.Fatal("copy")
	}
}

// A nil file: User and 0.
func TestNil(t *testing.T) {
	for _, c := range causes() {
		for _, priv := range levels {
			if to, pc := Enter(nil, c, priv, ones, ones); to != api.User || pc != 0 {
				t.Fatal(c, priv, to, pc)
			}
			if to, pc := Leave(nil, priv); to != api.User || pc != 0 {
				t.Fatal(priv, to, pc)
			}
		}
	}
}

// The zero value of a file has traps, too.
func TestZeroValue(t *testing.T) {
	var f csrfile.File
	b := read(&f)
	for _, priv := range levels {
		to, pc := Enter(&f, cause.Cause{Code: cause.Break}, priv, 7, 8)
		if wantTo, wantPc := b.enter(cause.Cause{Code: cause.Break}, priv, 7, 8); to != wantTo || pc != wantPc {
			t.Fatal(priv, to, pc)
		}
		agree(t, &f, b)
		to, pc = Leave(&f, api.Machine)
		if wantTo, wantPc := b.leave("m"); to != wantTo || pc != wantPc {
			t.Fatal(priv, to, pc)
		}
		agree(t, &f, b)
	}
}

// Fixed rows of traps, returns and writes, one upon another, against the book.
func TestRows(t *testing.T) {
	r := rand.New(rand.NewPCG(23, 1))
	written := []int{csr.Mstatus, csr.Sstatus, csr.Medeleg, csr.Mideleg, csr.Mtvec, csr.Stvec, csr.Mepc, csr.Sepc}
	all := causes()
	for row := range 40 {
		f := csrfile.New(row)
		for range 200 {
			switch r.IntN(4) {
			case 0:
				f.Set(written[r.IntN(len(written))], r.Uint64())
			case 1:
				at := []string{"m", "s"}[r.IntN(2)]
				b := read(&f)
				wantTo, wantPc := b.leave(at)
				if to, pc := Leave(&f, privs[at]); to != wantTo || pc != wantPc {
					t.Fatal(row, at, to, pc)
				}
				agree(t, &f, b)
			default:
				c, priv := all[r.IntN(len(all))], levels[r.IntN(len(levels))]
				pc, tval := r.Uint64(), r.Uint64()
				b := read(&f)
				wantTo, wantPc := b.enter(c, priv, pc, tval)
				if to, at := Enter(&f, c, priv, pc, tval); to != wantTo || at != wantPc {
					t.Fatal(row, c, priv, to, at)
				}
				agree(t, &f, b)
			}
		}
	}
}
