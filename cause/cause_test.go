package cause

import (
	"math"
	"math/rand/v2"
	"strings"
	"testing"

	"roebuck/api"
)

const ones = ^uint64(0)

// codes are all codes near those of the tables, and far ones, many of them equal to one in their lowest bits.
func codes() []int {
	out := []int{math.MinInt, math.MinInt + 1, math.MinInt + 11, math.MaxInt, math.MaxInt - 1, math.MaxInt - 4}
	for n := -300; n < 300; n++ {
		out = append(out, n)
	}
	for n := range 16 {
		out = append(out, n+1<<8, n+1<<16, n+1<<32, n-1<<32, n|math.MinInt, ^n)
	}
	return out
}

// all is causes of both kinds with all those codes.
func all() []Cause {
	var out []Cause
	for _, n := range codes() {
		out = append(out, Cause{Code: n}, Cause{Interrupt: true, Code: n})
	}
	return out
}

// privs are the privileges, and numbers that are none.
var privs = []api.Priv{api.User, api.Super, 2, api.Machine, 4, 5, 7, 9, -1, -2, -3, math.MinInt, math.MaxInt, 1 << 32, 1<<32 + 1, 1<<32 + 3, 256 + 3}

// The constants are the names with the codes of the tables.
func TestConstants(t *testing.T) {
	found := map[string]Cause{
		"insn-align": {false, InsnAlign}, "insn-fault": {false, InsnFault}, "illegal": {false, Illegal}, "break": {false, Break},
		"load-align": {false, LoadAlign}, "load-fault": {false, LoadFault}, "store-align": {false, StoreAlign}, "store-fault": {false, StoreFault},
		"call-user": {false, CallUser}, "call-super": {false, CallSuper}, "call-machine": {false, CallMachine},
		"insn-page": {false, InsnPage}, "load-page": {false, LoadPage}, "store-page": {false, StorePage},
		"super-soft": {true, SuperSoft}, "machine-soft": {true, MachineSoft}, "super-time": {true, SuperTime},
		"machine-time": {true, MachineTime}, "super-outer": {true, SuperOuter}, "machine-outer": {true, MachineOuter},
	}
	if len(found) != 20 || Insn != 0 || Load != 1 || Store != 2 {
		t.Fatal(len(found), Insn, Load, Store)
	}
	for _, e := range book(t) {
		if c, is := found[e.name]; !is || c != e.cause {
			t.Fatal(e, c)
		}
	}
}

// P21.1: Known, Name: the causes of the tables, and no others.
func TestKnownAndName(t *testing.T) {
	want := names(t)
	for _, c := range all() {
		name, is := want[c]
		if Known(c) != is || Name(c) != name {
			t.Fatal(c, Known(c), Name(c))
		}
	}
	for _, c := range []Cause{{false, 10}, {false, 14}, {false, 16}, {false, -1}, {true, 0}, {true, 2}, {true, 10}, {true, 12}, {true, -1}} {
		if Known(c) || Name(c) != "" {
			t.Fatal(c)
		}
	}
}

// P21.1, P21.4: Find: each name, and nothing else that looks like one.
func TestFind(t *testing.T) {
	for _, e := range book(t) {
		if c, ok := Find(e.name); c != e.cause || !ok || Name(c) != e.name {
			t.Fatal(e, c, ok)
		}
		for _, other := range []string{
			strings.ToUpper(e.name), strings.ToUpper(e.name[:1]) + e.name[1:], e.name + " ", " " + e.name, e.name + "x", e.name + "\x00", "x" + e.name,
			e.name[:len(e.name)-1], e.name[1:], e.name + e.name, e.name + "-", strings.Replace(e.name, "-", "_", 1) + "_", strings.Replace(e.name, "-", "", 1) + "-",
		} {
			if c, ok := Find(other); c != (Cause{}) || ok {
				t.Fatalf("%q: %v %v", other, c, ok)
			}
		}
	}
	for _, other := range []string{"", "-", " ", "0", "insn", "align", "InsnAlign", "user-soft", "call-hyper", "insn-", "super", "\xff", "break-\xc3", strings.Repeat("-", 9999)} {
		if c, ok := Find(other); c != (Cause{}) || ok {
			t.Fatalf("%q: %v %v", other, c, ok)
		}
	}
}

// P21.1: Word: the code, and bit 63 for an interrupt; codes that are no bit's number count as 0.
func TestWord(t *testing.T) {
	for _, x := range []struct {
		c    Cause
		want uint64
	}{
		{Cause{true, -1}, 1 << 63}, {Cause{true, 64}, 1 << 63}, {Cause{true, 63}, 1<<63 | 63}, {Cause{true, MachineTime}, 1<<63 + 7}, {Cause{true, 0}, 1 << 63},
		{Cause{false, -1}, 0}, {Cause{false, 64}, 0}, {Cause{false, 63}, 63}, {Cause{false, 10}, 10}, {Cause{false, StorePage}, 15}, {Cause{false, math.MinInt}, 0}, {Cause{true, math.MaxInt}, 1 << 63}, {Cause{}, 0},
	} {
		if got := Word(x.c); got != x.want {
			t.Fatal(x, got)
		}
	}
	for _, c := range all() {
		if got := Word(c); got != word(c) {
			t.Fatal(c, got)
		}
	}
}

// P21.1, P21.4: Of: the words of the tables, and no others.
func TestOf(t *testing.T) {
	want := map[uint64]Cause{}
	for _, e := range book(t) {
		want[word(e.cause)] = e.cause
	}
	words := []uint64{ones, ones >> 1, 1 << 63, 1<<63 | 64, 1<<63 | 63}
	for w := range uint64(1000) {
		words = append(words, w, w|1<<63, -w)
	}
	for w := range want {
		for i := range 64 {
			words = append(words, w^1<<i)
		}
	}
	r := rand.New(rand.NewPCG(21, 1))
	for range 1000 {
		words = append(words, r.Uint64(), r.Uint64()&(1<<63|15))
	}
	for _, w := range words {
		c, is := want[w]
		if got, ok := Of(w); got != c || ok != is {
			t.Fatalf("%x: %v %v", w, got, ok)
		}
	}
}

// accesses are the kinds of accesses, and numbers that are none, which count as Store.
var accesses = []int{Insn, Load, Store, 3, 4, 9, -1, -2, math.MinInt, math.MinInt + 1, math.MaxInt, 1 << 32, 1<<32 + 1, 256, 257}

// P21.2: Align, Fault, Page: one exception for each kind of access.
func TestAccesses(t *testing.T) {
	if Fault(Insn).Code != 1 {
		t.Fatal("example")
	}
	for _, access := range accesses {
		align, fault, page := "store-align", "store-fault", "store-page"
		switch access {
		case 0:
			align, fault, page = "insn-align", "insn-fault", "insn-page"
		case 1:
			align, fault, page = "load-align", "load-fault", "load-page"
		}
		if a, f, p := Align(access), Fault(access), Page(access); Name(a) != align || Name(f) != fault || Name(p) != page {
			t.Fatal(access, a, f, p)
		}
	}
	for _, c := range []Cause{Align(0), Align(1), Align(2), Fault(0), Fault(1), Fault(2), Page(0), Page(1), Page(2)} {
		if c.Interrupt {
			t.Fatal(c)
		}
	}
	if Align(Insn) != (Cause{Code: 0}) || Align(Load) != (Cause{Code: 4}) || Align(Store) != (Cause{Code: 6}) || Fault(Load) != (Cause{Code: 5}) || Fault(Store) != (Cause{Code: 7}) || Page(Insn) != (Cause{Code: 12}) || Page(Load) != (Cause{Code: 13}) || Page(9) != (Cause{Code: 15}) {
		t.Fatal("codes")
	}
}

// P21.2: Call: call-machine for whatever is neither User nor Super.
func TestCall(t *testing.T) {
	for _, p := range privs {
		want := Cause{Code: 11}
		switch p {
		case 0:
			want.Code = 8
		case 1:
			want.Code = 9
		}
		if got := Call(p); got != want {
			t.Fatal(p, got)
		}
	}
}

// P21.2: To: the examples, and codes that are no bit's number.
func TestToExamples(t *testing.T) {
	for _, x := range []struct {
		c             Cause
		priv          api.Priv
		deleg, ideleg uint64
		want          api.Priv
	}{
		{Cause{true, SuperSoft}, api.Super, 0, 2, api.Super}, {Cause{false, Illegal}, api.User, 4, 0, api.Super},
		{Cause{true, SuperSoft}, api.Super, 2, 0, api.Machine}, {Cause{false, Illegal}, api.User, 0, 4, api.Machine}, {Cause{false, Illegal}, api.User, ones &^ 4, ones, api.Machine},
		{Cause{true, SuperSoft}, api.Machine, ones, ones, api.Machine}, {Cause{false, Illegal}, api.Machine, ones, ones, api.Machine}, {Cause{true, MachineOuter}, api.User, 0, 1 << 11, api.Super},
		{Cause{false, 63}, api.User, 1 << 63, 0, api.Super}, {Cause{false, 64}, api.User, ones, ones, api.Machine}, {Cause{false, -1}, api.User, ones, ones, api.Machine}, {Cause{true, 64}, api.User, ones, ones, api.Machine}, {Cause{true, -1}, api.Super, ones, ones, api.Machine},
		{Cause{false, 10}, api.User, 1 << 10, 0, api.Super}, {Cause{false, Break}, 2, 8, 0, api.Super}, {Cause{false, math.MinInt}, api.User, ones, ones, api.Machine}, {Cause{true, math.MaxInt}, api.User, ones, ones, api.Machine},
		{Cause{false, 1<<32 + 2}, api.User, 4, 4, api.Machine},
	} {
		if got := To(x.c, x.priv, x.deleg, x.ideleg); got != x.want {
			t.Fatal(x, got)
		}
	}
}

// P21.2, P21.4: To: all causes in all privileges; nothing that occurs in Machine is handled by Super.
func TestTo(t *testing.T) {
	r := rand.New(rand.NewPCG(21, 2))
	for _, c := range all() {
		words := []uint64{0, ones, r.Uint64()}
		if 0 <= c.Code && c.Code < 64 {
			words = append(words, 1<<c.Code, ones&^(1<<c.Code))
		}
		for _, p := range privs {
			for _, deleg := range words {
				for _, ideleg := range words {
					got := To(c, p, deleg, ideleg)
					if got != handler(c, p, deleg, ideleg) || p == api.Machine && got != api.Machine {
						t.Fatalf("%v %d %x %x: %d", c, p, deleg, ideleg, got)
					}
				}
			}
		}
	}
}

// inOrder is the interrupts in the chapter's order.
var inOrder = []string{"machine-outer", "machine-soft", "machine-time", "super-outer", "super-soft", "super-time"}

// P21.3: First: the examples, and bits of no interrupt.
func TestFirstExamples(t *testing.T) {
	for _, x := range []struct {
		waiting uint64
		want    string
	}{
		{ones, "machine-outer"}, {136, "machine-soft"}, {128, "machine-time"}, {1 << 11, "machine-outer"}, {0x222, "super-outer"}, {0x22, "super-soft"}, {0x20, "super-time"}, {2, "super-soft"}, {8, "machine-soft"}, {512, "super-outer"}, {0x2a0, "machine-time"},
		{0, ""}, {ones &^ 0xaaa, ""}, {1, ""}, {4, ""}, {1 << 10, ""}, {1 << 12, ""}, {1 << 13, ""}, {1 << 63, ""}, {1 << 43, ""},
	} {
		if got, ok := First(x.waiting); Name(got) != x.want && ok || ok != (x.want != "") || !ok && got != (Cause{}) {
			t.Fatal(x, got, ok)
		}
	}
}

// P21.3: First: all sets of interrupts, with bits of none beside them, and without.
func TestFirst(t *testing.T) {
	r := rand.New(rand.NewPCG(21, 3))
	for set := range 64 {
		var waiting uint64
		want := ""
		for i, name := range inOrder {
			if set>>i&1 == 0 {
				continue
			}
			if want == "" {
				want = name
			}
			for _, e := range book(t) {
				if e.name == name {
					waiting |= 1 << e.cause.Code
				}
			}
		}
		for _, rest := range []uint64{0, ones, r.Uint64(), r.Uint64()} {
			c, ok := First(waiting | rest&^0xaaa)
			if ok != (want != "") || ok && (!c.Interrupt || Name(c) != want) || !ok && c != (Cause{}) {
				t.Fatalf("%x %x: %v %v", waiting, rest, c, ok)
			}
		}
	}
}

// P21.4: names, words and causes belong to each other.
func TestThereAndBack(t *testing.T) {
	if w := Word(Cause{true, MachineTime}); w != 1<<63+7 {
		t.Fatal(w)
	}
	if c, ok := First(136); !ok || c != (Cause{true, MachineSoft}) || To(Cause{Code: Illegal}, api.User, 4, 0) != api.Super {
		t.Fatal("examples")
	}
	for _, e := range book(t) {
		c, ok := Of(Word(e.cause))
		d, is := Find(Name(e.cause))
		if !ok || !is || c != e.cause || d != e.cause || !Known(e.cause) {
			t.Fatal(e, c, d)
		}
	}
	for _, c := range all() {
		d, ok := Of(Word(c))
		if ok && Word(d) != Word(c) || Known(c) && d != c {
			t.Fatal(c, d)
		}
	}
}
