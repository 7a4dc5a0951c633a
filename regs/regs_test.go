package regs

import (
	"iter"
	"math"
	"slices"
	"strconv"
	"strings"
	"testing"
)

// chapter is the chapter's list of names, written out in the order of the numbers.
const chapter = "zero ra sp gp tp t0 t1 t2 s0 s1 a0 a1 a2 a3 a4 a5 a6 a7 s2 s3 s4 s5 s6 s7 s8 s9 s10 s11 t3 t4 t5 t6"

// noRegisters are numbers that no register has.
var noRegisters = []int{-1, -2, -31, -32, -33, 32, 33, 63, 64, 256, 256 + 5, 1 << 32, 1<<32 + 5, math.MinInt, math.MinInt + 5, math.MaxInt}

func registerNames(t *testing.T) []string {
	t.Helper()
	names := strings.Fields(chapter)
	if len(names) != 32 {
		t.Fatal("names:", len(names))
	}
	return names
}

// sample is words that differ from one another, of which none is 0.
func sample() [32]uint64 {
	var words [32]uint64
	for i := range words {
		words[i] = uint64(i+1) * 0x9e3779b97f4a7c15
	}
	return words
}

// pair is what an iterator yields.
type pair struct {
	i int
	w uint64
}

func collect(seq iter.Seq2[int, uint64]) []pair {
	var out []pair
	for i, w := range seq {
		out = append(out, pair{i, w})
	}
	return out
}

func isPairs(t *testing.T, got []pair, want ...pair) {
	t.Helper()
	if !slices.Equal(got, want) {
		t.Fatalf("got %v, want %v", got, want)
	}
}

// P5.1: the zero value is ready to use; all of its registers are 0.
func TestZeroFile(t *testing.T) {
	var f File
	for i := range 32 {
		if f.Get(i) != 0 {
			t.Fatal(i, f.Get(i))
		}
	}
	if f.Words() != [32]uint64{} {
		t.Fatal(f.Words())
	}
	isPairs(t, collect(f.Some()))
	f.Set(5, 7)
	if f.Get(5) != 7 {
		t.Fatal(f.Get(5))
	}
}

// P5.1: a file has the words that it is made of, but for register 0.
func TestOf(t *testing.T) {
	words := sample()
	f := Of(words)
	if words != sample() {
		t.Fatal("changed its argument", words)
	}
	want := words
	want[0] = 0
	if f.Words() != want {
		t.Fatal(f.Words())
	}
	for i := range 32 {
		if f.Get(i) != want[i] {
			t.Fatal(i, f.Get(i))
		}
	}
	words[3] = 99
	if f.Get(3) != want[3] {
		t.Fatal("kept its argument", f.Get(3))
	}
}

// P5.1, P5.3: Get returns what was set, until it is set again; no other register changes.
func TestSet(t *testing.T) {
	f := Of(sample())
	want := f.Words()
	for i := 1; i < 32; i++ {
		for _, w := range []uint64{0, 1, 1 << 63, math.MaxUint64, uint64(i) << 40} {
			f.Set(i, w)
			want[i] = w
			if f.Get(i) != w || f.Words() != want {
				t.Fatal(i, w, f.Get(i), f.Words())
			}
		}
	}
}

// P5.1, P5.3: register 0 is always 0.
func TestRegisterZero(t *testing.T) {
	for _, f := range []File{{}, Of(sample())} {
		before := f
		for _, w := range []uint64{0, 1, math.MaxUint64} {
			f.Set(0, w)
			if f.Get(0) != 0 || f.Words()[0] != 0 || f != before {
				t.Fatal(w, f)
			}
		}
	}
}

// P5.1: registers that do not exist.
func TestNoRegisters(t *testing.T) {
	f := Of(sample())
	before := f
	for _, i := range noRegisters {
		f.Set(i, 5)
		if f.Get(i) != 0 || f != before {
			t.Fatal(i, f.Get(i), f)
		}
	}
}

// P5.1: Words is a copy.
func TestWordsIsACopy(t *testing.T) {
	f := Of(sample())
	before := f
	words := f.Words()
	words[4] = 1
	words[0] = 1
	if f != before || f.Words() == words {
		t.Fatal(f)
	}
}

// P5.1: a nil file.
func TestNilFile(t *testing.T) {
	var f *File
	for _, i := range append([]int{0, 1, 31}, noRegisters...) {
		f.Set(i, 5)
		if f.Get(i) != 0 {
			t.Fatal(i, f.Get(i))
		}
	}
	if f.Words() != [32]uint64{} {
		t.Fatal(f.Words())
	}
	if f.Some() == nil {
		t.Fatal("no iterator")
	}
	isPairs(t, collect(f.Some()))
}

// P5.1: the registers that are not 0, ascending.
func TestSome(t *testing.T) {
	var f File
	for _, i := range []int{31, 1, 10} {
		f.Set(i, uint64(i)*10)
	}
	isPairs(t, collect(f.Some()), pair{1, 10}, pair{10, 100}, pair{31, 310})
	f.Set(10, 0)
	isPairs(t, collect(f.Some()), pair{1, 10}, pair{31, 310})
	f = Of(sample())
	var all []pair
	for i, w := range sample() {
		if i > 0 {
			all = append(all, pair{i, w})
		}
	}
	isPairs(t, collect(f.Some()), all...)
}

// P5.1: an iteration that is stopped early yields nothing more, and the next one starts from the beginning.
func TestSomeStoppedEarly(t *testing.T) {
	f := Of([32]uint64{2: 20, 3: 30, 31: 310})
	some := f.Some()
	for n := range 3 {
		var got []pair
		for i, w := range some {
			got = append(got, pair{i, w})
			if len(got) == n+1 {
				break
			}
		}
		isPairs(t, got, []pair{{2, 20}, {3, 30}, {31, 310}}[:n+1]...)
	}
	calls := 0
	some(func(int, uint64) bool {
		calls++
		return false
	})
	if calls != 1 {
		t.Fatal("calls after the loop was left:", calls)
	}
	isPairs(t, collect(some), pair{2, 20}, pair{3, 30}, pair{31, 310})
}

// P5.1: what is yielded is what a register is at that time.
func TestSomeWhileRegistersAreSet(t *testing.T) {
	f := Of([32]uint64{2: 20, 3: 30, 4: 40})
	some := f.Some()
	f.Set(3, 31)
	var got []pair
	for i, w := range some {
		got = append(got, pair{i, w})
		if i == 2 {
			f.Set(1, 10)
			f.Set(2, 21)
			f.Set(3, 0)
			f.Set(4, 41)
			f.Set(30, 300)
		}
	}
	isPairs(t, got, pair{2, 20}, pair{4, 41}, pair{30, 300})
	isPairs(t, collect(some), pair{1, 10}, pair{2, 21}, pair{4, 41}, pair{30, 300})
}

// P5.1: two loops over one iterator, one inside the other, do not disturb each other.
func TestSomeNested(t *testing.T) {
	f := Of([32]uint64{5: 50, 6: 60})
	some := f.Some()
	var got []pair
	for i := range some {
		for k, w := range some {
			got = append(got, pair{i*100 + k, w})
		}
	}
	isPairs(t, got, pair{505, 50}, pair{506, 60}, pair{605, 50}, pair{606, 60})
}

// P5.2
func TestName(t *testing.T) {
	for i, name := range registerNames(t) {
		if Name(i) != name {
			t.Fatal(i, Name(i), name)
		}
	}
	for _, i := range noRegisters {
		if Name(i) != "" {
			t.Fatal(i, Name(i))
		}
	}
	if Name(10) != "a0" || Name(32) != "" {
		t.Fatal(Name(10), Name(32))
	}
}

// denoted is everything that denotes a register, by the chapter's words.
func denoted(t *testing.T) map[string]int {
	t.Helper()
	out := map[string]int{"fp": 8}
	for i, name := range registerNames(t) {
		out[name] = i
		out["x"+strconv.Itoa(i)] = i
	}
	if len(out) != 65 {
		t.Fatal("names:", len(out))
	}
	return out
}

// P5.2: all registers by each thing that denotes them.
func TestFind(t *testing.T) {
	for name, want := range denoted(t) {
		if i, ok := Find(name); !ok || i != want {
			t.Fatal(name, i, ok)
		}
	}
}

// P5.2: texts that denote no register.
func TestFindNothing(t *testing.T) {
	texts := []string{
		"", " ", "x", "X0", "X5", "FP", "A0", "Zero", "ZERO", "Ra", "x32", "x33", "x99", "x100", "x256", "x261", "x07", "x00", "x01", "x031", "x-1", "x-0", "x+1", "x 1", "x1x", "x1 ", " x1", "x1\n", "x1\x00",
		"x4294967296", "x4294967301", "x18446744073709551616", "x18446744073709551621", "x0x5", "x1.0", "x1e1", "x1_0", "x\u0661", "x\uff11",
		"0", "5", "31", "-1", "a", "a8", "a00", "a01", "s12", "s02", "s", "t7", "t", "t00", "f", "fp0", "f0", "zer", "zeros", "zero ", "zero\x00", "r0", "pc", "\xff", "a0,", "x" + strings.Repeat("0", 1<<20), strings.Repeat("a0", 1<<20),
	}
	for _, text := range texts {
		if i, ok := Find(text); ok || i != 0 {
			t.Fatalf("%.20q: %d %v", text, i, ok)
		}
	}
}

// P5.2: all texts of up to three of these characters denote what the chapter says, or nothing.
func TestFindShortTexts(t *testing.T) {
	const letters = "abcdefghijklmnopqrstuvwxyzAFSTXZ0123456789 -+_.\x00\xff"
	names := denoted(t)
	found := 0
	var try func(text string)
	try = func(text string) {
		want, denotes := names[text]
		if i, ok := Find(text); ok != denotes || i != want {
			t.Fatalf("%q: %d %v", text, i, ok)
		}
		if denotes {
			found++
		}
		for i := 0; i < len(letters) && len(text) < 3; i++ {
			try(text + letters[i:i+1])
		}
	}
	try("")
	// All names but zero are that short.
	if found != len(names)-1 {
		t.Fatal("found:", found)
	}
}

// P5.3: a register is found by its name, and two registers have two names.
func TestFindInvertsName(t *testing.T) {
	for i := range 32 {
		if n, ok := Find(Name(i)); !ok || n != i {
			t.Fatal(i, n, ok)
		}
	}
}

// P5.3: two files are equal if and only if all of their registers are.
func TestFilesCompared(t *testing.T) {
	words := sample()
	f, g := Of(words), Of(words)
	if f != g {
		t.Fatal("equal registers, unequal files")
	}
	words[0] = 77
	if f != Of(words) {
		t.Fatal("the word of register 0 counts")
	}
	for i := 1; i < 32; i++ {
		old := g.Get(i)
		g.Set(i, old^1<<63)
		if f == g {
			t.Fatal("equal files, unequal register", i)
		}
		g.Set(i, old)
		if f != g {
			t.Fatal("equal registers again", i)
		}
	}
	if (File{}) != Of([32]uint64{5}) {
		t.Fatal("the zero value is a file of zeros")
	}
}

// P5.3: a file is a value: what is done to a copy does not affect the original.
func TestFileIsAValue(t *testing.T) {
	f := Of(sample())
	before := f
	g := f
	g.Set(9, 1)
	if f != before || g == f {
		t.Fatal(f, g)
	}
}
