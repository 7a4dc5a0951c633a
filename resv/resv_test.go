package resv

import (
	"math"
	"math/rand/v2"
	"slices"
	"testing"

	"roebuck/api"
)

const ones = ^uint64(0)

// strangers are numbers of no hart.
var strangers = []int{math.MinInt, math.MinInt + 1, -1 << 32, -1<<32 + 1, -8, -1, 8, 9, 64, 255, 256, 257, 1 << 31, 1 << 32, 1<<32 + 1, math.MaxInt}

// lines are numbers of lines; of each of them there may be a reservation.
var lines = []uint64{0, 1, 5, 6, 63, 64, api.RamBase / 64, 1 << 31, 1 << 32, 1<<32 + 5, 1<<58 - 1, 1 << 58, 1 << 63, ones - 1, ones}

// ledger is what a table has by the chapter's words: the hart's line, if it has a reservation.
type ledger map[int]uint64

// who is the harts of a line, ascending.
func (b ledger) who(line uint64) []int {
	var out []int
	for hart := 0; hart <= 7; hart++ {
		if at, ok := b[hart]; ok && at == line {
			out = append(out, hart)
		}
	}
	return out
}

// all is the lines, ascending, each once.
func (b ledger) all() []uint64 {
	var out []uint64
	for _, line := range b {
		if !slices.Contains(out, line) {
			out = append(out, line)
		}
	}
	slices.Sort(out)
	return out
}

func (b ledger) kill(line uint64, but int) int {
	n := 0
	for _, hart := range b.who(line) {
		if hart != but {
			delete(b, hart)
			n++
		}
	}
	return n
}

// table is a table made from a ledger alone, with nothing behind it.
func (b ledger) table(t *testing.T) Table {
	t.Helper()
	var x Table
	for hart, line := range b {
		if !x.Set(hart, line) {
			t.Fatal(hart, line)
		}
	}
	return x
}

// isLedger compares all that a table tells with a ledger.
func isLedger(t *testing.T, x *Table, b ledger) {
	t.Helper()
	asked := append(slices.Clone(lines), b.all()...)
	for hart := range 8 {
		want, is := b[hart]
		if at, ok := x.Of(hart); at != want || ok != is {
			t.Fatalf("Of(%d): got %d %v, want %d %v", hart, at, ok, want, is)
		}
		for _, line := range asked {
			if got := x.Has(hart, line); got != (is && line == want) {
				t.Fatalf("Has(%d, %d): got %v", hart, line, got)
			}
		}
	}
	for _, hart := range strangers {
		if at, ok := x.Of(hart); at != 0 || ok {
			t.Fatalf("Of(%d): got %d %v", hart, at, ok)
		}
		for _, line := range asked {
			if x.Has(hart, line) {
				t.Fatalf("Has(%d, %d): got true", hart, line)
			}
		}
	}
	for _, line := range asked {
		if got, want := x.Who(line), b.who(line); !slices.Equal(got, want) {
			t.Fatalf("Who(%d): got %v, want %v", line, got, want)
		}
	}
	if got, want := x.Lines(), b.all(); !slices.Equal(got, want) {
		t.Fatalf("Lines: got %v, want %v", got, want)
	}
	if *x != b.table(t) {
		t.Fatalf("%v isn't the table of %v", *x, b)
	}
}

// Terms: in the zero value there are no reservations, of line 0 neither.
func TestZero(t *testing.T) {
	var x Table
	isLedger(t, &x, ledger{})
	if x != (Table{}) {
		t.Fatal(x)
	}
}

// P13.1: every hart and every line, whatever the reservation was; no such hart.
func TestSet(t *testing.T) {
	for hart := range 8 {
		var x Table
		b := ledger{}
		for _, line := range append(slices.Clone(lines), 0, ones, ones) {
			b[hart] = line
			if !x.Set(hart, line) {
				t.Fatal(hart, line)
			}
			isLedger(t, &x, b)
		}
	}
	x := ledger{0: 5, 7: 0}.table(t)
	for _, hart := range strangers {
		for _, line := range lines {
			if x.Set(hart, line) {
				t.Fatal(hart, line)
			}
		}
	}
	isLedger(t, &x, ledger{0: 5, 7: 0})
}

// P13.1: true once only; a reservation of line 0 is one; the other harts keep theirs.
func TestClear(t *testing.T) {
	for hart := range 8 {
		b := ledger{}
		for other := range 8 {
			b[other] = uint64(other / 2)
		}
		x := b.table(t)
		for _, stranger := range strangers {
			if x.Clear(stranger) {
				t.Fatal(stranger)
			}
		}
		isLedger(t, &x, b)
		delete(b, hart)
		if !x.Clear(hart) || x.Clear(hart) {
			t.Fatal(hart)
		}
		isLedger(t, &x, b)
		b[hart] = 0
		if !x.Set(hart, 0) || !x.Clear(hart) || x.Clear(hart) {
			t.Fatal(hart)
		}
	}
}

// P13.1: without a reservation 0 and false, so that one of line 0 is another thing.
func TestOfAndHas(t *testing.T) {
	x := ledger{3: 0, 4: ones}.table(t)
	if at, ok := x.Of(3); at != 0 || !ok || !x.Has(3, 0) || x.Has(3, 1) {
		t.Fatal(at, ok)
	}
	if at, ok := x.Of(4); at != ones || !ok || !x.Has(4, ones) || x.Has(4, 0) || x.Has(4, ones-1) {
		t.Fatal(at, ok)
	}
	if at, ok := x.Of(5); at != 0 || ok || x.Has(5, 0) || x.Has(5, ones) {
		t.Fatal(at, ok)
	}
}

// P13.2: the chapter's example, and each hart as the one that is left out.
func TestKill(t *testing.T) {
	x := ledger{0: 5, 1: 5}.table(t)
	if n, m := x.Kill(5, 1), x.Kill(5, 1); n != 1 || m != 0 {
		t.Fatal(n, m)
	}
	isLedger(t, &x, ledger{1: 5})
	for but := -1; but <= 8; but++ {
		b := ledger{0: 5, 1: 6, 2: 5, 3: 0, 5: 5, 6: 1<<32 + 5, 7: 5}
		x := b.table(t)
		if n, want := x.Kill(5, but), b.kill(5, but); n != want {
			t.Fatal(but, n, want)
		}
		isLedger(t, &x, b)
	}
}

// P13.2: a hart that doesn't exist, or has no reservation of the line, saves none; line 0 isn't no line.
func TestKillForNone(t *testing.T) {
	for _, but := range append(slices.Clone(strangers), 3, 4) {
		x := ledger{0: 0, 4: 9, 7: 0}.table(t)
		if n := x.Kill(0, but); n != 2 {
			t.Fatal(but, n)
		}
		isLedger(t, &x, ledger{4: 9})
		if n := x.Kill(0, but); n != 0 {
			t.Fatal(but, n)
		}
		isLedger(t, &x, ledger{4: 9})
	}
}

// P13.2: all eight harts; each line once; ascending as numbers without signs.
func TestWhoAndLines(t *testing.T) {
	b := ledger{}
	for hart := range 8 {
		b[hart] = ones
	}
	x := b.table(t)
	if got := x.Who(ones); !slices.Equal(got, []int{0, 1, 2, 3, 4, 5, 6, 7}) {
		t.Fatal(got)
	}
	if got := x.Lines(); !slices.Equal(got, []uint64{ones}) {
		t.Fatal(got)
	}
	x = ledger{0: ones, 1: 1 << 63, 2: 7, 3: 0, 4: 1 << 32, 5: 7, 6: 6, 7: 1}.table(t)
	for range 50 {
		if got := x.Lines(); !slices.Equal(got, []uint64{0, 1, 6, 7, 1 << 32, 1 << 63, ones}) {
			t.Fatal(got)
		}
	}
	if got := x.Who(7); !slices.Equal(got, []int{2, 5}) {
		t.Fatal(got)
	}
}

// P3: what is answered is new memory.
func TestAnswersAreNew(t *testing.T) {
	x := ledger{0: 5, 1: 6}.table(t)
	who, found := x.Who(5), x.Lines()
	who[0], found[0] = 3, 9
	isLedger(t, &x, ledger{0: 5, 1: 6})
}

// P4: a table is copied by assignment.
func TestCopies(t *testing.T) {
	x := ledger{0: 5, 1: 6}.table(t)
	y := x
	y.Set(0, 7)
	y.Clear(1)
	x.Set(2, 8)
	isLedger(t, &x, ledger{0: 5, 1: 6, 2: 8})
	isLedger(t, &y, ledger{0: 7})
}

// Promises: two tables are equal if and only if each hart has the same reservation in both, whatever was there before.
func TestEqual(t *testing.T) {
	few := []ledger{{}, {0: 0}, {1: 0}, {0: 1}, {7: 0}, {7: ones}, {0: 0, 1: 0}, {0: 5, 1: 6}, {0: 6, 1: 5}}
	for i, a := range few {
		for j, b := range few {
			x, y := a.table(t), b.table(t)
			if (x == y) != (i == j) {
				t.Fatal(a, b)
			}
		}
	}
	var x Table
	x.Set(3, 9)
	x.Set(4, 9)
	x.Clear(3)
	x.Kill(9, -1)
	if x != (Table{}) {
		t.Fatal(x)
	}
}

// P13.3: the chapter's example.
func TestExample(t *testing.T) {
	var x Table
	if x.Set(8, 1) || !x.Set(0, 5) || !x.Set(1, 5) || !x.Set(2, 6) || x.Kill(5, 1) != 1 {
		t.Fatal(x)
	}
	if !slices.Equal(x.Who(5), []int{1}) || !slices.Equal(x.Lines(), []uint64{5, 6}) {
		t.Fatal(x)
	}
}

// P13.1 to P13.3: long rows of calls, in orders that are the same each time.
func TestRows(t *testing.T) {
	r := rand.New(rand.NewPCG(13, 3))
	few := []uint64{0, 1, 5, 1<<32 + 5, ones}
	for range 300 {
		var x Table
		b := ledger{}
		for range 40 {
			hart, line := r.IntN(10)-1, few[r.IntN(len(few))]
			exists := hart >= 0 && hart < 8
			switch r.IntN(4) {
			case 0, 1:
				if exists {
					b[hart] = line
				}
				if x.Set(hart, line) != exists {
					t.Fatal("Set", hart, line)
				}
			case 2:
				_, want := b[hart]
				delete(b, hart)
				if x.Clear(hart) != want {
					t.Fatal("Clear", hart)
				}
			case 3:
				if got, want := x.Kill(line, hart), b.kill(line, hart); got != want {
					t.Fatal("Kill", line, hart, got, want)
				}
			}
		}
		isLedger(t, &x, b)
	}
}

// Promises: a nil table returns false, 0 and nothing, and does nothing.
func TestNil(t *testing.T) {
	var x *Table
	for _, hart := range append(slices.Clone(strangers), 0, 1, 7) {
		for _, line := range lines {
			if x.Set(hart, line) || x.Has(hart, line) || x.Kill(line, hart) != 0 || len(x.Who(line)) != 0 {
				t.Fatal(hart, line)
			}
		}
		if at, ok := x.Of(hart); at != 0 || ok || x.Clear(hart) {
			t.Fatal(hart)
		}
	}
	if len(x.Lines()) != 0 {
		t.Fatal("lines")
	}
}
