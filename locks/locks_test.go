package locks

import (
	"math"
	"math/rand/v2"
	"slices"
	"testing"

	"roebuck/api"
)

// strangers are numbers of nobody.
var strangers = []int{math.MinInt, math.MinInt + 1, -1 << 32, -8, -1, 8, 9, 64, 1 << 32, 1<<32 + 1, math.MaxInt}

// missing are numbers of locks that are in no locks.
var missing = []int{math.MinInt, -1 << 32, -128, -1, 128, 129, 1 << 32, 1<<32 + 1, math.MaxInt}

func fresh(t *testing.T, n int) *Locks {
	t.Helper()
	l, e := New(n)
	if l == nil || e != api.OK {
		t.Fatal(n, e)
	}
	return l
}

// ledger is locks as the chapter's words have them: a holder each, or -1, and a queue each.
type ledger struct {
	holders []int
	queues  [][]int
}

func newLedger(n int) *ledger {
	return &ledger{holders: slices.Repeat([]int{-1}, n), queues: make([][]int, n)}
}

func (b *ledger) exist(who, lock int) bool {
	return who >= 0 && who <= 7 && lock >= 0 && lock < len(b.holders)
}

func (b *ledger) take(who, lock int) bool {
	if !b.exist(who, lock) {
		return false
	}
	if b.holders[lock] == -1 {
		b.holders[lock] = who
	}
	if b.holders[lock] == who {
		return true
	}
	if !slices.Contains(b.queues[lock], who) {
		b.queues[lock] = append(b.queues[lock], who)
	}
	return false
}

func (b *ledger) drop(who, lock int) bool {
	if !b.exist(who, lock) || b.holders[lock] != who {
		return false
	}
	b.holders[lock] = -1
	if q := b.queues[lock]; len(q) > 0 {
		b.holders[lock], b.queues[lock] = q[0], slices.Clone(q[1:])
	}
	return true
}

// held is the locks of one; those of -1 are the free ones.
func (b *ledger) held(who int) []int {
	var out []int
	for lock, h := range b.holders {
		if h == who {
			out = append(out, lock)
		}
	}
	return out
}

func (b *ledger) waits(who int) (int, bool) {
	for lock, q := range b.queues {
		if slices.Contains(q, who) {
			return lock, true
		}
	}
	return 0, false
}

// isStuck tells whether each member of a set waits at a lock whose holder is in the set.
func (b *ledger) isStuck(set []int) bool {
	for _, who := range set {
		blocked := false
		for lock, q := range b.queues {
			blocked = blocked || slices.Contains(q, who) && slices.Contains(set, b.holders[lock])
		}
		if !blocked {
			return false
		}
	}
	return true
}

// stuck is the largest of all 256 sets that are deadlocked.
func (b *ledger) stuck() []int {
	var largest []int
	for bits := range 256 {
		var set []int
		for who := range 8 {
			if bits>>who&1 == 1 {
				set = append(set, who)
			}
		}
		if len(set) > len(largest) && b.isStuck(set) {
			largest = set
		}
	}
	return largest
}

// isLedger compares all that locks tell with a ledger.
func isLedger(t *testing.T, l *Locks, b *ledger) {
	t.Helper()
	for lock := -2; lock < len(b.holders)+2; lock++ {
		want, queue := -1, []int(nil)
		if b.exist(0, lock) {
			want, queue = b.holders[lock], b.queues[lock]
		}
		if h, ok := l.Holder(lock); ok != (want != -1) || h != max(want, 0) {
			t.Fatalf("Holder(%d): got %d %v, want %d", lock, h, ok, want)
		}
		if got := l.Queue(lock); !slices.Equal(got, queue) {
			t.Fatalf("Queue(%d): got %v, want %v", lock, got, queue)
		}
	}
	for who := -2; who < 10; who++ {
		if got, want := l.Held(who), b.held(who); who != -1 && !slices.Equal(got, want) || who == -1 && len(got) != 0 {
			t.Fatalf("Held(%d): got %v, want %v", who, got, want)
		}
		at, ok := l.Waits(who)
		if want, is := b.waits(who); at != want || ok != is {
			t.Fatalf("Waits(%d): got %d %v, want %d %v", who, at, ok, want, is)
		}
	}
	if got, want := l.Stuck(), b.stuck(); !slices.Equal(got, want) {
		t.Fatalf("Stuck: got %v, want %v", got, want)
	}
	// Nothing is kept of a lock that is free.
	if got, want := len(l.rows), len(b.holders)-len(b.held(-1)); got != want {
		t.Fatalf("kept: got %d locks, want %d", got, want)
	}
}

// P12.1: from 1 to 128 locks, all free; nil and ErrArg for other numbers.
func TestNew(t *testing.T) {
	for _, n := range []int{1, 2, 64, 127, 128} {
		l := fresh(t, n)
		isLedger(t, l, newLedger(n))
		if !l.Take(0, 0) || !l.Take(7, n-1) != (n == 1) || l.Take(1, n) {
			t.Fatal(n)
		}
	}
	for _, n := range []int{129, 0, -1, 130, 1 << 32, 1<<32 + 1, math.MinInt, math.MaxInt} {
		if l, e := New(n); l != nil || e != api.ErrArg {
			t.Fatal(n, l, e)
		}
	}
}

// P12.1: free, held by oneself, held by another one, and waited at already.
func TestTake(t *testing.T) {
	l, b := fresh(t, 3), newLedger(3)
	for _, x := range []struct {
		who, lock int
		want      bool
	}{{2, 1, true}, {2, 1, true}, {5, 1, false}, {0, 1, false}, {5, 1, false}, {2, 1, true}, {5, 0, true}, {0, 2, true}, {7, 1, false}, {7, 2, false}} {
		if l.Take(x.who, x.lock) != x.want || b.take(x.who, x.lock) != x.want {
			t.Fatal(x)
		}
		isLedger(t, l, b)
	}
	if !slices.Equal(l.Queue(1), []int{5, 0, 7}) || !slices.Equal(l.Queue(2), []int{7}) {
		t.Fatal(l.Queue(1), l.Queue(2))
	}
}

// P12.1: the first one of the queue becomes the holder; a lock without a queue becomes free; nobody else can drop it.
func TestDrop(t *testing.T) {
	l, b := fresh(t, 2), newLedger(2)
	for _, who := range []int{4, 6, 1} {
		l.Take(who, 1)
		b.take(who, 1)
	}
	for _, x := range []struct {
		who  int
		want bool
	}{{6, false}, {1, false}, {0, false}, {4, true}, {4, false}, {1, false}, {6, true}, {1, true}, {1, false}, {0, false}} {
		if l.Drop(x.who, 1) != x.want || b.drop(x.who, 1) != x.want || l.Drop(x.who, 0) {
			t.Fatal(x)
		}
		isLedger(t, l, b)
	}
	if !l.Take(4, 1) || !slices.Equal(l.Held(4), []int{1}) {
		t.Fatal("free again")
	}
}

// P12.1: whoever gets a lock waits at it no more, and may wait again once another one has it.
func TestWhoGotALockWaitsAnew(t *testing.T) {
	l := fresh(t, 1)
	l.Take(0, 0)
	l.Take(1, 0)
	l.Take(2, 0)
	l.Drop(0, 0)
	if _, ok := l.Waits(1); ok || !l.Take(1, 0) || !slices.Equal(l.Queue(0), []int{2}) {
		t.Fatal("the new holder")
	}
	if l.Take(0, 0) || !slices.Equal(l.Queue(0), []int{2, 0}) {
		t.Fatal("the old holder", l.Queue(0))
	}
}

// P12.1, P12.2: nobody and no lock: false, nothing is done, and nothing is found.
func TestStrangers(t *testing.T) {
	for _, n := range []int{1, 128} {
		l, b := fresh(t, n), newLedger(n)
		l.Take(0, 0)
		b.take(0, 0)
		for _, who := range strangers {
			if l.Take(who, 0) || l.Drop(who, 0) || l.Take(who, 200) || l.Drop(who, 200) || len(l.Held(who)) != 0 {
				t.Fatal(who)
			}
			if at, ok := l.Waits(who); at != 0 || ok {
				t.Fatal(who, at, ok)
			}
		}
		for _, lock := range append(missing, n) {
			if l.Take(0, lock) || l.Drop(0, lock) || len(l.Queue(lock)) != 0 {
				t.Fatal(lock)
			}
			if h, ok := l.Holder(lock); h != 0 || ok {
				t.Fatal(lock, h, ok)
			}
		}
		isLedger(t, l, b)
	}
}

// P12.2: the smallest lock, whichever was waited at first.
func TestWaits(t *testing.T) {
	l := fresh(t, 128)
	for _, lock := range []int{3, 127, 50} {
		l.Take(0, lock)
	}
	for _, x := range [][2]int{{127, 127}, {50, 50}, {3, 3}} {
		l.Take(1, x[0])
		if at, ok := l.Waits(1); at != x[1] || !ok {
			t.Fatal(x, at, ok)
		}
	}
	if !slices.Equal(l.Held(0), []int{3, 50, 127}) {
		t.Fatal(l.Held(0))
	}
}

// P12.2, P12.4: the chapter's examples, a ring of all, and those who wait for a ring, or for one who can go on.
func TestStuck(t *testing.T) {
	for _, x := range []struct {
		name string
		do   [][2]int
		want []int
	}{
		{"P12.2", [][2]int{{5, 1}, {0, 0}, {5, 0}, {0, 1}}, []int{0, 5}},
		{"P12.4", [][2]int{{0, 1}, {1, 0}, {1, 1}, {0, 0}}, []int{0, 1}},
		{"nobody", nil, nil},
		{"holders", [][2]int{{0, 0}, {1, 1}}, nil},
		{"one waits", [][2]int{{0, 0}, {1, 0}}, nil},
		{"a chain", [][2]int{{0, 0}, {1, 1}, {2, 2}, {1, 0}, {2, 1}, {3, 2}}, nil},
		{"a chain the other way", [][2]int{{3, 0}, {2, 1}, {1, 2}, {2, 0}, {1, 1}, {0, 2}}, nil},
		{"behind a ring", [][2]int{{0, 0}, {1, 1}, {0, 1}, {1, 0}, {2, 2}, {2, 0}, {3, 2}, {4, 3}, {5, 3}}, []int{0, 1, 2, 3}},
		{"in the queue before", [][2]int{{0, 0}, {1, 1}, {2, 0}, {1, 0}, {0, 1}}, []int{0, 1, 2}},
		{"all", [][2]int{{0, 0}, {1, 1}, {2, 2}, {3, 3}, {4, 4}, {5, 5}, {6, 6}, {7, 7}, {0, 1}, {1, 2}, {2, 3}, {3, 4}, {4, 5}, {5, 6}, {6, 7}, {7, 0}}, []int{0, 1, 2, 3, 4, 5, 6, 7}},
		{"two rings", [][2]int{{0, 0}, {4, 1}, {0, 1}, {4, 0}, {2, 2}, {7, 3}, {2, 3}, {7, 2}, {1, 4}}, []int{0, 2, 4, 7}},
		{"two locks waited at", [][2]int{{0, 0}, {1, 1}, {2, 2}, {0, 1}, {0, 2}, {2, 0}}, []int{0, 2}},
		{"one ring and a free end", [][2]int{{0, 0}, {1, 1}, {2, 2}, {0, 1}, {1, 0}, {0, 2}}, []int{0, 1}},
	} {
		l, b := fresh(t, 9), newLedger(9)
		for _, d := range x.do {
			l.Take(d[0], d[1])
			b.take(d[0], d[1])
		}
		if got := l.Stuck(); !slices.Equal(got, x.want) {
			t.Errorf("%s: got %v, want %v", x.name, got, x.want)
		}
		isLedger(t, l, b)
	}
}

// P12.1, P12.2, P12.4: many calls, one after another, against the ledger; the same ones every time.
func TestManyCalls(t *testing.T) {
	r := rand.New(rand.NewPCG(12, 1))
	met := map[int]int{}
	for round := range 300 {
		n := 1 + r.IntN(6)
		l, b := fresh(t, n), newLedger(n)
		for range 60 {
			who, lock := r.IntN(10)-1, r.IntN(n+2)-1
			if r.IntN(3) > 0 {
				if got, want := l.Take(who, lock), b.take(who, lock); got != want {
					t.Fatal(round, "Take", who, lock, got)
				}
			} else if got, want := l.Drop(who, lock), b.drop(who, lock); got != want {
				t.Fatal(round, "Drop", who, lock, got)
			}
			isLedger(t, l, b)
			met[len(l.Stuck())]++
		}
	}
	for _, n := range []int{0, 2, 3, 5, 8} {
		if met[n] == 0 {
			t.Fatal("never deadlocked:", n)
		}
	}
}

// P12.4: one holder at most, and whoever is before another one in the queue gets the lock before that one.
func TestFirstComeFirstServed(t *testing.T) {
	l := fresh(t, 2)
	order := []int{3, 7, 0, 5, 1, 6, 2, 4}
	for _, who := range order {
		l.Take(who, 1)
		l.Take(who, 1)
	}
	for _, who := range order {
		if h, ok := l.Holder(1); h != who || !ok {
			t.Fatal(h, ok, who)
		}
		l.Take(order[7], 1)
		if !l.Drop(who, 1) {
			t.Fatal(who)
		}
	}
	if _, ok := l.Holder(1); ok {
		t.Fatal("free at last")
	}
}

// P12.2: a copy tells the same, and neither one hangs on the other.
func TestClone(t *testing.T) {
	l, b := fresh(t, 3), newLedger(3)
	for _, d := range [][2]int{{0, 0}, {1, 1}, {2, 1}, {1, 0}, {0, 1}} {
		l.Take(d[0], d[1])
		b.take(d[0], d[1])
	}
	c := l.Clone()
	isLedger(t, c, b)
	for _, o := range []*Locks{c.Clone(), l.Clone()} {
		o.Take(7, 0)
		o.Take(6, 2)
		o.Drop(1, 1)
		o.Drop(0, 0)
	}
	isLedger(t, c, b)
	isLedger(t, l, b)
	l.Take(3, 1)
	c.Take(4, 1)
	if !slices.Equal(l.Queue(1), []int{2, 0, 3}) || !slices.Equal(c.Queue(1), []int{2, 0, 4}) {
		t.Fatal(l.Queue(1), c.Queue(1))
	}
	if e := fresh(t, 128).Clone(); !e.Take(0, 127) || e.Take(0, 128) {
		t.Fatal("a copy of free locks")
	}
}

// P3: results are new memory.
func TestResultsAreNew(t *testing.T) {
	l, b := fresh(t, 2), newLedger(2)
	for _, d := range [][2]int{{3, 0}, {4, 1}, {4, 0}, {3, 1}, {5, 0}} {
		l.Take(d[0], d[1])
		b.take(d[0], d[1])
	}
	j := Plan(1, 2)
	for _, s := range [][]int{l.Queue(0), l.Held(3), l.Stuck(), j.Needs()} {
		if len(s) == 0 {
			t.Fatal("empty")
		}
		full := s[:cap(s)]
		for i := range full {
			full[i] = 7
		}
	}
	isLedger(t, l, b)
	if !slices.Equal(j.Needs(), []int{1, 2}) {
		t.Fatal(j.Needs())
	}
}

// Nil locks have nothing.
func TestNilLocks(t *testing.T) {
	var l *Locks
	if l.Take(0, 0) || l.Drop(0, 0) || len(l.Queue(0)) != 0 || len(l.Held(0)) != 0 || len(l.Stuck()) != 0 || l.Clone() != nil {
		t.Fatal("nil")
	}
	if h, ok := l.Holder(0); h != 0 || ok {
		t.Fatal(h, ok)
	}
	if at, ok := l.Waits(0); at != 0 || ok {
		t.Fatal(at, ok)
	}
}

// P12.3: the locks, ascending, each once, and also those that do not exist.
func TestNeeds(t *testing.T) {
	for _, x := range []struct{ need, want []int }{
		{nil, nil}, {[]int{}, nil}, {[]int{3, 1, 3}, []int{1, 3}}, {[]int{2}, []int{2}}, {[]int{0, 0, 0}, []int{0}},
		{[]int{127, 5, 128, -1, 5, 0}, []int{-1, 0, 5, 127, 128}}, {[]int{math.MaxInt, math.MinInt}, []int{math.MinInt, math.MaxInt}},
	} {
		j := Plan(x.need...)
		if got := j.Needs(); !slices.Equal(got, x.want) || j.Done() {
			t.Errorf("Plan(%v): got %v, want %v", x.need, got, x.want)
		}
	}
}

// P3, P12.3: the locks that are passed are neither changed nor retained, and a job always needs the same ones.
func TestPlanLeavesItsArgument(t *testing.T) {
	all := []int{3, 1, 3, 9, 9}
	j := Plan(all[:3]...)
	if !slices.Equal(all, []int{3, 1, 3, 9, 9}) {
		t.Fatal("changed", all)
	}
	clear(all)
	l := fresh(t, 5)
	for !j.Done() {
		if !slices.Equal(j.Needs(), []int{1, 3}) {
			t.Fatal(j.Needs())
		}
		j.Step(l, 0, nil)
	}
	if !slices.Equal(j.Needs(), []int{1, 3}) {
		t.Fatal(j.Needs())
	}
}

// P12.3: all steps of jobs of one, alone: what each tells, what is held behind it, and when the action is performed.
func TestSteps(t *testing.T) {
	type step struct {
		told int
		held []int
		acts int
	}
	for _, x := range []struct {
		need []int
		want []step
	}{
		{nil, []step{{Over, nil, 1}, {Over, nil, 1}}},
		{[]int{2}, []step{{Took, []int{2}, 0}, {Did, []int{2}, 1}, {Over, nil, 1}, {Over, nil, 1}}},
		{[]int{3, 1, 3}, []step{{Took, []int{1}, 0}, {Took, []int{1, 3}, 0}, {Did, []int{1, 3}, 1}, {Gave, []int{1}, 1}, {Over, nil, 1}, {Over, nil, 1}, {Over, nil, 1}}},
		{[]int{7, 0, 4}, []step{{Took, []int{0}, 0}, {Took, []int{0, 4}, 0}, {Took, []int{0, 4, 7}, 0}, {Did, []int{0, 4, 7}, 1}, {Gave, []int{0, 4}, 1}, {Gave, []int{0}, 1}, {Over, nil, 1}, {Over, nil, 1}}},
	} {
		l, j, acts := fresh(t, 8), Plan(x.need...), 0
		for i, want := range x.want {
			told := j.Step(l, 6, func() {
				acts++
				if !slices.Equal(l.Held(6), j.Needs()) {
					t.Error("performed without the locks", l.Held(6))
				}
			})
			if told != want.told || !slices.Equal(l.Held(6), want.held) || acts != want.acts || j.Done() != (told == Over) {
				t.Fatalf("Plan(%v), step %d: told %d, held %v, acts %d, done %v", x.need, i, told, l.Held(6), acts, j.Done())
			}
		}
	}
	if Waits != 0 || Took != 1 || Did != 2 || Gave != 3 || Over != 4 {
		t.Error("the numbers of what a step tells")
	}
}

// P12.3: without an action the steps are the same.
func TestStepsWithoutAction(t *testing.T) {
	l, j := fresh(t, 4), Plan(1, 3)
	var told []int
	for range 6 {
		told = append(told, j.Step(l, 0, nil))
	}
	if !slices.Equal(told, []int{Took, Took, Did, Gave, Over, Over}) {
		t.Fatal(told)
	}
	for _, o := range []*Locks{nil, fresh(t, 1)} {
		k := Plan()
		if k.Done() || k.Step(o, 0, nil) != Over || !k.Done() {
			t.Fatal("no locks")
		}
	}
}

// P12.3: a lock that could not be taken is tried again, and comes with its turn in the queue; no later one is taken before it.
func TestStepWaits(t *testing.T) {
	l, j, acts := fresh(t, 4), Plan(3, 1), 0
	act := func() { acts++ }
	l.Take(5, 1)
	for range 3 {
		if j.Step(l, 0, act) != Waits || j.Done() || len(l.Held(0)) != 0 {
			t.Fatal("waits")
		}
	}
	if !slices.Equal(l.Queue(1), []int{0}) || len(l.Queue(3)) != 0 {
		t.Fatal(l.Queue(1), l.Queue(3))
	}
	l.Take(2, 3)
	l.Drop(5, 1)
	for i, want := range []int{Took, Waits, Waits} {
		if got := j.Step(l, 0, act); got != want {
			t.Fatal(i, got)
		}
	}
	l.Drop(2, 3)
	for i, want := range []int{Took, Did, Gave, Over} {
		if got := j.Step(l, 0, act); got != want || acts != min(i, 1) {
			t.Fatal(i, got, acts)
		}
	}
}

// P12.3: what a job releases goes to the first one who waits at it.
func TestStepGivesToTheQueue(t *testing.T) {
	l, j := fresh(t, 2), Plan(0, 1)
	j.Step(l, 0, nil)
	j.Step(l, 0, nil)
	for _, who := range []int{4, 3} {
		l.Take(who, 0)
		l.Take(who, 1)
	}
	j.Step(l, 0, nil)
	for i, want := range []int{Gave, Over} {
		if got := j.Step(l, 0, nil); got != want || !slices.Equal(l.Held(4), [][]int{{1}, {0, 1}}[i]) {
			t.Fatal(i, got, l.Held(4))
		}
	}
	if !slices.Equal(l.Queue(0), []int{3}) || !slices.Equal(l.Queue(1), []int{3}) {
		t.Fatal(l.Queue(0), l.Queue(1))
	}
}

// P12.3: a job that needs a lock that does not exist waits forever, behind the smaller ones; so does one of nobody, and one without locks to take.
func TestStepWaitsForever(t *testing.T) {
	for _, x := range []struct {
		need []int
		who  int
		took int
	}{
		{[]int{50}, 0, 0}, {[]int{9}, 0, 0}, {[]int{-1, 3}, 0, 0}, {[]int{math.MinInt}, 0, 0}, {[]int{8, 9, 3}, 0, 2}, {[]int{0, math.MaxInt}, 7, 1}, {[]int{3}, 8, 0}, {[]int{3}, -1, 0},
	} {
		l, j := fresh(t, 9), Plan(x.need...)
		for i := range 20 {
			want := Waits
			if i < x.took {
				want = Took
			}
			if got := j.Step(l, x.who, func() { t.Error("performed") }); got != want || j.Done() {
				t.Fatal(x, i, got)
			}
		}
		if len(l.Held(x.who)) != x.took {
			t.Fatal(x, l.Held(x.who))
		}
		k := Plan(x.need...)
		if k.Step(nil, x.who, func() { t.Error("performed") }) != Waits || k.Done() {
			t.Fatal(x, "nil locks")
		}
	}
}

// P12.3: a lock that one holds already is taken by the job, and released by it.
func TestStepTakesWhatIsHeld(t *testing.T) {
	l, j := fresh(t, 4), Plan(1, 3)
	l.Take(0, 1)
	for i, want := range []int{Took, Took, Did, Gave, Over} {
		if got := j.Step(l, 0, nil); got != want {
			t.Fatal(i, got)
		}
	}
	if len(l.Held(0)) != 0 {
		t.Fatal(l.Held(0))
	}
}

// P12.3: a job ends even if what it took has another holder by now, who keeps it.
func TestStepAfterALossOfLocks(t *testing.T) {
	l, j := fresh(t, 4), Plan(1, 3)
	j.Step(l, 0, nil)
	j.Step(l, 0, nil)
	l.Drop(0, 3)
	l.Take(2, 3)
	for i, want := range []int{Did, Gave, Over} {
		if got := j.Step(l, 0, nil); got != want {
			t.Fatal(i, got)
		}
	}
	if !slices.Equal(l.Held(2), []int{3}) || len(l.Held(0)) != 0 {
		t.Fatal(l.Held(2), l.Held(0))
	}
}

// P4: a copy of a job is a job by itself.
func TestJobIsAValue(t *testing.T) {
	l, j := fresh(t, 4), Plan(1, 3)
	j.Step(l, 0, nil)
	k, m := j, l.Clone()
	for !j.Done() {
		j.Step(l, 0, nil)
	}
	if k.Done() {
		t.Fatal("done with the other one")
	}
	for i, want := range []int{Took, Did, Gave, Over} {
		if got := k.Step(m, 0, nil); got != want {
			t.Fatal(i, got)
		}
	}
}

// A nil job is done, and does nothing.
func TestNilJob(t *testing.T) {
	var j *Job
	l := fresh(t, 1)
	if len(j.Needs()) != 0 || !j.Done() || j.Step(l, 0, func() { t.Error("performed") }) != Over || j.Step(nil, 0, nil) != Over {
		t.Fatal("nil")
	}
	isLedger(t, l, newLedger(1))
}

// crowd is some who have jobs over the same locks.
type crowd struct {
	locks *Locks
	jobs  []Job
}

// anyoneGoes tells whether somebody has a job and can perform a step that is not Waits.
func (c crowd) anyoneGoes() bool {
	for who, j := range c.jobs {
		if !j.Done() && j.Step(c.locks.Clone(), who, nil) != Waits {
			return true
		}
	}
	return false
}

func (c crowd) done() bool {
	return !slices.ContainsFunc(c.jobs, func(j Job) bool { return !j.Done() })
}

func randomJob(r *rand.Rand, locks int) Job {
	need := make([]int, r.IntN(locks+1))
	for i := range need {
		need[i] = r.IntN(locks)
	}
	return Plan(need...)
}

// P12.4: with jobs alone, one at a time each, nobody is ever deadlocked, and no two perform their actions over one lock; the same jobs every time.
func TestJobsAreNeverStuck(t *testing.T) {
	r := rand.New(rand.NewPCG(12, 4))
	waited := 0
	for range 200 {
		n := 1 + r.IntN(5)
		c := crowd{locks: fresh(t, n)}
		for range 2 + r.IntN(7) {
			c.jobs = append(c.jobs, randomJob(r, n))
		}
		for left := 30; !c.done(); {
			who := r.IntN(len(c.jobs))
			j := &c.jobs[who]
			told := j.Step(c.locks, who, func() {
				if !slices.Equal(c.locks.Held(who), j.Needs()) {
					t.Error("performed without the locks")
				}
			})
			if told == Waits {
				waited++
			}
			c.isFree(t)
			if told == Over && left > 0 {
				left--
				*j = randomJob(r, n)
			}
		}
		isLedger(t, c.locks, newLedger(n))
	}
	if waited == 0 {
		t.Fatal("nobody ever waited")
	}
}

// isFree fails if somebody is deadlocked, or if nobody who has a job can go on.
func (c crowd) isFree(t *testing.T) {
	t.Helper()
	if stuck := c.locks.Stuck(); len(stuck) != 0 || !c.done() && !c.anyoneGoes() {
		t.Fatal("deadlocked", stuck, c.jobs)
	}
}

// follow goes every way from here on, and returns how many ends there are; a step that waits changes nothing the second time, so it is left out then.
func (c crowd) follow(t *testing.T) int {
	t.Helper()
	c.isFree(t)
	if c.done() {
		return 1
	}
	ends := 0
	for who := range c.jobs {
		if c.jobs[who].Done() {
			continue
		}
		d := crowd{locks: c.locks.Clone(), jobs: slices.Clone(c.jobs)}
		told := d.jobs[who].Step(d.locks, who, nil)
		if _, before := c.locks.Waits(who); told != Waits || !before {
			ends += d.follow(t)
		}
	}
	return ends
}

// P12.4: all that may happen to two, for all sets of three locks that each may need.
func TestTwoJobsInEveryOrder(t *testing.T) {
	sets := [][]int{{}, {0}, {1}, {2}, {0, 1}, {0, 2}, {1, 2}, {0, 1, 2}}
	for _, a := range sets {
		for _, b := range sets {
			c := crowd{locks: fresh(t, 3), jobs: []Job{Plan(a...), Plan(b...)}}
			if c.follow(t) < 2 {
				t.Fatal("no two orders", a, b)
			}
		}
	}
}
