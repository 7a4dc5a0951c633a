package walk

import (
	"math"
	"math/rand/v2"
	"slices"
	"strings"
	"testing"

	"roebuck/api"
	"roebuck/cause"
	"roebuck/pte"
	"roebuck/ram"
	"roebuck/vaddr"
)

const ones = ^uint64(0)

// above is the word of which all bits from a number on are 1.
func above(n int) uint64 {
	return ones << n
}

// frame is the number of the memory's first frame.
const frame = api.RamBase / 4096

// both are the values of a flag.
var both = []bool{false, true}

// letters are the names of an entry's lowest bits, bit 0 first.
const letters = "VRWXUGAD"

// bits is the word in which the bits with these letters are 1.
func bits(names string) uint64 {
	var flags uint64
	for _, name := range names {
		flags |= 1 << strings.IndexRune(letters, name)
	}
	return flags
}

// at is the entry of the frame with that number.
func at(n uint64, names string) uint64 {
	return pte.Make(n, bits(names))
}

// entry is the entry of the frame with that number, counted from the memory's first one.
func entry(n uint64, names string) uint64 {
	return at(frame+n, names)
}

// isTale compares all that a walk tells with a tale.
func isTale(t *testing.T, x *Walk, want tale) {
	t.Helper()
	if q := x.Quest(); q != want.quest {
		t.Fatalf("quest: got %+v, want %+v", q, want.quest)
	}
	if ask, ok := x.Ask(); ask != want.ask || ok != want.goes {
		t.Fatalf("ask: got %+v %v, want %+v", ask, ok, want)
	}
	if end, e := x.End(); end != want.end || e != want.entry {
		t.Fatalf("end: got %d %+v, want %+v", end, e, want)
	}
	if n := x.Again(); n != want.again {
		t.Fatalf("again: got %d, want %+v", n, want)
	}
}

// isOver asks that a walk has ended so, and that nothing it is told changes it.
func isOver(t *testing.T, x Walk, how int, e api.Entry) {
	t.Helper()
	isTale(t, &x, tale{quest: x.Quest(), end: how, entry: e, again: x.Again()})
	was := x
	for _, b := range []api.Answer{{}, {Good: true}, {Data: entry(1, "V")}, {Data: entry(1, "VRWXAD"), Good: true}, {Data: ones}} {
		x.Tell(b)
		if x != was {
			t.Fatalf("an end: %+v, told %+v: %+v", was, b, x)
		}
	}
}

// told is a walk that has been told these entries.
func told(q Quest, entries ...uint64) Walk {
	x := Begin(q)
	for _, p := range entries {
		x.Tell(api.Answer{Data: p})
	}
	return x
}

// book holds walks against the chapter's words, and each two of them against each other.
type book struct {
	walks map[tale]Walk
	tales map[Walk]tale
}

// check holds a walk against the tale of what it was told.
func (b *book) check(t *testing.T, x Walk, answers []api.Answer) tale {
	t.Helper()
	want := tell(x.Quest(), answers)
	isTale(t, &x, want)
	if other, ok := b.walks[want]; ok && other != x {
		t.Fatalf("the same state, but not equal: %+v %+v", x, other)
	}
	if other, ok := b.tales[x]; ok && other != want {
		t.Fatalf("equal, but not the same state: %+v %+v", want, other)
	}
	b.walks[want], b.tales[x] = x, want
	return want
}

// explore tells a walk everything that it may be told, till it has ended or started again so often.
func (b *book) explore(t *testing.T, x Walk, answers []api.Answer, pool []uint64, most int) {
	t.Helper()
	now := b.check(t, x, answers)
	if now.again > most {
		return
	}
	var next []api.Answer
	if now.ask.Kind == api.Mark {
		next = []api.Answer{{Good: true}, {}, {Good: true, Data: ones}, {Data: now.ask.Old}}
	} else {
		for _, p := range pool {
			next = append(next, api.Answer{Data: p, Good: p%3 == 0})
		}
	}
	for _, n := range next {
		y := x
		y.Tell(n)
		if !now.goes && y != x {
			t.Fatalf("an end has changed: %+v", now)
		}
		if now.goes {
			b.explore(t, y, append(slices.Clone(answers), n), pool, most)
		}
	}
	b.check(t, x, answers)
}

func newBook() *book {
	return &book{walks: map[tale]Walk{}, tales: map[Walk]tale{}}
}

// pool is entries that lead on, into the memory and out of it, leaves, and what is neither.
var pool = []uint64{
	0, entry(0, "V"), entry(1, "V"), entry(1, "VG"), entry(200, "V"), at(0, "V"), entry(0, "VRWXAD"), entry(0, "VRW"), entry(0, "VXA"), entry(0, "VRUA"), entry(0, "VRWU"),
	entry(512, "VRWA"), entry(1, "VRWXUAD"), entry(0, "VWAD"), entry(0, "VU"), 1<<54 | at(0, "VRA"),
}

// P27.1, P27.2: walks for every access in every privilege, with everything that they may be told, against the book; two are equal if and only if they search and stand alike.
func TestExplore(t *testing.T) {
	b := newBook()
	for _, access := range []int{cause.Insn, cause.Load, cause.Store, 3} {
		for _, priv := range []api.Priv{api.User, api.Super, api.Machine} {
			for _, sum := range both {
				for _, mxr := range both {
					q := Quest{Lines: 128, Root: frame, Va: 1<<30 | 1<<21 | 1<<12 | 5, Access: access, Priv: priv, Sum: sum, Mxr: mxr}
					b.explore(t, Begin(q), nil, pool, 0)
				}
			}
		}
	}
	if len(b.walks) != len(b.tales) || len(b.walks) < 500 {
		t.Fatal(len(b.walks), len(b.tales))
	}
}

// P27.1, P27.2: walks that start again twice, with everything that they may be told, against the book.
func TestExploreAgain(t *testing.T) {
	b := newBook()
	few := []uint64{0, entry(1, "V"), entry(0, "VR"), entry(0, "VRWA"), entry(200, "V")}
	for _, access := range []int{cause.Load, cause.Store} {
		b.explore(t, Begin(Quest{Lines: 128, Root: frame, Va: 4096, Access: access, Priv: api.Super}), nil, few, 2)
	}
}

// P27.1, P27.2: walks by tables, indices and memories of many kinds, against the book.
func TestExploreQuests(t *testing.T) {
	b := newBook()
	few := []uint64{0, entry(0, "V"), entry(1, "V"), entry(63, "V"), entry(64, "V"), at(frame-1, "V"), entry(0, "VRWXAD"), entry(0, "VRW")}
	for _, lines := range []int{1, 2, 64, 65, 128, 4095, 4096} {
		for _, root := range []uint64{frame, frame + 1, frame + 63, frame + 64, frame - 1, 0, frame | 1<<44, frame | 1<<63, ones, 1<<44 - 1} {
			for _, va := range []uint64{0, 4095, 7<<30 | 7<<21 | 7<<12, 8 << 30, 8 << 21, 8 << 12, 1<<38 - 1, ones, above(38), 1<<38 | 5, 1 << 39, 1 << 63} {
				b.explore(t, Begin(Quest{Lines: lines, Root: root, Va: va, Access: cause.Store, Priv: api.Super}), nil, few, 0)
			}
		}
	}
	if len(b.walks) != len(b.tales) {
		t.Fatal(len(b.walks), len(b.tales))
	}
}

// P27.1: the first request: the example of the chapter, and the entry's place in the first table.
func TestFirst(t *testing.T) {
	for _, y := range []struct {
		lines    int
		root, va uint64
		want     uint64
	}{
		{1, 524288, 0, api.RamBase}, {1, 524288, 1<<30 - 1, api.RamBase}, {1, 524288, 1 << 30, api.RamBase + 8}, {1, 524288, 7 << 30, api.RamBase + 56}, {2, 524288, 8 << 30, api.RamBase + 64},
		{64, 524288, ones, api.RamBase + 4088}, {64, 524288, 1<<38 - 1, api.RamBase + 255*8}, {64, 524288, above(38), api.RamBase + 256*8}, {65, 524289, 0, api.RamBase + 4096},
		{4096, 524288 + 63, ones, api.RamBase + 4096*64 - 8}, {1, 1<<44 | 524288, 0, api.RamBase}, {1, above(44) | 524288, 0, api.RamBase},
	} {
		walk := Begin(Quest{Lines: y.lines, Root: y.root, Va: y.va})
		want := api.Ask{Kind: api.Walk, Addr: y.want, Size: 8}
		if got, ok := walk.Ask(); got != want || !ok {
			t.Fatalf("%+v: %+v %v", y, got, ok)
		}
		if end, e := walk.End(); end != Goes || e != (api.Entry{}) || walk.Again() != 0 {
			t.Fatalf("%+v: %d %+v", y, end, e)
		}
	}
}

// P27.1, P27.2: without the first entry in the memory, nothing is requested: Fault.
func TestFirstFault(t *testing.T) {
	for _, y := range []Quest{
		{Lines: 1, Root: frame, Va: 8 << 30}, {Lines: 63, Root: frame, Va: ones}, {Lines: 64, Root: frame + 1}, {Lines: 4096, Root: frame + 64}, {Lines: 4096, Root: frame - 1, Va: ones}, {Lines: 4096},
		{Lines: 4096, Root: 1<<44 - 1, Va: ones}, {Lines: 4096, Root: ones}, {Lines: 4096, Root: frame + 1<<20}, {Lines: 4096, Root: 1 << 43}, {},
	} {
		isOver(t, Begin(y), Fault, api.Entry{})
	}
}

// P27.1: nothing is in a memory whose number of lines is none.
func TestLines(t *testing.T) {
	for _, lines := range []int{0, -1, -64, -4096, 4097, 4098, 1 << 31, 1 << 32, 1<<32 + 1, 1 << 58, 1<<58 + 1, 1 << 62, math.MinInt, math.MinInt + 1, math.MaxInt} {
		isOver(t, Begin(Quest{Lines: lines, Root: frame}), Fault, api.Entry{})
		isOver(t, Begin(Quest{Lines: lines, Root: frame, Va: 1 << 38}), Page, api.Entry{})
	}
	for _, lines := range []int{1, 2, 4095, 4096} {
		walk := Begin(Quest{Lines: lines, Root: frame})
		if _, ok := walk.Ask(); !ok {
			t.Fatal(lines)
		}
	}
}

// P27.2: for an address that is not valid, a walk ends with Page, whatever is in the memory.
func TestNotValid(t *testing.T) {
	for _, va := range []uint64{1 << 38, 1 << 39, 1 << 63, 1<<63 | 1<<38, 1<<39 - 1, above(39), ones >> 1, ones ^ 1<<38, ones ^ 1<<63, above(38) - 1} {
		isOver(t, Begin(Quest{Lines: 4096, Root: frame, Va: va, Priv: api.Super, Access: cause.Load}), Page, api.Entry{})
		isOver(t, Begin(Quest{Va: va}), Page, api.Entry{})
	}
}

// P27.1: each level's entry is requested in the table to which the one before leads.
func TestLevels(t *testing.T) {
	q := Quest{Lines: 4096, Root: frame, Va: 3<<30 | 5<<21 | 7<<12 | 9, Access: cause.Load, Priv: api.Super}
	want := []api.Ask{
		{Kind: api.Walk, Addr: api.RamBase + 24, Size: 8},
		{Kind: api.Walk, Addr: api.RamBase + 2*4096 + 40, Size: 8},
		{Kind: api.Walk, Addr: api.RamBase + 4*4096 + 56, Size: 8},
	}
	walk := Begin(q)
	for i, p := range []uint64{entry(2, "V"), entry(4, "VG"), entry(9, "VRA")} {
		if got, ok := walk.Ask(); got != want[i] || !ok {
			t.Fatalf("%d: %+v %v", i, got, ok)
		}
		walk.Tell(api.Answer{Data: p})
	}
	isOver(t, walk, Found, api.Entry{Page: 3<<30 | 5<<21 | 7<<12, Level: 0, Pte: entry(9, "VRA")})
}

// P27.1, P27.2: an entry that is invalid at its level, or a leaf that does not permit the access, ends a walk with Page, at every level.
func TestPages(t *testing.T) {
	tables := []uint64{entry(1, "V"), entry(2, "V")}
	q := Quest{Lines: 4096, Root: frame, Va: 1 << 12, Access: cause.Store, Priv: api.Super}
	for n := range 3 {
		before := tables[:n]
		for _, p := range []uint64{
			0, ones, entry(0, "RWAD"), entry(0, "VWAD"), entry(0, "VWXAD"), entry(0, "VU"), entry(0, "VA"), entry(0, "VD"), 1<<54 | entry(0, "VRWAD"), 1<<63 | entry(0, "VRWAD"),
			entry(0, "VRAD"), entry(0, "VXAD"), entry(0, "VRWUAD"),
		} {
			isOver(t, told(q, append(slices.Clone(before), p)...), Page, api.Entry{})
		}
	}
	isOver(t, told(q, entry(1, "VRWAD")), Page, api.Entry{})
	isOver(t, told(q, entry(1<<9, "VRWAD")), Page, api.Entry{})
	isOver(t, told(q, entry(1, "V"), entry(1, "VRWAD")), Page, api.Entry{})
	isOver(t, told(q, entry(1, "V"), entry(2, "V"), entry(3, "V")), Page, api.Entry{})
	for _, access := range []int{3, 4, -1, 64, 256, 257, 258, 1 << 32, 1<<32 + 1, math.MinInt, math.MaxInt} {
		q.Access = access
		isOver(t, told(q, entry(0, "VRWXAD")), Page, api.Entry{})
	}
}

// P27.2: a leaf of each level is found with the address of its page.
func TestFound(t *testing.T) {
	q := Quest{Lines: 4096, Root: frame, Va: ones - 4096, Access: cause.Insn, Priv: api.User}
	leaf := entry(0, "VXUAG") | 3<<8
	isOver(t, told(q, leaf), Found, api.Entry{Page: above(30), Level: 2, Pte: leaf})
	isOver(t, told(q, entry(1, "V"), leaf), Found, api.Entry{Page: above(21), Level: 1, Pte: leaf})
	isOver(t, told(q, entry(1, "V"), entry(1, "V"), leaf), Found, api.Entry{Page: above(12) - 4096, Level: 0, Pte: leaf})
	far := at(1<<44-1, "VXUA")
	isOver(t, told(q, entry(1, "V"), entry(1, "V"), far), Found, api.Entry{Page: above(12) - 4096, Level: 0, Pte: far})
}

// P27.1, P27.2: tables that are not in the memory: Fault, at every level.
func TestFault(t *testing.T) {
	q := Quest{Lines: 65, Root: frame, Va: 7<<21 | 7<<12, Access: cause.Load, Priv: api.Super}
	for _, p := range []uint64{entry(2, "V"), at(0, "V"), at(frame-1, "V"), at(1<<44-1, "V"), entry(1<<20, "V")} {
		isOver(t, told(q, p), Fault, api.Entry{})
		isOver(t, told(q, entry(1, "V"), p), Fault, api.Entry{})
	}
	q.Va = 7<<21 | 8<<12
	isOver(t, told(q, entry(1, "V"), entry(1, "V")), Fault, api.Entry{})
	q.Va = 8 << 21
	isOver(t, told(q, entry(1, "V")), Fault, api.Entry{})
	// The table is in the memory, and the entry behind those that are.
	q.Lines = 1
	isOver(t, told(q, entry(0, "V")), Fault, api.Entry{})
	q.Va = 7 << 21
	walk := told(q, entry(0, "V"))
	isTale(t, &walk, tale{quest: q, ask: api.Ask{Kind: api.Walk, Addr: api.RamBase + 56, Size: 8}, goes: true})
}

// P27.1: a leaf that is not marked: the request to mark it, for each access and each mark that it may have.
func TestMark(t *testing.T) {
	for _, access := range []int{cause.Insn, cause.Load, cause.Store} {
		for _, marks := range []string{"", "A", "D", "AD"} {
			for n, before := range [][]uint64{{}, {entry(1, "V")}, {entry(1, "V"), entry(2, "V")}} {
				q := Quest{Lines: 4096, Root: frame, Va: 1<<30 | 2<<21 | 3<<12 | 4, Access: access, Priv: api.Super}
				leaf := entry(0, "VRWX"+marks)
				marked := entry(0, "VRWXA"+marks)
				if access == cause.Store {
					marked = entry(0, "VRWXAD")
				}
				addr := api.RamBase + []uint64{8, 4096 + 16, 2*4096 + 24}[n]
				found := api.Entry{Page: q.Va / sizes[2-n] * sizes[2-n], Level: 2 - n, Pte: marked}
				walk := told(q, append(slices.Clone(before), leaf)...)
				if marked == leaf {
					isOver(t, walk, Found, found)
					continue
				}
				want := api.Ask{Kind: api.Mark, Addr: addr, Size: 8, Old: leaf, Data: marked}
				isTale(t, &walk, tale{quest: q, ask: want, goes: true})
				walk.Tell(api.Answer{Good: true, Data: ones})
				isOver(t, walk, Found, found)
			}
		}
	}
}

// P27.1: only Data of the response to a Walk counts, and only Good of that to a Mark.
func TestAnswers(t *testing.T) {
	q := Quest{Lines: 4096, Root: frame, Va: 4096, Access: cause.Load, Priv: api.Super}
	mail := [8]api.Req{{Set: true, ByVa: true, Va: 4096}}
	for _, p := range []uint64{0, entry(1, "V"), entry(0, "VR"), entry(0, "VRA")} {
		one, other := Begin(q), Begin(q)
		one.Tell(api.Answer{Data: p})
		other.Tell(api.Answer{Data: p, Good: true, Mail: mail})
		if one != other {
			t.Fatalf("%x: %+v %+v", p, one, other)
		}
	}
	for _, good := range both {
		one := told(q, entry(0, "VR"))
		other := one
		one.Tell(api.Answer{Good: good})
		other.Tell(api.Answer{Good: good, Data: entry(1, "V"), Mail: mail})
		if one != other || one.Again() == 0 != good {
			t.Fatalf("%v: %+v %+v", good, one, other)
		}
	}
}

// P27.2: each mark that is not Good starts the walk again at level 2, with the first table, and is counted.
func TestAgain(t *testing.T) {
	q := Quest{Lines: 4096, Root: frame + 5, Va: 1<<30 | 2<<21 | 3<<12, Access: cause.Store, Priv: api.Super}
	walk := Begin(q)
	first, _ := walk.Ask()
	for n := range 100 {
		if got, ok := walk.Ask(); got != first || !ok || walk.Again() != n {
			t.Fatalf("%d: %+v %v %d", n, got, ok, walk.Again())
		}
		// The leaf is at another level each time.
		for range n % 3 {
			walk.Tell(api.Answer{Data: entry(1, "V")})
		}
		walk.Tell(api.Answer{Data: entry(0, "VRWA")})
		if got, _ := walk.Ask(); got.Kind != api.Mark {
			t.Fatalf("%d: %+v", n, got)
		}
		walk.Tell(api.Answer{})
	}
	for _, b := range []struct {
		p    uint64
		how  int
		e    api.Entry
		goes bool
	}{
		{p: 0, how: Page}, {p: entry(1<<10, "V"), how: Fault}, {p: entry(0, "VRWAD"), how: Found, e: api.Entry{Page: 1 << 30, Level: 2, Pte: entry(0, "VRWAD")}},
	} {
		y := walk
		y.Tell(api.Answer{Data: b.p})
		if y.Again() != 100 {
			t.Fatal(y.Again())
		}
		isOver(t, y, b.how, b.e)
	}
	if walk == Begin(q) {
		t.Fatal("a walk that started again is not one at its beginning")
	}
}

// A walk is a value: a copy does not hang on it; a walk that ended is the same, however it came there.
func TestValue(t *testing.T) {
	q := Quest{Lines: 4096, Root: frame, Va: 4096, Access: cause.Store, Priv: api.Super}
	walk := Begin(q)
	if walk != Begin(q) {
		t.Fatal("two at the beginning")
	}
	was := walk
	walk.Tell(api.Answer{Data: entry(1, "V")})
	if was != Begin(q) || was == walk || walk != told(q, entry(1, "V")) || walk == told(q, entry(2, "V")) {
		t.Fatal("copies")
	}
	if told(q, 0) != told(q, entry(1, "V"), 0) || told(q, 0) != told(q, entry(1, "V"), entry(2, "V"), entry(3, "V")) || told(q, 0) != told(q, entry(0, "VR")) {
		t.Fatal("ended with Page")
	}
	if told(q, at(0, "V")) != told(q, entry(1, "V"), at(0, "V")) || told(q, 0) == told(q, at(0, "V")) {
		t.Fatal("ended with Fault")
	}
	one, other := told(q, entry(0, "VRWA")), told(q, entry(0, "VRW"))
	if one == other {
		t.Fatal("other marks")
	}
	one.Tell(api.Answer{Good: true})
	other.Tell(api.Answer{Good: true})
	if one != other || one != told(q, entry(0, "VRWAD")) || one == told(q, entry(1, "V"), entry(0, "VRWAD")) {
		t.Fatal("ended with Found")
	}
	for _, p := range []Quest{{Va: 1 << 38}, {Va: 1 << 39}, {Va: 1 << 38, Lines: 1}, {Va: 1 << 38, Root: 1}, {Va: 1 << 38, Access: 1}, {Va: 1 << 38, Priv: 1}, {Va: 1 << 38, Sum: true}, {Va: 1 << 38, Mxr: true}} {
		if x := Begin(p); (x == Begin(Quest{Va: 1 << 38})) != (p == Quest{Va: 1 << 38}) || x.Quest() != p {
			t.Fatalf("%+v", p)
		}
	}
}

// A nil walk, and one that Begin has not created, has no request, ended with Page, and does nothing.
func TestNil(t *testing.T) {
	var none *Walk
	var zero Walk
	for _, walk := range []*Walk{none, &zero} {
		for _, b := range []api.Answer{{}, {Good: true}, {Data: entry(0, "V")}, {Data: entry(0, "VRWXAD"), Good: true}} {
			walk.Tell(b)
			isTale(t, walk, tale{end: Page})
		}
	}
	if zero != (Walk{}) || zero == Begin(Quest{}) {
		t.Fatal("zero")
	}
}

// The numbers of the ends.
func TestNumbers(t *testing.T) {
	if Goes != 0 || Found != 1 || Page != 2 || Fault != 3 {
		t.Fatal("numbers")
	}
}

// count is how many requests of each kind a walk made.
type count struct{ walks, marks int }

// finish has a walk's requests done by a memory till it has ended; before each one, meanwhile happens.
func finish(t *testing.T, m *ram.Ram, walk *Walk, meanwhile func(ask api.Ask)) count {
	t.Helper()
	var c count
	for range 1000 {
		ask, ok := walk.Ask()
		if !ok {
			return c
		}
		meanwhile(ask)
		p, in := m.Load(ask.Addr, ask.Size)
		if !in {
			t.Fatalf("not in the memory: %+v", ask)
		}
		b := api.Answer{Data: p}
		switch ask.Kind {
		case api.Walk:
			c.walks++
		case api.Mark:
			c.marks++
			if b.Good = p == ask.Old; b.Good {
				m.Store(ask.Addr, ask.Size, ask.Data)
			}
		default:
			t.Fatalf("%+v", ask)
		}
		walk.Tell(b)
	}
	t.Fatal("the walk does not end")
	return c
}

// tables is a memory of so many frames, with entries of all kinds where walks for small indices come by.
func tables(t *testing.T, rnd *rand.Rand, all int) *ram.Ram {
	t.Helper()
	m, e := ram.New(all * 64)
	if e != api.OK {
		t.Fatal(e)
	}
	for n := range all {
		for index := range 4 {
			p := entry(rnd.Uint64N(uint64(all)+1), "V") | rnd.Uint64N(2)<<5
			switch rnd.IntN(8) {
			case 0, 1, 2:
				p = pte.Make(rnd.Uint64N(1<<18)<<rnd.IntN(20), 1|rnd.Uint64N(256))
			case 3:
				p = at(0, "VRWX") | rnd.Uint64N(256)
			}
			m.Store(api.RamBase+uint64(n*4096+index*8), 8, p)
		}
	}
	return m
}

// anyQuest is a walk for small indices in a memory of so many frames.
func anyQuest(rnd *rand.Rand, all int) Quest {
	va := rnd.Uint64N(4)<<30 | rnd.Uint64N(4)<<21 | rnd.Uint64N(4)<<12 | rnd.Uint64N(4096)
	return Quest{
		Lines: all * 64, Root: frame + rnd.Uint64N(uint64(all)), Va: va, Access: rnd.IntN(3), Priv: []api.Priv{api.User, api.Super, api.Machine}[rnd.IntN(3)],
		Sum: rnd.IntN(2) == 0, Mxr: rnd.IntN(2) == 0,
	}
}

// P27.3: in a memory that nobody else changes: no further start, at most three entries and one mark; what is found permits the access and is marked, and a further walk finds it without a mark.
func TestMemory(t *testing.T) {
	rnd := rand.New(rand.NewPCG(27, 1))
	seen := map[[3]int]int{}
	for range 3000 {
		all := 1 + rnd.IntN(5)
		m := tables(t, rnd, all)
		for range 10 {
			q := anyQuest(rnd, all)
			walk := Begin(q)
			was := m.Clone()
			c := finish(t, m, &walk, func(api.Ask) {})
			how, e := walk.End()
			seen[[3]int{how, c.walks, c.marks}]++
			if walk.Again() != 0 || c.walks > 3 || c.walks < 1 || c.marks > 1 || c.marks == 1 && how != Found || c.marks == 0 && !m.Same(was) {
				t.Fatalf("%+v: %d %+v", q, how, c)
			}
			if how != Found {
				continue
			}
			_, other := pte.Marked(e.Pte, q.Access)
			if other || !pte.Lets(e.Pte, q.Access, q.Priv, q.Sum, q.Mxr) || pte.Kind(e.Pte, e.Level) != pte.Leaf || !vaddr.Same(e.Page, q.Va, e.Level) || e.Asid != 0 {
				t.Fatalf("%+v: %+v", q, e)
			}
			next := Begin(q)
			c = finish(t, m, &next, func(api.Ask) {})
			if c.marks != 0 || next != walk {
				t.Fatalf("%+v: %+v %+v", q, next, c)
			}
		}
	}
	for _, need := range [][3]int{{Found, 1, 0}, {Found, 2, 0}, {Found, 3, 0}, {Found, 1, 1}, {Found, 2, 1}, {Found, 3, 1}, {Page, 1, 0}, {Page, 2, 0}, {Page, 3, 0}, {Fault, 1, 0}, {Fault, 2, 0}} {
		if seen[need] < 10 {
			t.Fatalf("%v: %v", need, seen)
		}
	}
}

// P27.1, P27.2: in a memory that another hart changes meanwhile, a walk starts again, and finds what is there then.
func TestMeanwhile(t *testing.T) {
	m, _ := ram.New(64)
	m.Store(api.RamBase, 8, entry(0, "VRW"))
	left := 3
	walk := Begin(Quest{Lines: 64, Root: frame, Access: cause.Store, Priv: api.Super})
	c := finish(t, m, &walk, func(ask api.Ask) {
		if ask.Kind == api.Mark && left > 0 {
			left--
			m.Store(ask.Addr, 8, ask.Old^(1<<8))
		}
	})
	want := api.Entry{Level: 2, Pte: entry(0, "VRWAD") | 1<<8}
	if p, _ := m.Load(api.RamBase, 8); c != (count{4, 4}) || walk.Again() != 3 || p != want.Pte {
		t.Fatalf("%+v %d %x", c, walk.Again(), p)
	}
	isOver(t, walk, Found, want)
}

// Fixed rows of quests and responses of any bits, against the book.
func TestRows(t *testing.T) {
	rnd := rand.New(rand.NewPCG(27, 2))
	b := newBook()
	for range 20000 {
		q := Quest{
			Lines: rnd.IntN(300) - 1, Root: frame + rnd.Uint64N(6) - 1 + rnd.Uint64N(2)<<44, Va: uint64(int64(rnd.Uint64()) >> (24 + rnd.IntN(30))), Access: rnd.IntN(4), Priv: api.Priv(rnd.IntN(4)),
			Sum: rnd.IntN(2) == 0, Mxr: rnd.IntN(2) == 0,
		}
		walk := Begin(q)
		var answers []api.Answer
		for range 12 {
			now := b.check(t, walk, answers)
			if !now.goes {
				break
			}
			n := api.Answer{Data: pool[rnd.IntN(len(pool))], Good: rnd.IntN(3) == 0}
			switch rnd.IntN(4) {
			case 0:
				n.Data = entry(rnd.Uint64N(4), "V")
			case 1:
				n.Data = rnd.Uint64() >> rnd.IntN(64) << rnd.IntN(30)
			}
			walk.Tell(n)
			answers = append(answers, n)
		}
	}
}
