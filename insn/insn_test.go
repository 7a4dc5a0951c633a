package insn

import (
	"math"
	"math/rand/v2"
	"strings"
	"testing"

	"roebuck/api"
)

// noOps are numbers that no op has.
var noOps = []api.Op{0, -1, -2, api.AllOps + 1, api.AllOps + 2, 127, 128, 255, 256, 256 + api.Addi, 1 << 32, 1<<32 + api.Addi, math.MinInt, math.MaxInt}

// noFormats are numbers that no format has.
var noFormats = []Format{-1, -2, Sfence + 1, Sfence + 2, 100, 256 + I, 1 << 32, 1<<32 + I, math.MinInt, math.MaxInt}

// words are the edges of words and some words between them, the same ones every time.
func words() []uint32 {
	out := []uint32{0, 1, 0x7f, 0xfff, 0x12345678, 0x55555555, 0xaaaaaaaa, 0x7fffffff, 0x80000000, 0xfffffffe, 0xffffffff}
	for i := range 32 {
		out = append(out, 1<<i, ^uint32(1<<i))
	}
	r := rand.New(rand.NewPCG(5, 6))
	for range 200 {
		out = append(out, r.Uint32())
	}
	return out
}

// numbers are numbers of all sizes.
func numbers() []int64 {
	out := []int64{0, math.MinInt64, math.MinInt64 + 1, math.MaxInt64 - 1, math.MaxInt64, 0x5555555555555555, -0x5555555555555555, 0x0123456789abcdef}
	for i := range 63 {
		n := int64(1) << i
		out = append(out, n, n-1, n+1, -n, -n-1, -n+1)
	}
	return out
}

// P3.1: the formats' numbers are consecutive.
func TestFormatNumbers(t *testing.T) {
	all := []Format{None, R, I, S, B, U, J, Shift, ShiftW, Csr, CsrI, A, Lr, Bare, Sfence}
	if len(all) != len(strings.Fields(order)) {
		t.Fatal("formats:", len(all))
	}
	for i, f := range all {
		if int(f) != i {
			t.Fatal(f, "instead of", i)
		}
	}
}

// P3.1
func TestFormatOf(t *testing.T) {
	if FormatOf(api.Sfence) != Sfence {
		t.Fatal("example")
	}
	for _, r := range rows(t) {
		if got, want := FormatOf(r.op), formatNumber(t, r.format); got != want {
			t.Fatal(r.name, got, want)
		}
	}
	for _, op := range noOps {
		if f := FormatOf(op); f != None {
			t.Fatal(op, f)
		}
	}
}

// P3.1
func TestImm(t *testing.T) {
	for name, l := range formats(t) {
		f := formatNumber(t, name)
		for _, w := range words() {
			if got, want := Imm(f, w), slowImm(l, w); got != want {
				t.Fatalf("Imm(%s, %#x): got %d, want %d", name, w, got, want)
			}
		}
	}
	for _, w := range words() {
		if Imm(None, w) != 0 {
			t.Fatal("None", w)
		}
		for _, f := range noFormats {
			if Imm(f, w) != 0 {
				t.Fatal(f, w)
			}
		}
	}
}

// P3.1: each bit of a format's number, by itself.
func TestImmBits(t *testing.T) {
	for name, l := range formats(t) {
		f := formatNumber(t, name)
		for at := range 32 {
			w := uint32(1) << at
			if got, want := Imm(f, w), slowImm(l, w); got != want {
				t.Fatalf("Imm(%s, bit %d): got %d, want %d", name, at, got, want)
			}
		}
	}
}

// P3.1
func TestLay(t *testing.T) {
	for name, l := range formats(t) {
		f := formatNumber(t, name)
		for _, n := range numbers() {
			if got, want := Lay(f, n), slowLay(l, n); got != want {
				t.Fatalf("Lay(%s, %d): got %#x, want %#x", name, n, got, want)
			}
		}
	}
	for _, n := range numbers() {
		if Lay(None, n) != 0 {
			t.Fatal("None", n)
		}
		for _, f := range noFormats {
			if Lay(f, n) != 0 {
				t.Fatal(f, n)
			}
		}
	}
}

// P3.1
func TestFixed(t *testing.T) {
	for _, r := range rows(t) {
		mask, value := Fixed(r.op)
		wantMask, wantValue := slowFixed(r)
		if mask != wantMask || value != wantValue {
			t.Fatalf("%s: got %#x %#x, want %#x %#x", r.name, mask, value, wantMask, wantValue)
		}
		if value&^mask != 0 {
			t.Fatalf("%s: bits outside of the mask", r.name)
		}
	}
	for _, op := range noOps {
		if mask, value := Fixed(op); mask != 0 || value != 0 {
			t.Fatal(op, mask, value)
		}
	}
}

// P3.2
func TestDecodeExamples(t *testing.T) {
	for _, c := range []struct {
		w uint32
		x api.Insn
	}{
		{1049235, api.Insn{Op: api.Addi, Rd: 5, Imm: 1}},
		{4292866287, api.Insn{Op: api.Jal, Rd: 1, Imm: -4}},
		{115, api.Insn{Op: api.Ecall}},
		{1048691, api.Insn{Op: api.Ebreak}},
		{807403635, api.Insn{Op: api.Mret}},
		{270532723, api.Insn{Op: api.Sret}},
		{273678451, api.Insn{Op: api.Wfi}},
		{9<<25 | 31<<20 | 30<<15 | 115, api.Insn{Op: api.Sfence, Rs1: 30, Rs2: 31}},
		{0xfff<<20 | 31<<15 | 7<<12 | 31<<7 | 115, api.Insn{Op: api.Csrrci, Rd: 31, Rs1: 31, Csr: 4095}},
		{0x7ff0000f, api.Insn{Op: api.Fence, Imm: 2047}},
		{8<<25 | 1<<26 | 2<<15 | 3<<12 | 1<<7 | 47, api.Insn{Op: api.LrD, Rd: 1, Rs1: 2, Aq: true}},
		{8<<25 | 1<<25 | 2<<15 | 3<<12 | 1<<7 | 47, api.Insn{Op: api.LrD, Rd: 1, Rs1: 2, Rl: true}},
		{32<<25 | 63<<20 | 5<<12 | 19, api.Insn{Op: api.Srai, Imm: 63}},
		{0xfffff037, api.Insn{Op: api.Lui, Imm: -4096}},
	} {
		if x, ok := Decode(c.w); !ok || x != c.x {
			t.Fatalf("%#x: got %v %v, want %v", c.w, x, ok, c.x)
		}
	}
}

// P3.2, P3.4: words that no op has.
func TestDecodeNothing(t *testing.T) {
	for _, w := range []uint32{
		0, 1<<32 - 1,
		0x73 | 1<<7, 0x73 | 1<<15, 0x00200073, 0x30200073 | 1<<7, 0x10500073 | 1<<31, // nearly bare ops
		9<<25 | 1<<7 | 115, 9<<25 | 4<<12 | 115, 8<<25 | 115, // nearly sfence.vma
		8<<25 | 1<<20 | 2<<12 | 47, 8<<25 | 1<<12 | 47, 20<<25 | 2<<12 | 47, // nearly atomic ops
		1<<25 | 1<<12 | 27, 33<<25 | 5<<12 | 27, // shifts of 32 bits by 32
		2<<25 | 1<<12 | 19, 34<<25 | 5<<12 | 19, 32<<25 | 1<<12 | 19, // shifts with bits above
		2<<25 | 51, 32<<25 | 1<<12 | 51, 33<<25 | 51, 1<<25 | 1<<12 | 59, // sums with bits above
		7<<12 | 3, 4<<12 | 35, 2<<12 | 99, 3<<12 | 99, 1<<12 | 103, 2<<12 | 15, 2<<12 | 27, 2<<12 | 59, 4<<12 | 115, // no such funct3
		54, 56, 22, 18, 20, 50, 112, 127, // no such opcode
	} {
		if x, ok := Decode(w); ok || x != (api.Insn{}) {
			t.Fatalf("%#x: %v %v", w, x, ok)
		}
	}
}

// decodesAs holds Decode of a word against the chapter's table, and Encode against Decode.
func decodesAs(t *testing.T, all []row, ls map[string]layout, masks, values []uint32, w uint32) {
	t.Helper()
	found := 0
	var want api.Insn
	for i, r := range all {
		if w&masks[i] == values[i] {
			found++
			want = slowDecode(r, ls[r.format], w)
		}
	}
	x, ok := Decode(w)
	if found > 1 || ok != (found == 1) || x != want {
		t.Fatalf("%#x: got %v %v, want %v of %d ops", w, x, ok, want, found)
	}
	if !ok {
		return
	}
	if back, e := Encode(x); e != api.OK || back != w {
		t.Fatalf("%#x: %v encodes as %#x %v", w, x, back, e)
	}
}

// P3.2, P3.4: all opcodes with all that may be fixed above, with fields of several values; and near each op's fixed bits.
func TestDecodeManyWords(t *testing.T) {
	all, ls := rows(t), formats(t)
	masks, values := make([]uint32, len(all)), make([]uint32, len(all))
	for i, r := range all {
		masks[i], values[i] = slowFixed(r)
	}
	check := func(w uint32) { decodesAs(t, all, ls, masks, values, w) }
	const fixable = 0x7f | 7<<12 | 0x7f<<25
	for low := range uint32(1 << 10) {
		for high := range uint32(1 << 7) {
			w := low&0x7f | low>>7<<12 | high<<25
			check(w)
			check(w | ^uint32(fixable))
		}
	}
	r := rand.New(rand.NewPCG(7, 8))
	for i := range all {
		check(values[i])
		check(values[i] | ^masks[i])
		for at := range 32 {
			check(values[i] ^ 1<<at)
		}
		for range 300 {
			check(values[i] | r.Uint32()&^masks[i])
		}
	}
	for _, w := range words() {
		check(w)
	}
}

// P3.4: no word belongs to two ops: of each two, some bit that both fix differs.
func TestOpsAreApart(t *testing.T) {
	for a := api.Lui; a <= api.Sfence; a++ {
		for b := a + 1; b <= api.Sfence; b++ {
			maskA, valueA := Fixed(a)
			maskB, valueB := Fixed(b)
			if (valueA^valueB)&maskA&maskB == 0 {
				t.Fatal(a, b)
			}
		}
	}
}

// checks holds Check and Encode of an instruction against an error.
func checks(t *testing.T, x api.Insn, want api.Errno) {
	t.Helper()
	if e := Check(x); e != want {
		t.Fatalf("Check %+v: got %v, want %v", x, e, want)
	}
	w, e := Encode(x)
	if e != want || want != api.OK && w != 0 {
		t.Fatalf("Encode %+v: got %#x %v, want %v", x, w, e, want)
	}
}

// P3.3
func TestCheckExamples(t *testing.T) {
	checks(t, api.Insn{Op: api.Ecall, Rd: 1}, api.ErrForm)
	checks(t, api.Insn{Op: api.Addi, Imm: 2048}, api.ErrRange)
	checks(t, api.Insn{Op: api.Beq, Imm: 1}, api.ErrRange)
	checks(t, api.Insn{}, api.ErrArg)
	if w, e := Encode(api.Insn{Op: api.Jal, Rd: 1, Imm: -4}); w != 4292866287 || e != api.OK {
		t.Fatal(w, e)
	}
}

// setters set one thing of an instruction each; of aq and rl a number other than 0 is true.
var setters = map[string]func(x *api.Insn, n int){
	"rd":  func(x *api.Insn, n int) { x.Rd = n },
	"rs1": func(x *api.Insn, n int) { x.Rs1 = n },
	"rs2": func(x *api.Insn, n int) { x.Rs2 = n },
	"csr": func(x *api.Insn, n int) { x.Csr = n },
	"imm": func(x *api.Insn, n int) { x.Imm = int64(n) },
	"aq":  func(x *api.Insn, n int) { x.Aq = n != 0 },
	"rl":  func(x *api.Insn, n int) { x.Rl = n != 0 },
}

// P3.3: no such op, whatever else holds.
func TestCheckNoOp(t *testing.T) {
	for _, op := range noOps {
		checks(t, api.Insn{Op: op}, api.ErrArg)
		checks(t, api.Insn{Op: op, Rd: 32, Rs1: -1, Rs2: 99, Imm: math.MaxInt64, Csr: -1, Aq: true, Rl: true}, api.ErrArg)
		for _, set := range setters {
			x := api.Insn{Op: op}
			set(&x, 4096)
			checks(t, x, api.ErrArg)
		}
	}
}

// wrong is, for each thing, numbers just outside of its range and far outside of it.
func wrong(l layout, name string) []int {
	far := []int{-1, 1 << 32, 1<<32 + 1, -1 << 32, math.MinInt, math.MaxInt}
	switch name {
	case "rd", "rs1", "rs2":
		return append(far, 32, 33, 256)
	case "csr":
		return append(far, 4096, 4097)
	case "imm":
		least, greatest, step := ends(l)
		out := []int{int(least - 1), int(least - step), int(greatest + 1), int(greatest + step), 1 << 32, 1 << 40, math.MinInt, math.MaxInt}
		for n := int64(1); n < step; n++ {
			out = append(out, int(n), int(-n), int(least+n), int(greatest-n))
		}
		return out
	}
	return nil
}

// P3.3: something that the format does not have, alone and beside something out of range.
func TestCheckForm(t *testing.T) {
	ls := formats(t)
	for _, r := range rows(t) {
		l := ls[r.format]
		for name, set := range setters {
			if l.fields[name] {
				continue
			}
			for _, n := range []int{1, -1, 2, 31, 32, 4096, 1 << 32, math.MinInt, math.MaxInt} {
				x := api.Insn{Op: r.op}
				set(&x, n)
				checks(t, x, api.ErrForm)
				for other, setOther := range setters {
					if l.fields[other] {
						y := x
						setOther(&y, math.MaxInt)
						checks(t, y, api.ErrForm)
					}
				}
			}
		}
	}
}

// P3.3: something that the format has, out of its range.
func TestCheckRange(t *testing.T) {
	ls := formats(t)
	for _, r := range rows(t) {
		l := ls[r.format]
		for name := range l.fields {
			for _, n := range wrong(l, name) {
				x := api.Insn{Op: r.op}
				setters[name](&x, n)
				checks(t, x, api.ErrRange)
			}
		}
	}
}

// edges is, for each thing, its least and greatest number and some between them.
func edges(l layout, name string) []int {
	switch name {
	case "rd", "rs1", "rs2":
		return []int{0, 1, 15, 16, 31}
	case "csr":
		return []int{0, 1, 0x342, 2048, 4095}
	case "imm":
		least, greatest, step := ends(l)
		return []int{int(least), int(least + step), 0, int(step), int(greatest - step), int(greatest)}
	}
	return []int{0, 1}
}

// P3.3, P3.4: every op with each of its things at its edges, and with all of them together; its word has each thing at its place.
func TestEncodeEdges(t *testing.T) {
	ls := formats(t)
	for _, r := range rows(t) {
		l := ls[r.format]
		mask, value := slowFixed(r)
		both := func(x api.Insn) {
			t.Helper()
			checks(t, x, api.OK)
			w, _ := Encode(x)
			if w&mask != value || slowDecode(r, l, w) != x {
				t.Fatalf("%s: %+v encodes as %#x", r.name, x, w)
			}
			if y, ok := Decode(w); !ok || y != x {
				t.Fatalf("%s: %+v comes back as %+v %v", r.name, x, y, ok)
			}
		}
		both(api.Insn{Op: r.op})
		least, greatest := api.Insn{Op: r.op}, api.Insn{Op: r.op}
		for name, set := range setters {
			if !l.fields[name] {
				continue
			}
			ns := edges(l, name)
			set(&least, ns[0])
			set(&greatest, ns[len(ns)-1])
			for _, n := range ns {
				x := api.Insn{Op: r.op}
				set(&x, n)
				both(x)
			}
		}
		both(least)
		both(greatest)
	}
}

// P3.4: the ways there and back of numbers, at all of a format's numbers that are few.
func TestNumbersComeBack(t *testing.T) {
	for name, l := range formats(t) {
		if !l.fields["imm"] {
			continue
		}
		f := formatNumber(t, name)
		least, greatest, step := ends(l)
		for n := least; n <= greatest; n += step * max(1, (greatest-least)/step/5000) {
			if got := Imm(f, Lay(f, n)); got != n {
				t.Fatal(name, n, got)
			}
		}
	}
}
