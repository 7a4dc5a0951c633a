package alu

import (
	"testing"

	"roebuck/api"
	"roebuck/kind"
)

// P7.1: the chapter's examples, and results written out by hand.
func TestDoExamples(t *testing.T) {
	for _, x := range []struct {
		op         api.Op
		a, b, want uint64
	}{
		{api.Slt, ones, 0, 1},
		{api.Sraiw, 1 << 31, 4, ones << 27},
		{api.Add, ones, 1, 0},
		{api.Addi, 5, ones, 4},
		{api.Sub, 0, 1, ones},
		{api.Slti, 0, ones, 0},
		{api.Sltiu, 0, ones, 1},
		{api.Xori, 6, ones, ones - 6},
		{api.Ori, 6, 1, 7},
		{api.Andi, 6, ones << 2, 4},
		{api.Addiw, 1<<31 - 1, 1, ones << 31},
		{api.Addw, 1<<32 - 1, 1, 0},
		{api.Subw, ones << 31, 1, 1<<31 - 1},
		{api.Mul, 1 << 63, 2, 0},
		{api.Mulh, ones, ones, 0},
		{api.Mulhsu, ones, ones, ones},
		{api.Mulhu, ones, ones, ones - 1},
		{api.Mulw, 1 << 16, 1 << 15, ones << 31},
	} {
		if got := do(t, x.op, x.a, x.b); got != x.want {
			t.Errorf("Do(%s, %d, %d): got %d, want %d", kind.Name(x.op), x.a, x.b, got, x.want)
		}
	}
}

// P7.1: how far shifts go: 6 bits of the number count, and 5 bits of it for 32 bits.
func TestDoShifts(t *testing.T) {
	for _, x := range []struct {
		op         api.Op
		a, b, want uint64
	}{
		{api.Sll, 1, 31, 1 << 31}, {api.Sll, 1, 32, 1 << 32}, {api.Sll, 1, 63, 1 << 63}, {api.Sll, 1, 64, 1}, {api.Sll, 1, 65, 2},
		{api.Slli, 1, ones, 1 << 63}, {api.Slli, 3, 63, 1 << 63}, {api.Slli, 3, 64, 3},
		{api.Srl, top, 31, 1 << 32}, {api.Srl, top, 32, 1 << 31}, {api.Srl, top, 63, 1}, {api.Srl, top, 64, top}, {api.Srl, top, 1<<40 + 63, 1},
		{api.Srli, ones, 63, 1}, {api.Srli, ones, 64, ones},
		{api.Sra, top, 31, ones << 32}, {api.Sra, top, 63, ones}, {api.Sra, top, 64, top}, {api.Sra, top - 1, 62, 1}, {api.Sra, top, 127, ones},
		{api.Srai, top, 62, ones - 1},
		{api.Sllw, 1, 31, ones << 31}, {api.Sllw, 1, 32, 1}, {api.Sllw, 1, 63, ones << 31}, {api.Sllw, 1, 64, 1}, {api.Sllw, 3, 31, ones << 31},
		{api.Slliw, 1 << 32, 0, 0}, {api.Slliw, 1, 33, 2},
		{api.Srlw, 1 << 31, 31, 1}, {api.Srlw, 1 << 31, 32, ones << 31}, {api.Srlw, 1 << 31, 63, 1}, {api.Srlw, ones, 1, 1<<31 - 1}, {api.Srlw, 1 << 32, 1, 0},
		{api.Srliw, ones << 31, 4, 1 << 27},
		{api.Sraw, 1 << 31, 31, ones}, {api.Sraw, 1 << 31, 32, ones << 31}, {api.Sraw, 1 << 31, 63, ones}, {api.Sraw, 1 << 31, 64, ones << 31}, {api.Sraw, top, 4, 0},
		{api.Sraiw, 1<<31 - 1, 30, 1},
	} {
		if got := do(t, x.op, x.a, x.b); got != x.want {
			t.Errorf("Do(%s, %d, %d): got %d, want %d", kind.Name(x.op), x.a, x.b, got, x.want)
		}
	}
}

// P7.1: quotients and what they leave, by 0 and of the least number by -1.
func TestDoQuotients(t *testing.T) {
	least := ones << 31
	for _, x := range []struct {
		op         api.Op
		a, b, want uint64
	}{
		{api.Div, 7, 0, ones}, {api.Div, 0, 0, ones}, {api.Div, top, 0, ones}, {api.Div, top, ones, top}, {api.Div, ones - 6, 2, ones - 2},
		{api.Divu, 7, 0, ones}, {api.Divu, top, ones, 0}, {api.Divu, ones, 2, top - 1},
		{api.Rem, 7, 0, 7}, {api.Rem, top, 0, top}, {api.Rem, top, ones, 0}, {api.Rem, ones - 6, 2, ones}, {api.Rem, 7, ones - 1, 1},
		{api.Remu, 7, 0, 7}, {api.Remu, top, ones, top}, {api.Remu, ones, 2, 1},
		{api.Divw, 7, 0, ones}, {api.Divw, 7, 1 << 32, ones}, {api.Divw, 1 << 31, ones, least}, {api.Divw, 1 << 31, 1<<32 - 1, least}, {api.Divw, 1<<32 - 7, 2, ones - 2},
		{api.Divuw, 7, 0, ones}, {api.Divuw, 7, 1 << 32, ones}, {api.Divuw, 1 << 31, ones, 0}, {api.Divuw, ones, 1, ones}, {api.Divuw, 1<<32 - 1, 2, 1<<31 - 1},
		{api.Remw, 7, 0, 7}, {api.Remw, 1 << 31, 0, least}, {api.Remw, 1 << 31, ones, 0}, {api.Remw, 1<<32 - 7, 2, ones}, {api.Remw, 1<<40 | 9, 1 << 32, 9},
		{api.Remuw, 7, 0, 7}, {api.Remuw, 1 << 31, 0, least}, {api.Remuw, 1 << 31, ones, least}, {api.Remuw, ones, 2, 1},
	} {
		if got := do(t, x.op, x.a, x.b); got != x.want {
			t.Errorf("Do(%s, %d, %d): got %d, want %d", kind.Name(x.op), x.a, x.b, got, x.want)
		}
	}
}

// P7.1: every op of the chapter's table against whole numbers of any size; an op with a number is the op without it.
func TestDoChapter(t *testing.T) {
	for _, r := range chapter() {
		if kind.Name(r.op) != r.name {
			t.Fatalf("row %s has the op %s", r.name, kind.Name(r.op))
		}
		for _, a := range words() {
			for _, b := range words() {
				want := r.want(a, b)
				if got := do(t, r.op, a, b); got != want {
					t.Fatalf("Do(%s, %d, %d): got %d, want %d", r.name, a, b, got, want)
				}
				if r.with == api.NoOp {
					continue
				}
				if got := do(t, r.with, a, b); got != want {
					t.Fatalf("Do(%s, %d, %d): got %d, want %d", kind.Name(r.with), a, b, got, want)
				}
			}
		}
	}
}

// P7.1: an op with a number has the name of the op without it and an i, and stands in the test's table.
func TestDoNames(t *testing.T) {
	with := map[api.Op]api.Op{}
	for _, r := range chapter() {
		with[r.with] = r.op
	}
	for name, plain := range map[string]string{
		"addi": "add", "slti": "slt", "sltiu": "sltu", "xori": "xor", "ori": "or", "andi": "and", "slli": "sll", "srli": "srl", "srai": "sra",
		"addiw": "addw", "slliw": "sllw", "srliw": "srlw", "sraiw": "sraw",
	} {
		op, ok := kind.Find(name)
		if !ok || kind.Name(with[op]) != plain {
			t.Errorf("%s goes with %s, want %s", name, kind.Name(with[op]), plain)
		}
	}
}

// P7.1: an op has a result if and only if its class is Alu; what is no op has none.
func TestDoClass(t *testing.T) {
	listed := ops()
	for op := range kind.All() {
		is := kind.Class(op) == kind.Alu
		if is != listed[op] {
			t.Fatalf("the test's table and the class of %s differ", kind.Name(op))
		}
		for _, a := range edges() {
			w, ok := Do(op, a, 3)
			if ok != is || !ok && w != 0 {
				t.Fatalf("Do(%s, %d, 3): %d %v", kind.Name(op), a, w, ok)
			}
		}
	}
	for _, op := range noOps() {
		if w, ok := Do(op, 5, 3); w != 0 || ok {
			t.Fatalf("Do of number %d: %d %v", op, w, ok)
		}
	}
}

// P7.2: each branch at equal words, and at words that are less only with signs and only without.
func TestTaken(t *testing.T) {
	pairs := []struct{ a, b uint64 }{{0, 0}, {ones, ones}, {1, 2}, {2, 1}, {ones, 0}, {0, ones}, {top, top - 1}, {top - 1, top}, {top, 0}, {0, top}, {ones - 1, ones}, {1 << 32, 1}}
	// One letter a pair: t if the branch is taken.
	for op, want := range map[api.Op]string{
		api.Beq:  "tt----------",
		api.Bne:  "--tttttttttt",
		api.Blt:  "--t-t-t-t-t-",
		api.Bge:  "tt-t-t-t-t-t",
		api.Bltu: "--t--t-t-tt-",
		api.Bgeu: "tt-tt-t-t--t",
	} {
		for i, p := range pairs {
			is, ok := Taken(op, p.a, p.b)
			if !ok || is != (want[i] == 't') {
				t.Errorf("Taken(%s, %d, %d): %v %v", kind.Name(op), p.a, p.b, is, ok)
			}
		}
	}
	if is, ok := Taken(api.Bge, 0, ones); !is || !ok {
		t.Error("the chapter's example: bge with 0 and 2^64 - 1")
	}
}

// P7.2: branches by whole numbers, at all edges.
func TestTakenChapter(t *testing.T) {
	for _, a := range words() {
		for _, b := range words() {
			s, u := signed(a, 64).Cmp(signed(b, 64)), plain(a).Cmp(plain(b))
			for op, want := range map[api.Op]bool{api.Beq: u == 0, api.Bne: u != 0, api.Blt: s < 0, api.Bge: s >= 0, api.Bltu: u < 0, api.Bgeu: u >= 0} {
				if is, ok := Taken(op, a, b); is != want || !ok {
					t.Fatalf("Taken(%s, %d, %d): %v %v", kind.Name(op), a, b, is, ok)
				}
			}
		}
	}
}

// P7.2: only branches are taken.
func TestTakenOthers(t *testing.T) {
	others := noOps()
	for op := range kind.All() {
		if kind.Class(op) != kind.Branch {
			others = append(others, op)
		}
	}
	for _, op := range others {
		for _, a := range []uint64{0, 1, top, ones} {
			for _, b := range []uint64{0, 1, top, ones} {
				if is, ok := Taken(op, a, b); is || ok {
					t.Fatalf("Taken of op %d: %v %v", op, is, ok)
				}
			}
		}
	}
}

// P7.2: lui has its number alone, auipc adds the pc, and sums wrap around.
func TestUp(t *testing.T) {
	for _, x := range []struct {
		op   api.Op
		pc   uint64
		imm  int64
		want uint64
	}{
		{api.Auipc, 8, -4, 4},
		{api.Auipc, 0, -4096, ones - 4095},
		{api.Auipc, ones, 1, 0},
		{api.Auipc, 4, -8, ones - 3},
		{api.Auipc, 0x80000000, 1<<31 - 4096, 0xfffff000},
		{api.Lui, 8, -4, ones - 3},
		{api.Lui, ones, 4096, 4096},
		{api.Lui, 1, -1 << 31, ones << 31},
	} {
		if got, ok := Up(x.op, x.pc, x.imm); got != x.want || !ok {
			t.Errorf("Up(%s, %d, %d): got %d %v, want %d", kind.Name(x.op), x.pc, x.imm, got, ok, x.want)
		}
	}
	for _, pc := range edges() {
		for _, imm := range numbers() {
			if got, ok := Up(api.Lui, pc, imm); got != word(whole(imm)) || !ok {
				t.Fatalf("lui %d %d: %d %v", pc, imm, got, ok)
			}
			if got, ok := Up(api.Auipc, pc, imm); got != sum(pc, imm) || !ok {
				t.Fatalf("auipc %d %d: %d %v", pc, imm, got, ok)
			}
		}
	}
}

// P7.2: ops other than lui and auipc, and what is no op.
func TestUpOthers(t *testing.T) {
	others := noOps()
	for op := range kind.All() {
		if kind.Class(op) != kind.Up {
			others = append(others, op)
		}
	}
	for _, op := range others {
		if got, ok := Up(op, 8, 12); got != 0 || ok {
			t.Errorf("Up of op %d: %d %v", op, got, ok)
		}
	}
}

// P7.2: where jumps and branches lead; sums wrap around, and jalr alone clears bit 0 and takes the base.
func TestTarget(t *testing.T) {
	for _, x := range []struct {
		op       api.Op
		pc, base uint64
		imm      int64
		want     uint64
	}{
		{api.Jalr, 0, 7, -2, 4},
		{api.Jalr, 0, 7, -3, 4},
		{api.Jalr, 99, 8, 0, 8},
		{api.Jalr, 99, ones, 0, ones - 1},
		{api.Jalr, 99, ones, 1, 0},
		{api.Jalr, 99, ones, 2, 0},
		{api.Jalr, 99, 0, -1, ones - 1},
		{api.Jal, 8, 99, -4, 4},
		{api.Jal, 4, 99, -8, ones - 3},
		{api.Jal, ones - 3, 99, 8, 4},
		{api.Jal, 8, 99, 3, 11},
		{api.Beq, 8, 99, -4, 4},
		{api.Bgeu, ones, 99, 2, 1},
	} {
		if got, ok := Target(x.op, x.pc, x.base, x.imm); got != x.want || !ok {
			t.Errorf("Target(%s, %d, %d, %d): got %d %v, want %d", kind.Name(x.op), x.pc, x.base, x.imm, got, ok, x.want)
		}
	}
	for _, a := range edges() {
		for _, imm := range numbers() {
			for _, op := range []api.Op{api.Jal, api.Beq, api.Bne, api.Blt, api.Bge, api.Bltu, api.Bgeu} {
				if got, ok := Target(op, a, ^a, imm); got != sum(a, imm) || !ok {
					t.Fatalf("%s %d %d: %d %v", kind.Name(op), a, imm, got, ok)
				}
			}
			want := sum(a, imm)
			want -= want % 2
			if got, ok := Target(api.Jalr, ^a, a, imm); got != want || !ok {
				t.Fatalf("jalr %d %d: %d %v", a, imm, got, ok)
			}
		}
	}
}

// P7.2: ops that lead nowhere, and what is no op.
func TestTargetOthers(t *testing.T) {
	others := noOps()
	for op := range kind.All() {
		if c := kind.Class(op); c != kind.Jump && c != kind.Branch {
			others = append(others, op)
		}
	}
	for _, op := range others {
		if got, ok := Target(op, 8, 16, 12); got != 0 || ok {
			t.Errorf("Target of op %d: %d %v", op, got, ok)
		}
	}
}

// P7.3: sub inverts add, and add sub.
func TestSubInvertsAdd(t *testing.T) {
	for _, a := range words() {
		for _, b := range words() {
			if do(t, api.Sub, do(t, api.Add, a, b), b) != a || do(t, api.Addi, do(t, api.Sub, a, b), b) != a {
				t.Fatal(a, b)
			}
		}
	}
}

// P7.3: a branch that compares is taken if and only if slt or sltu gives 1.
func TestBranchesAreComparisons(t *testing.T) {
	for _, a := range words() {
		for _, b := range words() {
			for _, x := range []struct{ less, not, op, with api.Op }{{api.Blt, api.Bge, api.Slt, api.Slti}, {api.Bltu, api.Bgeu, api.Sltu, api.Sltiu}} {
				w := do(t, x.op, a, b)
				less, _ := Taken(x.less, a, b)
				not, _ := Taken(x.not, a, b)
				if w > 1 || w != do(t, x.with, a, b) || less != (w == 1) || not == less {
					t.Fatal(x, a, b, w, less, not)
				}
			}
		}
	}
}

// P7.3: an op of 32 bits hangs on the lowest 32 bits of its operands alone, and its result is one with its sign.
func TestShortOps(t *testing.T) {
	shorts := []api.Op{
		api.Addiw, api.Slliw, api.Srliw, api.Sraiw, api.Addw, api.Subw, api.Sllw, api.Srlw, api.Sraw,
		api.Mulw, api.Divw, api.Divuw, api.Remw, api.Remuw,
	}
	dirt := []uint64{0, ones << 32, 1 << 32, 1 << 63, 0x5a5a5a5a << 32}
	for _, op := range shorts {
		for _, a := range words() {
			for _, b := range words() {
				w := do(t, op, a, b)
				if uint64(int64(int32(w))) != w {
					t.Fatalf("Do(%s, %d, %d): %d is not one of 32 bits with its sign", kind.Name(op), a, b, w)
				}
				for _, d := range dirt {
					if do(t, op, a^d, b) != w || do(t, op, a, b^d) != w || do(t, op, a^d, b^d) != w {
						t.Fatalf("Do(%s, %d, %d): bits above the lowest 32 count", kind.Name(op), a, b)
					}
				}
			}
		}
	}
}
