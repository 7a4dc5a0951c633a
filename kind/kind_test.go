package kind

import (
	"math"
	"strings"
	"testing"

	"roebuck/api"
)

// chapter is the chapters' tables: each op's name, class, size, and whether it is signed (s) and writes a register (w).
const chapter = `
lui Up 0 w
auipc Up 0 w
jal Jump 0 w
jalr Jump 0 w
beq Branch 0 -
bne Branch 0 -
blt Branch 0 -
bge Branch 0 -
bltu Branch 0 -
bgeu Branch 0 -
lb Load 1 sw
lh Load 2 sw
lw Load 4 sw
ld Load 8 sw
lbu Load 1 w
lhu Load 2 w
lwu Load 4 w
sb Store 1 -
sh Store 2 -
sw Store 4 -
sd Store 8 -
addi Alu 0 w
slti Alu 0 w
sltiu Alu 0 w
xori Alu 0 w
ori Alu 0 w
andi Alu 0 w
slli Alu 0 w
srli Alu 0 w
srai Alu 0 w
add Alu 0 w
sub Alu 0 w
sll Alu 0 w
slt Alu 0 w
sltu Alu 0 w
xor Alu 0 w
srl Alu 0 w
sra Alu 0 w
or Alu 0 w
and Alu 0 w
addiw Alu 0 w
slliw Alu 0 w
srliw Alu 0 w
sraiw Alu 0 w
addw Alu 0 w
subw Alu 0 w
sllw Alu 0 w
srlw Alu 0 w
sraw Alu 0 w
fence Fence 0 -
fence.i Fence 0 -
ecall System 0 -
ebreak System 0 -
mul Alu 0 w
mulh Alu 0 w
mulhsu Alu 0 w
mulhu Alu 0 w
div Alu 0 w
divu Alu 0 w
rem Alu 0 w
remu Alu 0 w
mulw Alu 0 w
divw Alu 0 w
divuw Alu 0 w
remw Alu 0 w
remuw Alu 0 w
lr.w Atomic 4 sw
sc.w Atomic 4 sw
amoswap.w Atomic 4 sw
amoadd.w Atomic 4 sw
amoxor.w Atomic 4 sw
amoand.w Atomic 4 sw
amoor.w Atomic 4 sw
amomin.w Atomic 4 sw
amomax.w Atomic 4 sw
amominu.w Atomic 4 sw
amomaxu.w Atomic 4 sw
lr.d Atomic 8 sw
sc.d Atomic 8 sw
amoswap.d Atomic 8 sw
amoadd.d Atomic 8 sw
amoxor.d Atomic 8 sw
amoand.d Atomic 8 sw
amoor.d Atomic 8 sw
amomin.d Atomic 8 sw
amomax.d Atomic 8 sw
amominu.d Atomic 8 sw
amomaxu.d Atomic 8 sw
csrrw Csr 0 w
csrrs Csr 0 w
csrrc Csr 0 w
csrrwi Csr 0 w
csrrsi Csr 0 w
csrrci Csr 0 w
mret System 0 -
sret System 0 -
wfi System 0 -
sfence.vma System 0 -
`

// classes is the classes' names in the order of their numbers.
const classes = "None Alu Up Jump Branch Load Store Atomic Csr Fence System"

// noOps are numbers that no op has.
var noOps = []api.Op{0, -1, -2, api.AllOps + 1, api.AllOps + 2, 127, 128, 255, 256, 256 + api.Lb, 1 << 32, 1<<32 + api.Lb, math.MinInt, math.MaxInt}

// rows is the chapter's table, in the order of the ops.
func rows(t *testing.T) [][]string {
	t.Helper()
	var out [][]string
	for _, line := range strings.Split(strings.TrimSpace(chapter), "\n") {
		out = append(out, strings.Fields(line))
	}
	if len(out) != api.AllOps {
		t.Fatal("ops:", len(out))
	}
	return out
}

// P4.1
func TestName(t *testing.T) {
	if Name(api.AmoaddW) != "amoadd.w" {
		t.Fatal("example")
	}
	for i, r := range rows(t) {
		if got := Name(api.Op(i + 1)); got != r[0] {
			t.Fatalf("%d: got %q, want %q", i+1, got, r[0])
		}
	}
	for _, op := range noOps {
		if got := Name(op); got != "" {
			t.Fatalf("%d: %q", op, got)
		}
	}
}

// P4.1, P4.3
func TestFind(t *testing.T) {
	if op, ok := Find("fence.i"); op != api.FenceI || !ok {
		t.Fatal("example", op, ok)
	}
	for i, r := range rows(t) {
		if op, ok := Find(r[0]); int(op) != i+1 || !ok {
			t.Fatal(r[0], op, ok)
		}
	}
}

// isName tells whether the chapter has a name.
func isName(all [][]string, name string) bool {
	for _, r := range all {
		if r[0] == name {
			return true
		}
	}
	return false
}

// P4.1, P4.3: names that are no op's, made of each name that is one.
func TestFindNothing(t *testing.T) {
	nothing := func(name string) {
		t.Helper()
		if op, ok := Find(name); ok || op != api.NoOp {
			t.Fatalf("%q: %d %v", name, op, ok)
		}
	}
	for _, name := range []string{"", " ", "  ", ".", "\x00", "\xff", "\xff\xfe", "é", "Add", "noop", "None", "sfence", "sfence vma", "fencei", "fence i", "lui auipc", "lr", "amoadd", "amoadd.", ".w", "nop", "ret", "0", "1", strings.Repeat("add", 1<<16)} {
		nothing(name)
	}
	all := rows(t)
	for i, r := range all {
		name := r[0]
		nothing(strings.ToUpper(name))
		nothing(strings.ToUpper(name[:1]) + name[1:])
		for _, more := range []string{" ", ".", "\n", "\t", "\x00", "\xff", "q"} {
			nothing(name + more)
			nothing(more + name)
			nothing(name[:1] + more + name[1:])
		}
		nothing(name + " " + all[(i+1)%len(all)][0])
		nothing(name + name)
		for cut := range len(name) {
			if part := name[:cut]; !isName(all, part) {
				nothing(part)
			}
			if part := name[cut:]; !isName(all, part) {
				nothing(part)
			}
		}
	}
}

// P4.1
func TestAll(t *testing.T) {
	all := rows(t)
	seq := All()
	for range 3 {
		n := 0
		for op, name := range seq {
			if n >= len(all) || int(op) != n+1 || name != all[n][0] {
				t.Fatal(n, op, name)
			}
			n++
		}
		if n != api.AllOps {
			t.Fatal("ops:", n)
		}
	}
}

// P7: an iteration that is stopped yields nothing more, and the next one starts from the beginning.
func TestAllStopped(t *testing.T) {
	all := rows(t)
	seq := All()
	for stop := 1; stop <= api.AllOps; stop++ {
		n := 0
		// A direct call also sees a yield after the stop, of which a range would panic.
		seq(func(op api.Op, name string) bool {
			n++
			if n > stop || int(op) != n || name != all[n-1][0] {
				t.Fatal(stop, n, op, name)
			}
			return n < stop
		})
		if n != stop {
			t.Fatal(stop, n)
		}
	}
	for op := range seq {
		if op == api.Add {
			break
		}
	}
	for op, name := range seq {
		if op != api.Lui || name != "lui" {
			t.Fatal(op, name)
		}
		break
	}
}

// P7: two iterations, one within the other.
func TestAllNested(t *testing.T) {
	seq, n := All(), 0
	for a := range seq {
		for b := range seq {
			if b > a {
				break
			}
			n++
		}
	}
	if n != api.AllOps*(api.AllOps+1)/2 {
		t.Fatal(n)
	}
}

// P4.2, P4.3: the classes' numbers, and the class of each op.
func TestClass(t *testing.T) {
	names := strings.Fields(classes)
	for i, class := range []int{None, Alu, Up, Jump, Branch, Load, Store, Atomic, Csr, Fence, System} {
		if class != i {
			t.Fatal(names[i], class)
		}
	}
	if Class(api.Lwu) != 5 {
		t.Fatal("example")
	}
	for i, r := range rows(t) {
		class := Class(api.Op(i + 1))
		if class < 1 || class >= len(names) || names[class] != r[1] {
			t.Fatal(r[0], class, r[1])
		}
	}
}

// P4.2
func TestSize(t *testing.T) {
	if Size(api.Lwu) != 4 {
		t.Fatal("example")
	}
	for i, r := range rows(t) {
		if size := Size(api.Op(i + 1)); size != int(r[2][0]-'0') {
			t.Fatal(r[0], size, r[2])
		}
	}
}

// P4.2
func TestSignedAndWrites(t *testing.T) {
	if Signed(api.Lwu) || Writes(api.Sd) {
		t.Fatal("examples")
	}
	for i, r := range rows(t) {
		op := api.Op(i + 1)
		if Signed(op) != strings.Contains(r[3], "s") || Writes(op) != strings.Contains(r[3], "w") {
			t.Fatal(r[0], Signed(op), Writes(op))
		}
	}
}

// P4.2: numbers that no op has.
func TestNoOps(t *testing.T) {
	for _, op := range noOps {
		if Class(op) != None || Size(op) != 0 || Signed(op) || Writes(op) {
			t.Fatal(op, Class(op), Size(op), Signed(op), Writes(op))
		}
	}
}
