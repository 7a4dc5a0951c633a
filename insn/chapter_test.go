package insn

import (
	"strconv"
	"strings"
	"testing"

	"roebuck/api"
)

// chapter is the chapter's table of ops: name, format, opcode, funct3, and what stands above (for Bare the whole word).
const chapter = `
lui U 55 - -
auipc U 23 - -
jal J 111 - -
jalr I 103 0 -
beq B 99 0 -
bne B 99 1 -
blt B 99 4 -
bge B 99 5 -
bltu B 99 6 -
bgeu B 99 7 -
lb I 3 0 -
lh I 3 1 -
lw I 3 2 -
ld I 3 3 -
lbu I 3 4 -
lhu I 3 5 -
lwu I 3 6 -
sb S 35 0 -
sh S 35 1 -
sw S 35 2 -
sd S 35 3 -
addi I 19 0 -
slti I 19 2 -
sltiu I 19 3 -
xori I 19 4 -
ori I 19 6 -
andi I 19 7 -
slli Shift 19 1 0
srli Shift 19 5 0
srai Shift 19 5 32
add R 51 0 0
sub R 51 0 32
sll R 51 1 0
slt R 51 2 0
sltu R 51 3 0
xor R 51 4 0
srl R 51 5 0
sra R 51 5 32
or R 51 6 0
and R 51 7 0
addiw I 27 0 -
slliw ShiftW 27 1 0
srliw ShiftW 27 5 0
sraiw ShiftW 27 5 32
addw R 59 0 0
subw R 59 0 32
sllw R 59 1 0
srlw R 59 5 0
sraw R 59 5 32
fence I 15 0 -
fence.i I 15 1 -
ecall Bare 115 - 115
ebreak Bare 115 - 1048691
mul R 51 0 1
mulh R 51 1 1
mulhsu R 51 2 1
mulhu R 51 3 1
div R 51 4 1
divu R 51 5 1
rem R 51 6 1
remu R 51 7 1
mulw R 59 0 1
divw R 59 4 1
divuw R 59 5 1
remw R 59 6 1
remuw R 59 7 1
lr.w Lr 47 2 8
sc.w A 47 2 12
amoswap.w A 47 2 4
amoadd.w A 47 2 0
amoxor.w A 47 2 16
amoand.w A 47 2 48
amoor.w A 47 2 32
amomin.w A 47 2 64
amomax.w A 47 2 80
amominu.w A 47 2 96
amomaxu.w A 47 2 112
lr.d Lr 47 3 8
sc.d A 47 3 12
amoswap.d A 47 3 4
amoadd.d A 47 3 0
amoxor.d A 47 3 16
amoand.d A 47 3 48
amoor.d A 47 3 32
amomin.d A 47 3 64
amomax.d A 47 3 80
amominu.d A 47 3 96
amomaxu.d A 47 3 112
csrrw Csr 115 1 -
csrrs Csr 115 2 -
csrrc Csr 115 3 -
csrrwi CsrI 115 5 -
csrrsi CsrI 115 6 -
csrrci CsrI 115 7 -
mret Bare 115 - 807403635
sret Bare 115 - 270532723
wfi Bare 115 - 273678451
sfence.vma Sfence 115 0 9
`

// layouts is the chapter's table of formats: the fields, then the number's bits from its highest one on, z for a 0, and whether it has a sign.
const layouts = `
R rd,rs1,rs2
I rd,rs1 31-20 signed
S rs1,rs2 31-25,11-7 signed
B rs1,rs2 31,7,30-25,11-8,z signed
U rd 31-12,z,z,z,z,z,z,z,z,z,z,z,z signed
J rd 31,19-12,20,30-21,z signed
Shift rd,rs1 25-20 plain
ShiftW rd,rs1 24-20 plain
Csr rd,rs1,csr
CsrI rd,rs1,csr
A rd,rs1,rs2,aq,rl
Lr rd,rs1,aq,rl
Bare -
Sfence rs1,rs2
`

// order is the formats' names in the order of their numbers.
const order = "None R I S B U J Shift ShiftW Csr CsrI A Lr Bare Sfence"

// row is an op as the chapter's table has it; what it leaves empty is -1.
type row struct {
	op                    api.Op
	name, format          string
	opcode, funct3, above int
}

// layout is a format as the chapter's table has it; places is the word's bit of each of the number's bits from the highest one on, -1 for a 0.
type layout struct {
	fields map[string]bool
	places []int
	signed bool
}

func number(t *testing.T, text string) int {
	t.Helper()
	if text == "-" {
		return -1
	}
	n, err := strconv.Atoi(text)
	if err != nil {
		t.Fatal(err)
	}
	return n
}

func rows(t *testing.T) []row {
	t.Helper()
	var out []row
	for i, line := range strings.Split(strings.TrimSpace(chapter), "\n") {
		c := strings.Fields(line)
		out = append(out, row{api.Op(i + 1), c[0], c[1], number(t, c[2]), number(t, c[3]), number(t, c[4])})
	}
	if len(out) != api.AllOps {
		t.Fatal("ops:", len(out))
	}
	return out
}

func places(t *testing.T, text string) []int {
	t.Helper()
	var out []int
	for _, piece := range strings.Split(text, ",") {
		if piece == "z" {
			out = append(out, -1)
			continue
		}
		first, last, isRange := strings.Cut(piece, "-")
		if !isRange {
			last = first
		}
		for i := number(t, first); i >= number(t, last); i-- {
			out = append(out, i)
		}
	}
	return out
}

func formats(t *testing.T) map[string]layout {
	t.Helper()
	out := map[string]layout{}
	for _, line := range strings.Split(strings.TrimSpace(layouts), "\n") {
		c := strings.Fields(line)
		l := layout{fields: map[string]bool{}}
		for _, f := range strings.Split(c[1], ",") {
			l.fields[f] = true
		}
		if len(c) > 2 {
			l.fields["imm"] = true
			l.places, l.signed = places(t, c[2]), c[3] == "signed"
		}
		out[c[0]] = l
	}
	return out
}

// formatNumber is a format's number, by its place among the formats' names.
func formatNumber(t *testing.T, name string) Format {
	t.Helper()
	for i, other := range strings.Fields(order) {
		if other == name {
			return Format(i)
		}
	}
	t.Fatal("no format", name)
	return None
}

// slowImm is a word's number, bit by bit.
func slowImm(l layout, w uint32) int64 {
	var n int64
	for i, at := range l.places {
		bit := int64(0)
		if at >= 0 {
			bit = int64(w >> at & 1)
		}
		if i == 0 && l.signed {
			// The highest bit of a number with a sign counts below 0.
			bit = -bit
		}
		n = 2*n + bit
	}
	return n
}

// slowLay is a number's word, bit by bit.
func slowLay(l layout, imm int64) uint32 {
	var w uint32
	for i, at := range l.places {
		if at >= 0 {
			w |= uint32(imm>>(len(l.places)-1-i)&1) << at
		}
	}
	return w
}

// ends is the least and the greatest number of a format, and how far two neighbours are apart.
func ends(l layout) (least, greatest, step int64) {
	step = 1
	for _, at := range l.places {
		if at < 0 {
			step *= 2
		}
	}
	size := len(l.places)
	if l.signed {
		return -1 << (size - 1), 1<<(size-1) - step, step
	}
	return 0, 1<<size - step, step
}

// slowFixed is the fixed bits of an op, by the chapter's words.
func slowFixed(r row) (mask, value uint32) {
	fix := func(at, size, n int) {
		ones := uint32(1)<<size - 1
		mask |= ones << at
		value |= uint32(n) & ones << at
	}
	if r.format == "Bare" {
		return 1<<32 - 1, uint32(r.above)
	}
	fix(0, 7, r.opcode)
	if r.format != "U" && r.format != "J" {
		fix(12, 3, r.funct3)
	}
	switch r.format {
	case "R", "ShiftW", "Sfence":
		fix(25, 7, r.above)
	case "Shift":
		fix(26, 6, r.above>>1)
	case "A", "Lr":
		fix(27, 5, r.above>>2)
	}
	if r.format == "Lr" {
		fix(20, 5, 0)
	}
	if r.format == "Sfence" {
		fix(7, 5, 0)
	}
	return mask, value
}

// slowDecode is the instruction of a word that has an op's fixed bits.
func slowDecode(r row, l layout, w uint32) api.Insn {
	field := func(name string, at, size int) int {
		if !l.fields[name] {
			return 0
		}
		return int(w >> at & (1<<size - 1))
	}
	return api.Insn{
		Op:  r.op,
		Rd:  field("rd", 7, 5),
		Rs1: field("rs1", 15, 5),
		Rs2: field("rs2", 20, 5),
		Imm: slowImm(l, w),
		Csr: field("csr", 20, 12),
		Aq:  field("aq", 26, 1) == 1,
		Rl:  field("rl", 25, 1) == 1,
	}
}
