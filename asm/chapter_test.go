package asm

import (
	"strconv"
	"strings"
	"testing"

	"roebuck/api"
	"roebuck/insn"
	"roebuck/kind"
)

// layouts is the chapter's table of operands, with the least and the greatest number of each format, and how far two neighbours are apart.
const layouts = `
R rd rs1 rs2
I rd rs1 imm -2048 2047 1
Shift rd rs1 imm 0 63 1
ShiftW rd rs1 imm 0 31 1
S rs2 rs1 imm -2048 2047 1
B rs1 rs2 imm -4096 4094 2
U rd imm/4096 -2147483648 2147479552 4096
J rd imm -1048576 1048574 2
Csr rd csr rs1
CsrI rd csr number
A rd rs2 rs1
Lr rd rs1
Bare
Sfence rs1 rs2
`

// formatNames is the formats' names in the order of their numbers.
const formatNames = "None R I S B U J Shift ShiftW Csr CsrI A Lr Bare Sfence"

// registerNames is the registers' names in the order of their numbers.
const registerNames = "zero ra sp gp tp t0 t1 t2 s0 s1 a0 a1 a2 a3 a4 a5 a6 a7 s2 s3 s4 s5 s6 s7 s8 s9 s10 s11 t3 t4 t5 t6"

// layout is a format as the chapter's table has it.
type layout struct {
	operands              []string
	least, greatest, step int64
}

func number(t *testing.T, text string) int64 {
	t.Helper()
	n, err := strconv.ParseInt(text, 10, 64)
	if err != nil {
		t.Fatal(err)
	}
	return n
}

// layoutOf is the layout of an op's format.
func layoutOf(t *testing.T, op api.Op) layout {
	t.Helper()
	name := strings.Fields(formatNames)[insn.FormatOf(op)]
	for _, row := range strings.Split(strings.TrimSpace(layouts), "\n") {
		c := strings.Fields(row)
		if c[0] != name {
			continue
		}
		if !strings.Contains(row, " imm") {
			return layout{operands: c[1:]}
		}
		end := len(c) - 3
		return layout{c[1:end], number(t, c[end]), number(t, c[end+1]), number(t, c[end+2])}
	}
	t.Fatal("no layout", op, name)
	return layout{}
}

// atomic tells whether a suffix may follow the name.
func atomic(op api.Op) bool {
	f := insn.FormatOf(op)
	return f == insn.A || f == insn.Lr
}

// suffix is the chapter's suffix of an instruction.
func suffix(x api.Insn) string {
	switch {
	case x.Aq && x.Rl:
		return ".aqrl"
	case x.Aq:
		return ".aq"
	case x.Rl:
		return ".rl"
	}
	return ""
}

// slowOperand is a word of an instruction's line.
func slowOperand(t *testing.T, what string, x api.Insn) string {
	t.Helper()
	names := strings.Fields(registerNames)
	switch what {
	case "rd":
		return names[x.Rd]
	case "rs1":
		return names[x.Rs1]
	case "rs2":
		return names[x.Rs2]
	case "number":
		return strconv.Itoa(x.Rs1)
	case "csr":
		return strconv.Itoa(x.Csr)
	case "imm":
		return strconv.FormatInt(x.Imm, 10)
	case "imm/4096":
		return strconv.FormatInt(x.Imm/4096, 10)
	}
	t.Fatal("no operand", what)
	return ""
}

// slowText is an instruction's line, by the chapter's table.
func slowText(t *testing.T, x api.Insn) string {
	t.Helper()
	words := []string{kind.Name(x.Op) + suffix(x)}
	for _, what := range layoutOf(t, x.Op).operands {
		words = append(words, slowOperand(t, what, x))
	}
	return strings.Join(words, " ")
}

// build is an instruction of an op, with those of some values that its format has.
func build(l layout, x api.Insn) api.Insn {
	out := api.Insn{Op: x.Op}
	for _, what := range l.operands {
		switch what {
		case "rd":
			out.Rd = x.Rd
		case "rs1", "number":
			out.Rs1 = x.Rs1
		case "rs2":
			out.Rs2 = x.Rs2
		case "csr":
			out.Csr = x.Csr
		case "imm", "imm/4096":
			out.Imm = x.Imm
		}
	}
	if atomic(x.Op) {
		out.Aq, out.Rl = x.Aq, x.Rl
	}
	return out
}

// instructions is instructions of all ops, with all registers and suffixes, and with the edges of numbers and CSRs.
func instructions(t *testing.T) []api.Insn {
	t.Helper()
	seen := map[api.Insn]bool{}
	var out []api.Insn
	for op := api.Lui; op <= api.Sfence; op++ {
		l := layoutOf(t, op)
		edges := []int64{l.least, l.least + l.step, -l.step, 0, l.step, 5 * l.step, l.greatest - l.step, l.greatest}
		csrs := []int{0, 1, 768, 2047, 2048, 4094, 4095}
		for i := range 64 {
			x := build(l, api.Insn{
				Op: op, Rd: i % 32, Rs1: (i + 1 + i/32*3) % 32, Rs2: (i + 5) % 32,
				Imm: min(max(edges[i%len(edges)], l.least), l.greatest),
				Csr: csrs[i%len(csrs)], Aq: i&1 != 0, Rl: i&2 != 0,
			})
			if !seen[x] {
				seen[x] = true
				out = append(out, x)
			}
		}
	}
	return out
}

// denotations is all that denotes a register.
func denotations(i int) []string {
	out := []string{strings.Fields(registerNames)[i], "x" + strconv.Itoa(i)}
	if i == 8 {
		out = append(out, "fp")
	}
	return out
}
