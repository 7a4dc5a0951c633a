package asm

import (
	"strconv"

	"roebuck/api"
	"roebuck/insn"
	"roebuck/regs"
)

// operand is how a word after the name is written, and how it is read into an instruction.
type operand struct {
	text func(x api.Insn) string
	read func(x *api.Insn, word string)
}

// place is the field of an instruction that an operand stands for.
type place func(x *api.Insn) *int

// register is an operand that denotes a register.
func register(at place) operand {
	return operand{
		text: func(x api.Insn) string { return regs.Name(*at(&x)) },
		read: func(x *api.Insn, word string) {
			i, ok := regs.Find(word)
			must(ok, api.ErrName)
			*at(x) = i
		},
	}
}

// beyond is farther from 0 than any number that an operand may be, in any unit.
const beyond = 1 << 30

// readNumber is the number that a word is, held between -beyond and beyond.
// It is then as little permitted as before, and neither a unit nor an int makes it wrap around into what is.
func readNumber(word string) int64 {
	n, ok := Number(word)
	must(ok, api.ErrForm)
	return max(-beyond, min(n, beyond))
}

// plain is an operand that is a number in the field of a register or of a CSR.
func plain(at place) operand {
	return operand{
		text: func(x api.Insn) string { return strconv.Itoa(*at(&x)) },
		read: func(x *api.Insn, word string) { *at(x) = int(readNumber(word)) },
	}
}

// immediate is an operand that is the instruction's number, counted in a unit.
func immediate(unit int64) operand {
	return operand{
		text: func(x api.Insn) string { return strconv.FormatInt(x.Imm/unit, 10) },
		read: func(x *api.Insn, word string) { x.Imm = readNumber(word) * unit },
	}
}

// upper is the unit of the numbers that have no lowest 12 bits.
const upper = 4096

// operands is the operands of a format, in the order in which a line has them.
func operands(f insn.Format) []operand {
	atRs1 := func(x *api.Insn) *int { return &x.Rs1 }
	rd := register(func(x *api.Insn) *int { return &x.Rd })
	rs1 := register(atRs1)
	rs2 := register(func(x *api.Insn) *int { return &x.Rs2 })
	csr := plain(func(x *api.Insn) *int { return &x.Csr })
	switch f {
	case insn.R:
		return []operand{rd, rs1, rs2}
	case insn.I, insn.Shift, insn.ShiftW:
		return []operand{rd, rs1, immediate(1)}
	case insn.S:
		return []operand{rs2, rs1, immediate(1)}
	case insn.B:
		return []operand{rs1, rs2, immediate(1)}
	case insn.U:
		return []operand{rd, immediate(upper)}
	case insn.J:
		return []operand{rd, immediate(1)}
	case insn.Csr:
		return []operand{rd, csr, rs1}
	case insn.CsrI:
		return []operand{rd, csr, plain(atRs1)}
	case insn.A:
		return []operand{rd, rs2, rs1}
	case insn.Lr:
		return []operand{rd, rs1}
	case insn.Sfence:
		return []operand{rs1, rs2}
	}
	return nil
}
