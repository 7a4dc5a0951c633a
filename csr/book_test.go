package csr

import (
	"strconv"
	"strings"
	"testing"

	"roebuck/api"
)

// chapter is the chapter's table: each CSR's name, number, and writable bits: a number, all, none, or all but the bits that are named.
const chapter = `
sstatus 256 786722
sie 260 546
stvec 261 all except 1
scounteren 262 7
sscratch 320 all
sepc 321 all except 0 1
scause 322 all
stval 323 all
sip 324 2
satp 384 all
mstatus 768 8264106
misa 769 none
medeleg 770 46079
mideleg 771 546
mie 772 2730
mtvec 773 all except 1
mcounteren 774 7
mscratch 832 all
mepc 833 all except 0 1
mcause 834 all
mtval 835 all
mip 836 546
shootva 1472 all
shootasid 1473 65535
shoot 1474 1023
mcycle 2816 all
minstret 2818 all
cycle 3072 none
time 3073 none
instret 3074 none
mvendorid 3857 none
marchid 3858 none
mimpid 3859 none
mhartid 3860 none
`

// entry is a line of the chapter's table: which bits can be written is one answer a bit.
type entry struct {
	name   string
	number int
	writes [64]bool
}

// atoi is a number of the table.
func atoi(t *testing.T, s string) int {
	t.Helper()
	n, e := strconv.Atoi(s)
	if e != nil {
		t.Fatal(e)
	}
	return n
}

// written is the last column of a line, bit by bit.
func written(t *testing.T, words []string) [64]bool {
	t.Helper()
	var out [64]bool
	switch words[0] {
	case "none":
	case "all":
		for i := range out {
			out[i] = true
		}
		for _, w := range words[1:] {
			if w != "except" {
				out[atoi(t, w)] = false
			}
		}
	default:
		for i, n := 0, atoi(t, words[0]); n > 0; i, n = i+1, n/2 {
			out[i] = n%2 == 1
		}
	}
	return out
}

// book is the chapter's table.
func book(t *testing.T) []entry {
	t.Helper()
	var out []entry
	for _, line := range strings.Split(strings.TrimSpace(chapter), "\n") {
		words := strings.Fields(line)
		out = append(out, entry{words[0], atoi(t, words[1]), written(t, words[2:])})
	}
	if len(out) != 34 {
		t.Fatal("CSRs:", len(out))
	}
	return out
}

// spell is a word, bit by bit.
func spell(w uint64) [64]bool {
	var out [64]bool
	for i := range out {
		out[i] = w%2 == 1
		w /= 2
	}
	return out
}

// sum is the word with these bits.
func sum(bits [64]bool) uint64 {
	var w, worth uint64 = 0, 1
	for _, b := range bits {
		if b {
			w += worth
		}
		worth *= 2
	}
	return w
}

// after is a CSR's value after a word was written, as the chapter says it, bit by bit.
func (e entry) after(old, v uint64) uint64 {
	before, now := spell(old), spell(v)
	next := before
	for i := range next {
		if e.writes[i] {
			next[i] = now[i]
		}
	}
	if e.name == "mstatus" && !next[11] && next[12] {
		next[11], next[12] = before[11], before[12]
	}
	if e.name == "satp" && (next[60] || next[61] || next[62]) {
		return old
	}
	return sum(next)
}

// least is the minimum privilege: bits 8 and 9 of the number, as a number of 0 to 3.
func (e entry) least() api.Priv {
	return api.Priv(e.number / 256 % 4)
}

// readOnly is whether bits 10 and 11 of the number are both 1.
func (e entry) readOnly() bool {
	return e.number/1024%2 == 1 && e.number/2048%2 == 1
}
