package cause

import (
	"strconv"
	"strings"
	"testing"

	"roebuck/api"
)

// chapter is the chapter's two tables: exceptions, then interrupts, each with its code.
const chapter = `
exception insn-align 0
exception insn-fault 1
exception illegal 2
exception break 3
exception load-align 4
exception load-fault 5
exception store-align 6
exception store-fault 7
exception call-user 8
exception call-super 9
exception call-machine 11
exception insn-page 12
exception load-page 13
exception store-page 15
interrupt super-soft 1
interrupt machine-soft 3
interrupt super-time 5
interrupt machine-time 7
interrupt super-outer 9
interrupt machine-outer 11
`

// entry is a line of the chapter's tables.
type entry struct {
	name  string
	cause Cause
}

// book is the chapter's tables.
func book(t *testing.T) []entry {
	t.Helper()
	var out []entry
	for _, line := range strings.Split(strings.TrimSpace(chapter), "\n") {
		words := strings.Fields(line)
		code, e := strconv.Atoi(words[2])
		if e != nil {
			t.Fatal(e)
		}
		out = append(out, entry{words[1], Cause{Interrupt: words[0] == "interrupt", Code: code}})
	}
	if len(out) != 20 {
		t.Fatal("causes:", len(out))
	}
	return out
}

// names is the names of the causes that there are.
func names(t *testing.T) map[Cause]string {
	t.Helper()
	out := map[Cause]string{}
	for _, e := range book(t) {
		out[e.cause] = e.name
	}
	return out
}

// spell is a word, bit by bit.
func spell(w uint64) [64]bool {
	var out [64]bool
	for i := range out {
		out[i] = w%2 == 1
		w /= 2
	}
	return out
}

// word is a cause's word: the code where it is one of 0 to 63, and what bit 63 is worth for an interrupt.
func word(c Cause) uint64 {
	w := uint64(0)
	for code := range 64 {
		if c.Code == code {
			w = uint64(code)
		}
	}
	if c.Interrupt {
		w += 9223372036854775808
	}
	return w
}

// handler is who handles a cause: Super if the bit with the code's number is 1 in the word for such a cause, and it did not occur in Machine.
func handler(c Cause, priv api.Priv, deleg, ideleg uint64) api.Priv {
	bits := spell(deleg)
	if c.Interrupt {
		bits = spell(ideleg)
	}
	for i, b := range bits {
		if i == c.Code && b && priv != 3 {
			return 1
		}
	}
	return 3
}
