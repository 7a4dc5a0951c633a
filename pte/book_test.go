package pte

import (
	"fmt"
	"strconv"
	"strings"

	"roebuck/api"
)

// book is an entry or an address as it is written in binary, bit 63 first.
type book string

// spell is the book of a word.
func spell(w uint64) book {
	return book(fmt.Sprintf("%064b", w))
}

// word is the word of a book.
func (b book) word() uint64 {
	w, err := strconv.ParseUint(string(b), 2, 64)
	if err != nil || len(b) != 64 {
		panic("no word: " + string(b))
	}
	return w
}

// part is the bits from the one to the other, the greater number first.
func (b book) part(from, to int) string {
	return string(b[63-from : 64-to])
}

// zero tells whether there is no 1.
func zero(part string) bool {
	return !strings.Contains(part, "1")
}

// letters are the names of the lowest bits, bit 0 first.
const letters = "VRWXUGAD"

// has tells whether the bit with that letter is 1.
func (b book) has(letter string) bool {
	return b[63-strings.Index(letters, letter)] == '1'
}

// with is the book with the bit of that letter set.
func (b book) with(letter string) book {
	i := 63 - strings.Index(letters, letter)
	return b[:i] + "1" + b[i+1:]
}

// within are the lowest bits of an address that are its place in a page, by the level.
var within = map[int]int{0: 12, 1: 21, 2: 30}

// kind is what an entry is.
func (b book) kind(level int) int {
	size, known := within[level]
	if !known || !b.has("V") || b.has("W") && !b.has("R") || !zero(b.part(63, 54)) {
		return Invalid
	}
	if !b.has("R") && !b.has("W") && !b.has("X") {
		if level == 0 || b.has("U") || b.has("A") || b.has("D") {
			return Invalid
		}
		return Leads
	}
	low := b.part(53, 10)
	if (b.has("R") || b.has("X")) && zero(low[44-(size-12):]) {
		return Leaf
	}
	return Invalid
}

// ppn is the number of the frame.
func (b book) ppn() uint64 {
	return book(strings.Repeat("0", 20) + b.part(53, 10)).word()
}

// lets tells whether a leaf permits an access: 0 insn, 1 load, 2 store.
func (b book) lets(access int, priv api.Priv, sum, mxr bool) bool {
	permitted := false
	switch access {
	case 0:
		permitted = b.has("X")
	case 1:
		permitted = b.has("R")
		if mxr {
			permitted = permitted || b.has("X")
		}
	case 2:
		permitted = b.has("W")
	}
	if priv == 0 {
		return permitted && b.has("U")
	}
	if sum && access != 0 {
		return permitted
	}
	return permitted && !b.has("U")
}

// marked is the entry marked for an access.
func (b book) marked(access int) book {
	b = b.with("A")
	if access == 2 {
		b = b.with("D")
	}
	return b
}

// frame is where a leaf leads.
func (b book) frame(level int, va book) uint64 {
	size, known := within[level]
	if !known {
		return 0
	}
	whole := strings.Repeat("0", 8) + b.part(53, 10) + strings.Repeat("0", 12)
	return book(whole[:64-size] + va.part(size-1, 0)).word()
}
