package vaddr

import (
	"fmt"
	"strconv"
	"strings"
)

// book is a word as it is written in binary, bit 63 first.
type book string

// spell is the book of a word.
func spell(w uint64) book {
	return book(fmt.Sprintf("%064b", w))
}

// number is the number that is written so in binary.
func number(part string) uint64 {
	if part == "" {
		return 0
	}
	w, err := strconv.ParseUint(part, 2, 64)
	if err != nil {
		panic("no number: " + part)
	}
	return w
}

// part is the bits from the one to the other, the greater number first.
func (b book) part(from, to int) string {
	return string(b[63-from : 64-to])
}

// valid tells whether all bits from 63 to 38 are equal.
func (b book) valid() bool {
	high := b.part(63, 38)
	return !strings.Contains(high, "0") || !strings.Contains(high, "1")
}

// indices are the highest and the lowest bit of an index, by its level.
var indices = map[int][2]int{0: {20, 12}, 1: {29, 21}, 2: {38, 30}}

// index is the index at a level, 0 if there is no such level.
func (b book) index(level int) uint64 {
	at, known := indices[level]
	if !known {
		return 0
	}
	return number(b.part(at[0], at[1]))
}

// bytes are the numbers of bytes of a page, by its level.
var bytes = map[int]uint64{0: 4096, 1: 2097152, 2: 1073741824}

// page is the address of the page.
func (b book) page(level int) uint64 {
	at, known := indices[level]
	if !known {
		return number(string(b))
	}
	return number(b.part(63, at[1]) + strings.Repeat("0", at[1]))
}

// entry is where the entry of an address is, in the table of the frame with that number.
func (b book) entry(frame book, level int) uint64 {
	at, known := indices[level]
	if !known {
		return 0
	}
	return number(frame.part(43, 0) + b.part(at[0], at[1]) + "000")
}

// satp is the word of three fields.
func satp(mode, asid, root book) uint64 {
	return number(mode.part(3, 0) + asid.part(15, 0) + root.part(43, 0))
}
