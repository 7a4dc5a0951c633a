package asm

import (
	"math"
	"math/rand/v2"
	"slices"
	"strconv"
	"strings"
	"testing"

	"roebuck/api"
	"roebuck/insn"
)

func isWords(t *testing.T, text string, want ...uint32) {
	t.Helper()
	if got, n, e := Words(text); e != api.OK || n != 0 || !slices.Equal(got, want) {
		t.Fatalf("%.60q: got %v, %d and %v, want %v", text, got, n, e, want)
	}
}

func isWrongText(t *testing.T, text string, line int, want api.Errno) {
	t.Helper()
	if got, n, e := Words(text); e != want || n != line || len(got) != 0 {
		t.Fatalf("%.60q: got %v, %d and %v, want %d and %v", text, got, n, e, line, want)
	}
}

// P6.3: the words of a text, with and without a line feed at its end, with empty lines, and with lines that begin with #.
func TestWords(t *testing.T) {
	isWords(t, "")
	isWords(t, "\n")
	isWords(t, "\n\n\n")
	isWords(t, "#")
	isWords(t, "#\n#")
	isWords(t, "# add\n\n#ecall\n")
	isWords(t, "ecall", 115)
	isWords(t, "ecall\n", 115)
	isWords(t, "ecall\n\n", 115)
	isWords(t, "\necall", 115)
	isWords(t, "ecall\nebreak", 115, 1048691)
	isWords(t, "ecall\nebreak\n", 115, 1048691)
	isWords(t, "ecall\n#\nebreak\n#", 115, 1048691)
	isWords(t, "# first\n\naddi t0 zero 1\necall", 1049235, 115)
	isWords(t, "ecall\necall\necall", 115, 115, 115)
	isWords(t, "jal ra -4\n", 4292866287)
	isWords(t, "addi x5 x0 1\naddi t0 zero 1\n", 1049235, 1049235)
}

// P6.3: a line that begins with # is not parsed, whatever its length and its bytes.
func TestWordsSkipsRemarks(t *testing.T) {
	isWords(t, "#"+strings.Repeat("a", 1000)+"\necall\n", 115)
	isWords(t, "#  two blanks \x00\xff\r\necall", 115)
	isWords(t, "##\n#\n# \n#ecall\necall", 115)
}

// P6.3: the first error, with the number of its line.
func TestWordsErrors(t *testing.T) {
	isWrongText(t, "ecall\n\nx", 3, api.ErrName)
	isWrongText(t, "x", 1, api.ErrName)
	isWrongText(t, "x\n", 1, api.ErrName)
	isWrongText(t, "\n\n\nx\n", 4, api.ErrName)
	isWrongText(t, "# x\n#\nx", 3, api.ErrName)
	isWrongText(t, " ", 1, api.ErrForm)
	isWrongText(t, " \n", 1, api.ErrForm)
	isWrongText(t, "ecall\n ", 2, api.ErrForm)
	isWrongText(t, "ecall\n #", 2, api.ErrForm)
	isWrongText(t, "ecall #", 1, api.ErrForm)
	isWrongText(t, "ecall\r\n", 1, api.ErrName)
	isWrongText(t, "\r\n", 1, api.ErrName)
	isWrongText(t, "ecall\necall\naddi a0 a1 2048\naddx\n", 3, api.ErrRange)
	isWrongText(t, "addx\naddi a0 a1 2048\n", 1, api.ErrName)
	isWrongText(t, "ecall\nadd a0 a1\naddx", 2, api.ErrForm)
	isWrongText(t, "ecall\n"+strings.Repeat("a", 200), 2, api.ErrName)
	isWrongText(t, "ecall\n"+strings.Repeat("a", 201), 2, api.ErrLong)
	isWrongText(t, "ecall\n"+strings.Repeat("a", 201)+"\nx", 2, api.ErrLong)
	isWrongText(t, "word 0\n", 1, api.ErrName)
	isWrongText(t, strings.Repeat("ecall\n", 100000)+"x", 100001, api.ErrName)
	isWrongText(t, strings.Repeat("\n", 100000)+"x", 100001, api.ErrName)
	isWrongText(t, strings.Repeat(" ", 1<<22), 1, api.ErrLong)
	isWrongText(t, strings.Repeat("\xff", 1<<22), 1, api.ErrLong)
}

// P6.3: Words is Parse of each line.
func TestWordsIsParse(t *testing.T) {
	lines := []string{"", "#", "# x", "ecall", "addi t0 zero 1", "x", " ", "add a0 a1", "lui a0 524288", "csrrw a0 4096 b0", strings.Repeat("a", 201), "ecall\r"}
	for i := range len(lines) * len(lines) * len(lines) {
		three := []string{lines[i%len(lines)], lines[i/len(lines)%len(lines)], lines[i/len(lines)/len(lines)]}
		var want []uint32
		number, wrong := 0, api.OK
		for k, line := range three {
			if line == "" || line[0] == '#' {
				continue
			}
			x, e := Parse(line)
			if e != api.OK {
				want, number, wrong = nil, k+1, e
				break
			}
			w, _ := insn.Encode(x)
			want = append(want, w)
		}
		for _, end := range []string{"", "\n", "\n\n"} {
			got, n, e := Words(strings.Join(three, "\n") + end)
			if e != wrong || n != number || !slices.Equal(got, want) {
				t.Fatalf("%q: %v %d %v", three, got, n, e)
			}
		}
	}
}

// P6.3
func TestListing(t *testing.T) {
	for _, c := range []struct {
		want  string
		words []uint32
	}{
		{"", nil},
		{"", []uint32{}},
		{"ecall\n", []uint32{115}},
		{"word 0\n", []uint32{0}},
		{"ecall\nword 0\n", []uint32{115, 0}},
		{"word 4294967295\nword 2147483648\nword 1\n", []uint32{math.MaxUint32, 1 << 31, 1}},
		{"addi t0 zero 1\nmret\nword 116\n", []uint32{1049235, 807403635, 116}},
		{"ecall\necall\n", []uint32{115, 115}},
		{"jal ra -4\n", []uint32{4292866287}},
	} {
		if got := Listing(c.words...); got != c.want {
			t.Fatalf("%v: got %q, want %q", c.words, got, c.want)
		}
	}
	if got := Listing(); got != "" {
		t.Fatalf("%q", got)
	}
}

// P6.3: each word has a line, that of its instruction, or the word as a number.
func TestListingAnyWords(t *testing.T) {
	r := rand.New(rand.NewPCG(9, 10))
	words := []uint32{0, 1, 115, math.MaxUint32}
	for range 5000 {
		// Only words that end in the bits 11 are instructions.
		words = append(words, r.Uint32(), r.Uint32()|3)
	}
	before := slices.Clone(words)
	lines := strings.Split(Listing(words...), "\n")
	if !slices.Equal(words, before) {
		t.Fatal("changed its argument")
	}
	if len(lines) != len(words)+1 || lines[len(words)] != "" {
		t.Fatal("lines:", len(lines))
	}
	found := 0
	for i, w := range words {
		want := "word " + strconv.FormatUint(uint64(w), 10)
		if x, ok := insn.Decode(w); ok {
			found++
			want = slowText(t, x)
		}
		if lines[i] != want {
			t.Fatalf("%d: got %q, want %q", w, lines[i], want)
		}
	}
	if found < 1000 || found > len(words)-1000 {
		t.Fatal("instructions:", found)
	}
}

// P6.4: Words of the Listing of instruction words returns these words.
func TestWordsInvertsListing(t *testing.T) {
	var words []uint32
	for _, x := range instructions(t) {
		w, e := insn.Encode(x)
		if e != api.OK {
			t.Fatal(x, e)
		}
		words = append(words, w)
	}
	isWords(t, Listing(words...), words...)
	r := rand.New(rand.NewPCG(11, 12))
	words = nil
	for len(words) < 5000 {
		if w := r.Uint32() | 3; isInstruction(w) {
			words = append(words, w)
		}
	}
	isWords(t, Listing(words...), words...)
}

func isInstruction(w uint32) bool {
	_, ok := insn.Decode(w)
	return ok
}

// P6.3: each call returns words of its own.
func TestWordsAreNew(t *testing.T) {
	const text = "ecall\nebreak\n"
	first, _, _ := Words(text)
	first[0] = 1
	second, _, _ := Words(text)
	if !slices.Equal(second, []uint32{115, 1048691}) {
		t.Fatal(second)
	}
}
