package asm

import (
	"math"
	"math/big"
	"math/rand/v2"
	"slices"
	"strconv"
	"strings"
	"testing"

	"roebuck/api"
	"roebuck/insn"
	"roebuck/kind"
)

// noNumbers are texts that are no numbers.
var noNumbers = []string{
	"", " ", "-", "+", "--1", "+-1", "-+1", "-0", "+0", "+1", "+9223372036854775807", "00", "01", "007", "-01", "-00", "0x1", "0b1", "0o7", "1_000", "1e3", "1.0", "1.", ".1", "1 ", " 1", "1\n", "1\x00", "\x001", "a", "1a", "a0", "zero", "NaN", "inf",
	"9223372036854775808", "-9223372036854775809", "18446744073709551615", "18446744073709551616", "10000000000000000000", "-10000000000000000000", "09223372036854775807", "-09223372036854775808", "99999999999999999999", "100000000000000000000", "340282366920938463463374607431768211456",
	"\u0661", "\uff11", "\u22121", "\xff", "1\xff", "'1'", "(1)", "1,000", "#1", "@1",
}

func isError(t *testing.T, line string, want api.Errno) {
	t.Helper()
	if x, e := Parse(line); e != want || x != (api.Insn{}) {
		t.Fatalf("%.60q: got %v and %v, want %v", line, x, e, want)
	}
}

func isInsn(t *testing.T, line string, want api.Insn) {
	t.Helper()
	if x, e := Parse(line); e != api.OK || x != want {
		t.Fatalf("%q: got %v and %v, want %v", line, x, e, want)
	}
}

// P6.1
func TestNumber(t *testing.T) {
	numbers := []int64{0, 9, 10, 11, 99, 100, 101, 255, 2047, 2048, 4096, math.MaxInt32, math.MaxUint32, math.MaxInt64 - 1, math.MaxInt64, math.MinInt64 + 1, math.MinInt64}
	for i := range 63 {
		numbers = append(numbers, 1<<i-1, 1<<i, 1<<i+1)
	}
	for _, n := range numbers {
		for _, want := range []int64{n, -n} {
			if got, ok := Number(big.NewInt(want).String()); !ok || got != want {
				t.Fatal(want, got, ok)
			}
		}
	}
	for text, want := range map[string]int64{"0": 0, "-1": -1, "10": 10, "9223372036854775807": math.MaxInt64, "-9223372036854775808": math.MinInt64} {
		if got, ok := Number(text); !ok || got != want {
			t.Fatal(text, got, ok)
		}
	}
}

// P6.1: texts that are no numbers.
func TestNoNumbers(t *testing.T) {
	long := []string{strings.Repeat("0", 1<<20), strings.Repeat("1", 21), strings.Repeat("9", 1<<20), "-" + strings.Repeat("9", 1<<20), strings.Repeat("0", 1<<20) + "1", strings.Repeat("\xff", 1<<20)}
	for _, text := range slices.Concat(noNumbers, long) {
		if n, ok := Number(text); ok || n != 0 {
			t.Fatalf("%.30q: %d %v", text, n, ok)
		}
	}
}

// P6.1: a text of these characters is a number just if a number is written like that.
func TestShortNumbers(t *testing.T) {
	written := map[string]int64{}
	for n := int64(-9999); n <= 99999; n++ {
		written[strconv.FormatInt(n, 10)] = n
	}
	var try func(text string)
	try = func(text string) {
		want, is := written[text]
		if n, ok := Number(text); ok != is || n != want {
			t.Fatalf("%q: %d %v", text, n, ok)
		}
		for _, c := range []string{"0", "1", "9", "-", "+", " ", "_", "x"} {
			if len(text) < 5 {
				try(text + c)
			}
		}
	}
	try("")
}

// P6.1
func TestTextExamples(t *testing.T) {
	for want, x := range map[string]api.Insn{
		"add a0 a1 a2":         {Op: api.Add, Rd: 10, Rs1: 11, Rs2: 12},
		"addi t0 zero 1":       {Op: api.Addi, Rd: 5, Imm: 1},
		"lw a0 sp 12":          {Op: api.Lw, Rd: 10, Rs1: 2, Imm: 12},
		"slli a0 a1 63":        {Op: api.Slli, Rd: 10, Rs1: 11, Imm: 63},
		"sraiw a0 a1 31":       {Op: api.Sraiw, Rd: 10, Rs1: 11, Imm: 31},
		"sw a0 sp -4":          {Op: api.Sw, Rs1: 2, Rs2: 10, Imm: -4},
		"beq a0 a1 -4096":      {Op: api.Beq, Rs1: 10, Rs2: 11, Imm: -4096},
		"lui a0 -1":            {Op: api.Lui, Rd: 10, Imm: -4096},
		"auipc a0 524287":      {Op: api.Auipc, Rd: 10, Imm: 1<<31 - 4096},
		"lui a0 -524288":       {Op: api.Lui, Rd: 10, Imm: -1 << 31},
		"jal ra -4":            {Op: api.Jal, Rd: 1, Imm: -4},
		"csrrw a0 4095 a1":     {Op: api.Csrrw, Rd: 10, Rs1: 11, Csr: 4095},
		"csrrsi s0 768 31":     {Op: api.Csrrsi, Rd: 8, Rs1: 31, Csr: 768},
		"amoadd.w.aq a0 a2 a1": {Op: api.AmoaddW, Rd: 10, Rs1: 11, Rs2: 12, Aq: true},
		"sc.d.rl a0 a2 a1":     {Op: api.ScD, Rd: 10, Rs1: 11, Rs2: 12, Rl: true},
		"sc.d a0 a2 a1":        {Op: api.ScD, Rd: 10, Rs1: 11, Rs2: 12},
		"lr.d.aqrl a0 a1":      {Op: api.LrD, Rd: 10, Rs1: 11, Aq: true, Rl: true},
		"ecall":                {Op: api.Ecall},
		"sfence.vma a0 a1":     {Op: api.Sfence, Rs1: 10, Rs2: 11},
		"fence zero zero 255":  {Op: api.Fence, Imm: 255},
		"fence.i zero zero 0":  {Op: api.FenceI},
	} {
		if got, e := Text(x); e != api.OK || got != want {
			t.Fatalf("%v: got %q and %v, want %q", x, got, e, want)
		}
		isInsn(t, want, x)
	}
}

// P6.1, P6.4: instructions of all ops and formats are written as the table says, and parsed back.
func TestTextAndParse(t *testing.T) {
	all := instructions(t)
	if len(all) < 32*api.AllOps/2 {
		t.Fatal("instructions:", len(all))
	}
	lines := map[string]bool{}
	for _, x := range all {
		want := slowText(t, x)
		if got, e := Text(x); e != api.OK || got != want {
			t.Fatalf("%v: got %q and %v, want %q", x, got, e, want)
		}
		isInsn(t, want, x)
		if lines[want] {
			t.Fatal("two instructions with one line:", want)
		}
		lines[want] = true
	}
}

// P6.1: Text returns the error of Check.
func TestTextErrors(t *testing.T) {
	for _, c := range []struct {
		x    api.Insn
		want api.Errno
	}{
		{api.Insn{}, api.ErrArg},
		{api.Insn{Op: -1}, api.ErrArg},
		{api.Insn{Op: api.AllOps + 1}, api.ErrArg},
		{api.Insn{Op: math.MaxInt, Rd: 32}, api.ErrArg},
		{api.Insn{Op: api.Ecall, Rd: 1}, api.ErrForm},
		{api.Insn{Op: api.Add, Imm: 1}, api.ErrForm},
		{api.Insn{Op: api.Add, Aq: true}, api.ErrForm},
		{api.Insn{Op: api.LrW, Rs2: 1}, api.ErrForm},
		{api.Insn{Op: api.Addi, Rl: true, Imm: 4096}, api.ErrForm},
		{api.Insn{Op: api.Addi, Rd: 32}, api.ErrRange},
		{api.Insn{Op: api.Addi, Rd: -1}, api.ErrRange},
		{api.Insn{Op: api.Addi, Imm: 2048}, api.ErrRange},
		{api.Insn{Op: api.Beq, Imm: 1}, api.ErrRange},
		{api.Insn{Op: api.Lui, Imm: 1}, api.ErrRange},
		{api.Insn{Op: api.Lui, Imm: math.MinInt64}, api.ErrRange},
		{api.Insn{Op: api.Csrrw, Csr: 4096}, api.ErrRange},
		{api.Insn{Op: api.Csrrwi, Rs1: 32}, api.ErrRange},
		{api.Insn{Op: api.Csrrwi, Rs1: math.MinInt, Csr: math.MaxInt}, api.ErrRange},
	} {
		if got, e := Text(c.x); got != "" || e != c.want || e != insn.Check(c.x) {
			t.Fatal(c.x, got, e)
		}
	}
}

// P6.2: a register may be denoted by all that denotes it, wherever one is required.
func TestParseAllRegisters(t *testing.T) {
	for op := api.Lui; op <= api.Sfence; op++ {
		l := layoutOf(t, op)
		for at, what := range l.operands {
			if !strings.HasPrefix(what, "r") {
				continue
			}
			for i := range 32 {
				x := build(l, api.Insn{Op: op, Rd: i, Rs1: i, Rs2: i})
				words := strings.Split(slowText(t, x), " ")
				for _, word := range denotations(i) {
					words[1+at] = word
					isInsn(t, strings.Join(words, " "), x)
				}
			}
		}
	}
	isInsn(t, "add x10 fp x0", api.Insn{Op: api.Add, Rd: 10, Rs1: 8})
}

// P6.2: the line's length comes first.
func TestParseLong(t *testing.T) {
	for _, c := range []string{"a", " ", "0", "\n", "\xff", "add a0 a1 a2 ", "addi a0 a1 5000 "} {
		line := strings.Repeat(c, 300)
		isError(t, line[:201], api.ErrLong)
		isError(t, line[:202], api.ErrLong)
		if _, e := Parse(line[:200]); e == api.ErrLong || e == api.OK {
			t.Fatal(c, e)
		}
	}
	isError(t, strings.Repeat("a", 200), api.ErrName)
	isError(t, strings.Repeat(" ", 200), api.ErrForm)
	isError(t, "ecall"+strings.Repeat(" a", 97)+"a", api.ErrForm)
	isError(t, "ecall"+strings.Repeat(" a", 98), api.ErrLong)
	isError(t, "addi a0 a1 "+strings.Repeat("0", 189), api.ErrForm)
	isError(t, "addi a0 a1 "+strings.Repeat("0", 190), api.ErrLong)
	isError(t, "addi a0 x"+strings.Repeat("0", 189)+" 0", api.ErrName)
	isError(t, strings.Repeat(" ", 1<<22), api.ErrLong)
	isError(t, strings.Repeat("a ", 1<<22), api.ErrLong)
	// Length is counted in bytes: these are 101 characters of 2 bytes.
	isError(t, strings.Repeat("\u00e4", 101), api.ErrLong)
	isError(t, strings.Repeat("\u00e4", 100), api.ErrName)
}

// P6.2: a line without bytes, then words without bytes.
func TestParseEmpty(t *testing.T) {
	isError(t, "", api.ErrEnd)
	for _, line := range []string{
		" ", "  ", " ecall", "ecall ", " ecall ", "add  a0 a1 a2", "add a0  a1 a2", "add a0 a1  a2", "add a0 a1 a2 ", " add a0 a1 a2", "add a0 a1 ", "add a0  a1", "add ",
		// An empty word comes before all that is wrong with the others.
		"addx  a0 a1 a2", " addx", "add.aq ", "add b0  a1 a2", "addi a0  a1 5000", "addi a0 a1 x ", "ecall  ", " #",
	} {
		isError(t, line, api.ErrForm)
	}
}

// P6.2: only byte 32 separates words.
func TestParseSeparators(t *testing.T) {
	isError(t, "add\ta0\ta1\ta2", api.ErrName)
	isError(t, "add a0\ta1 a2", api.ErrForm)
	isError(t, "add a0 a1 a2\t", api.ErrName)
	isError(t, "add a0, a1, a2", api.ErrName)
	isError(t, "ecall\n", api.ErrName)
	isError(t, "ecall\r", api.ErrName)
	isError(t, "ecall\x00", api.ErrName)
	isError(t, "ecall\u00a0", api.ErrName)
	isError(t, "addi a0 a1 1\n", api.ErrForm)
	isError(t, "\n", api.ErrName)
	isError(t, "# add a0 a1 a2", api.ErrName)
}

// P6.2: the first word has to be a name.
func TestParseNames(t *testing.T) {
	for _, name := range []string{"addx", "ad", "addd", "ADD", "Add", "a0", "0", "x", "word", "ecall.", ".ecall", "lr", "lr.", "lr.w.", "lr.x", "amoadd", "sfence", "fence.", "fence.I", "\xff", "#"} {
		for _, rest := range []string{"", " a0", " a0 a1", " a0 a1 a2", " a0 a1 5000", " b0 b1 b2", " a b c d e f"} {
			isError(t, name+rest, api.ErrName)
		}
	}
	for op := api.Lui; op <= api.Sfence; op++ {
		name := kind.Name(op)
		words := strings.Split(slowText(t, api.Insn{Op: op}), " ")
		for _, wrong := range []string{name + ".", "." + name, name + "x", strings.ToUpper(name), name + "." + name} {
			words[0] = wrong
			isError(t, strings.Join(words, " "), api.ErrName)
		}
	}
}

// P6.2: each suffix where one is permitted, and where none is.
func TestParseSuffixes(t *testing.T) {
	for op := api.Lui; op <= api.Sfence; op++ {
		words := strings.Split(slowText(t, api.Insn{Op: op}), " ")
		name := words[0]
		for _, x := range []api.Insn{{Op: op}, {Op: op, Aq: true}, {Op: op, Rl: true}, {Op: op, Aq: true, Rl: true}} {
			words[0] = name + suffix(x)
			line := strings.Join(words, " ")
			if atomic(op) || suffix(x) == "" {
				isInsn(t, line, x)
			} else {
				isError(t, line, api.ErrName)
			}
		}
		for _, wrong := range []string{".x", ".", "aq", ".a", ".q", ".r", ".l", ".AQ", ".Rl", ".rlaq", ".aq.rl", ".rl.aq", ".aq.aq", ".aqaq", ".rlrl", ".rl.rl", ".aqrl.aq", ".aqr", ".aqrlx", ".aqrl.", "..aq", ".w", ".d"} {
			words[0] = name + wrong
			isError(t, strings.Join(words, " "), api.ErrName)
		}
	}
	// A wrong suffix comes before a wrong number of words, and that one before wrong words.
	isError(t, "add.aq a0", api.ErrName)
	isError(t, "ecall.rl a0", api.ErrName)
	isError(t, "lr.w.x a0 a1 a2", api.ErrName)
	isError(t, "lr.w.aq a0 a1 a2", api.ErrForm)
	isError(t, "sc.w.aq b0 a1", api.ErrForm)
	isError(t, "sc.w.aq b0 a1 a2", api.ErrName)
	isError(t, ".aq a0 a1", api.ErrName)
}

// P6.2: the number of words has to be that of the operands, whatever the words are.
func TestParseCounts(t *testing.T) {
	for op := api.Lui; op <= api.Sfence; op++ {
		want := len(layoutOf(t, op).operands)
		for n := range 8 {
			if n == want {
				continue
			}
			for _, word := range []string{" a0", " 0", " b0", " 99999999999999999999", " #"} {
				isError(t, kind.Name(op)+strings.Repeat(word, n), api.ErrForm)
			}
		}
	}
}

// P6.2: word by word, what is no register and what is no number.
func TestParseOperands(t *testing.T) {
	for op := api.Lui; op <= api.Sfence; op++ {
		l := layoutOf(t, op)
		for at, what := range l.operands {
			want, wrong := api.ErrForm, append([]string{"zero", "x1", "fp"}, noNumbers...)
			if strings.HasPrefix(what, "r") {
				want, wrong = api.ErrName, []string{"b0", "0", "5", "-1", "A0", "X1", "x32", "x07", "x-1", "x+1", "a8", "s12", "t7", "zer", "\xff"}
			}
			for _, word := range wrong {
				if word == "" || strings.Contains(word, " ") {
					continue
				}
				words := strings.Split(slowText(t, api.Insn{Op: op}), " ")
				words[1+at] = word
				isError(t, strings.Join(words, " "), want)
				isFirst(t, l, words, at, want)
			}
		}
	}
}

// isFirst holds that the error of a word comes before those of the words after it, which are neither registers nor numbers.
func isFirst(t *testing.T, l layout, words []string, at int, want api.Errno) {
	t.Helper()
	words = slices.Clone(words)
	for later := at + 1; later < len(l.operands); later++ {
		words[1+later] = "?"
	}
	isError(t, strings.Join(words, " "), want)
}

// P6.2: what is wrong with a word comes first, and a number that is not permitted comes last.
func TestParseWhichErrorIsFirst(t *testing.T) {
	for line, want := range map[string]api.Errno{
		"addi a0 a1 2048":       api.ErrRange,
		"add a0 a1":             api.ErrForm,
		"addx a0 a1 a2":         api.ErrName,
		"addi a0 b0 5000":       api.ErrName,
		"addi b0 a1 x":          api.ErrName,
		"addi a0 a1 x":          api.ErrForm,
		"add a0 a1 5":           api.ErrName,
		"lui a0 a1":             api.ErrForm,
		"csrrw a0 x b0":         api.ErrForm,
		"csrrw b0 x a1":         api.ErrName,
		"csrrw a0 4096 b0":      api.ErrName,
		"csrrw a0 4096 5":       api.ErrName,
		"csrrw a0 -1 a1":        api.ErrRange,
		"csrrw a0 mstatus a1":   api.ErrForm,
		"csrrwi a0 4096 x":      api.ErrForm,
		"csrrwi a0 4096 a1":     api.ErrForm,
		"csrrwi a0 4096 32":     api.ErrRange,
		"sw a0 5 4":             api.ErrName,
		"sw a0 sp sp":           api.ErrForm,
		"lw a0 12(sp)":          api.ErrForm,
		"beq a0 a1 label":       api.ErrForm,
		"beq a0 a1 1":           api.ErrRange,
		"jal 0 1":               api.ErrName,
		"jal ra 1":              api.ErrRange,
		"lr.w a0 (a1)":          api.ErrName,
		"ecall 0":               api.ErrForm,
		"sfence.vma a0":         api.ErrForm,
		"slli a0 a1 -1":         api.ErrRange,
		"slli b0 a1 64":         api.ErrName,
		"fence":                 api.ErrForm,
		"fence zero zero 2048":  api.ErrRange,
		"fence.i zero zero 0 0": api.ErrForm,
	} {
		isError(t, line, want)
	}
}

// beyondNumbers are numbers that no operand may be, some of which a product by 4096, or a cut to 32 or 12 bits, would turn into small ones.
var beyondNumbers = []string{
	"1073741823", "1073741824", "-1073741824", "2147483648", "-2147483649", "4294967296", "4294967301", "-4294967296", "8589934592",
	"1125899906842624", "2251799813685248", "-2251799813685248", "-2251799813685249", "4503599627370496", "4503599627370497", "-4503599627370496", "-4503599627370495", "9007199254740992",
	"9223372036854775807", "-9223372036854775808", "9223372036854771712", "-9223372036854771713",
}

// span is the numbers that an operand may be, how far two neighbours are apart, and where a number of it stands.
type span struct {
	low, high, step int64
	put             func(x *api.Insn, n int64)
}

// spanOf is the span of an operand of a layout; a register has none.
func spanOf(l layout, what string) (span, bool) {
	switch what {
	case "csr":
		return span{0, 4095, 1, func(x *api.Insn, n int64) { x.Csr = int(n) }}, true
	case "number":
		return span{0, 31, 1, func(x *api.Insn, n int64) { x.Rs1 = int(n) }}, true
	case "imm":
		return span{l.least, l.greatest, l.step, func(x *api.Insn, n int64) { x.Imm = n }}, true
	case "imm/4096":
		return span{l.least / 4096, l.greatest / 4096, 1, func(x *api.Insn, n int64) { x.Imm = n * 4096 }}, true
	}
	return span{}, false
}

// samples is the edges of a span, what lies just outside of them, and some numbers between.
func samples(s span) []int64 {
	out := []int64{-1, 0, 1, 2, 3}
	for d := int64(-4); d <= 4; d++ {
		out = append(out, s.low+d, s.high+d)
	}
	for n := s.low; n <= s.high; n += 1 + (s.high-s.low)/100 {
		out = append(out, n)
	}
	return out
}

// P6.2: numbers at the edges of what is permitted, and outside of them.
func TestParseRanges(t *testing.T) {
	for op := api.Lui; op <= api.Sfence; op++ {
		l := layoutOf(t, op)
		for at, what := range l.operands {
			s, ok := spanOf(l, what)
			if !ok {
				continue
			}
			words := strings.Split(slowText(t, api.Insn{Op: op}), " ")
			for _, n := range samples(s) {
				words[1+at] = strconv.FormatInt(n, 10)
				line := strings.Join(words, " ")
				if n < s.low || n > s.high || n%s.step != 0 {
					isError(t, line, api.ErrRange)
					continue
				}
				x := api.Insn{Op: op}
				s.put(&x, n)
				isInsn(t, line, x)
			}
			for _, text := range beyondNumbers {
				words[1+at] = text
				isError(t, strings.Join(words, " "), api.ErrRange)
			}
		}
	}
}

// P6.2, P6.4: whatever line is parsed, its instruction's line is the same, but for other names of registers; every line gets an answer.
func TestParseAnyLines(t *testing.T) {
	r := rand.New(rand.NewPCG(7, 8))
	all := instructions(t)
	const letters = "abcdefilmnopqrstuvwxz0123456789 .-+#\x00\xff\n"
	names := map[string]string{}
	for i := range 32 {
		for _, word := range denotations(i) {
			names[word] = denotations(i)[0]
		}
	}
	parsed := 0
	for range 50000 {
		line := []byte(slowText(t, all[r.IntN(len(all))]))
		for range r.IntN(4) {
			at := r.IntN(len(line))
			switch c := letters[r.IntN(len(letters))]; r.IntN(3) {
			case 0:
				line[at] = c
			case 1:
				line = slices.Insert(line, at, c)
			case 2:
				line = append(line[:at], line[at+1:]...)
				line = append(line, 'a')
			}
		}
		x, e := Parse(string(line))
		if e != api.OK {
			if x != (api.Insn{}) {
				t.Fatalf("%q: %v %v", line, x, e)
			}
			continue
		}
		parsed++
		if got, e := Text(x); e != api.OK || got != renamed(string(line), names) {
			t.Fatalf("%q: %q %v", line, got, e)
		}
	}
	if parsed < 5000 {
		t.Fatal("parsed:", parsed)
	}
}

// renamed is a line in which all registers have their names.
func renamed(line string, names map[string]string) string {
	words := strings.Split(line, " ")
	for k, word := range words {
		if name, ok := names[word]; ok {
			words[k] = name
		}
	}
	return strings.Join(words, " ")
}
