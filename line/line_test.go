package line

import (
	"bytes"
	"math"
	"math/big"
	"math/rand/v2"
	"testing"
)

// ones is a variable so that it may be shifted beyond its end.
var ones = ^uint64(0)

// places are numbers of all sizes for where a number is and how many bytes it has.
func places() []int {
	out := []int{math.MinInt, math.MinInt + 1, math.MinInt + 63, math.MinInt + 64, -1 << 32, -1000, 1000, 1 << 32, 1<<32 + 1, 1 << 62, math.MaxInt - 64, math.MaxInt - 7, math.MaxInt - 1, math.MaxInt}
	for n := -70; n <= 130; n++ {
		out = append(out, n)
	}
	return out
}

// words are edges of words and some words between them, the same ones every time.
func words() []uint64 {
	out := []uint64{0, 1, 255, 256, 513, 131071, 1<<32 - 1, 1 << 32, 1<<56 - 1, 1 << 56, 1 << 63, ones, 0x0123456789abcdef, 0xaaaaaaaaaaaaaaaa}
	r := rand.New(rand.NewPCG(9, 1))
	for range 6 {
		out = append(out, r.Uint64(), r.Uint64()>>r.IntN(64))
	}
	return out
}

// counted is the line whose byte i is i plus from.
func counted(from int) Line {
	var l Line
	for i := range l {
		l[i] = byte(i + from)
	}
	return l
}

// samples are lines of one byte, of all bytes, and of bytes between, the same ones every time.
func samples() []Line {
	out := []Line{{}, counted(0), counted(1), counted(200)}
	var full, first, last, random Line
	r := rand.New(rand.NewPCG(9, 2))
	for i := range full {
		full[i], random[i] = 255, byte(r.Uint32())
	}
	first[0], last[63] = 128, 1
	return append(out, full, first, last, random)
}

// exist tells whether the bytes from at to at + n - 1 are bytes of a line, in numbers of any size.
func exist(at, n int) bool {
	end := new(big.Int).Add(big.NewInt(int64(at)), big.NewInt(int64(n)))
	return at >= 0 && end.Cmp(big.NewInt(64)) <= 0
}

// isNumber tells whether there is a number there, by the chapter's words.
func isNumber(at, n int) bool {
	return n >= 1 && n <= 8 && exist(at, n)
}

// slowGet is the sum of the bytes, each one times the next power of 256.
func slowGet(l Line, at, n int) uint64 {
	sum, power := new(big.Int), big.NewInt(1)
	for _, b := range l[at : at+n] {
		sum.Add(sum, new(big.Int).Mul(big.NewInt(int64(b)), power))
		power = new(big.Int).Mul(power, big.NewInt(256))
	}
	return sum.Uint64()
}

// slowPut divides the number by 256, again and again: the remainders are its bytes.
func slowPut(l Line, at, n int, v uint64) Line {
	for i := at; i < at+n; i++ {
		l[i], v = byte(v%256), v/256
	}
	return l
}

// slowLanes is one byte's bit after the other.
func slowLanes(at, n int) uint64 {
	var lanes uint64
	for i := range 64 {
		from := new(big.Int).Sub(big.NewInt(int64(i)), big.NewInt(int64(at)))
		if from.Sign() >= 0 && from.Cmp(big.NewInt(int64(n))) < 0 {
			lanes |= 1 << i
		}
	}
	return lanes
}

// P9.1: the line of bytes; what is missing is 0, and what is too much does not count.
func TestOf(t *testing.T) {
	all := make([]byte, 200)
	for i := range all {
		all[i] = byte(i + 1)
	}
	for n := range len(all) {
		l := Of(all[:n])
		for i, b := range l {
			want := byte(0)
			if i < n {
				want = all[i]
			}
			if b != want {
				t.Fatalf("Of %d bytes: byte %d is %d, want %d", n, i, b, want)
			}
		}
	}
	if Of(nil) != (Line{}) || Of([]byte{}) != (Line{}) {
		t.Fatal("no bytes")
	}
}

// P9.1: the bytes stay as they are, those behind the end of the slice too, and the line does not hang on them.
func TestOfLeavesItsArgument(t *testing.T) {
	all := bytes.Repeat([]byte{7}, 80)
	l := Of(all[:10])
	if !bytes.Equal(all, bytes.Repeat([]byte{7}, 80)) {
		t.Fatal("changed", all)
	}
	all[0] = 9
	if l[0] != 7 {
		t.Fatal("shared", l[0])
	}
	l[1] = 9
	if all[1] != 7 {
		t.Fatal("shared", all[1])
	}
}

// P9.1, P9.3: the chapter's examples.
func TestGetExamples(t *testing.T) {
	l := Of([]byte{1, 2, 3})
	if v, ok := l.Get(0, 2); v != 513 || !ok {
		t.Error(v, ok)
	}
	if v, ok := l.Get(0, 8); v != 0x030201 || !ok {
		t.Error(v, ok)
	}
	if v, ok := l.Get(63, 2); v != 0 || ok {
		t.Error(v, ok)
	}
	if v, ok := counted(1).Get(57, 8); v != 0 || ok {
		t.Error(v, ok)
	}
	if v, ok := counted(0).Get(56, 8); v != 0x3f3e3d3c3b3a3938 || !ok {
		t.Error(v, ok)
	}
	if v, ok := counted(0).Get(63, 1); v != 63 || !ok {
		t.Error(v, ok)
	}
}

// P9.1: numbers at all places and of all sizes; 0 and false where there is none.
func TestGet(t *testing.T) {
	for _, l := range samples() {
		for _, at := range places() {
			for _, n := range places() {
				want, is := uint64(0), isNumber(at, n)
				if is {
					want = slowGet(l, at, n)
				}
				if v, ok := l.Get(at, n); v != want || ok != is {
					t.Fatalf("Get(%d, %d): got %d %v, want %d %v", at, n, v, ok, want, is)
				}
			}
		}
	}
}

// P9.1, P9.2: the chapter's example.
func TestPutExample(t *testing.T) {
	for _, l := range []Line{{}, counted(0)} {
		m, ok := l.Put(4, 2, 131071)
		if !ok || m[4] != 255 || m[5] != 255 || m[6] != l[6] || m[3] != l[3] || l.Diff(m) != 48 {
			t.Error(m, ok)
		}
	}
}

// P9.1: a changed number, and the unchanged line and false where there is none; the line itself stays.
func TestPut(t *testing.T) {
	for _, l := range samples() {
		before := l
		for _, at := range places() {
			for _, n := range places() {
				for _, v := range []uint64{0, 131071, ones, 0x0123456789abcdef} {
					want, is := l, isNumber(at, n)
					if is {
						want = slowPut(l, at, n, v)
					}
					if m, ok := l.Put(at, n, v); m != want || ok != is {
						t.Fatalf("Put(%d, %d, %d): got %v %v, want %v %v", at, n, v, m, ok, want, is)
					}
				}
			}
		}
		if l != before {
			t.Fatal("Put changed its line")
		}
	}
}

// P9.1: the eight numbers of 8 bytes, the one from byte 0 on first.
func TestWords(t *testing.T) {
	want := [8]uint64{
		0x0706050403020100, 0x0f0e0d0c0b0a0908, 0x1716151413121110, 0x1f1e1d1c1b1a1918,
		0x2726252423222120, 0x2f2e2d2c2b2a2928, 0x3736353433323130, 0x3f3e3d3c3b3a3938,
	}
	if got := counted(0).Words(); got != want {
		t.Fatal(got)
	}
	for _, l := range samples() {
		for i, w := range l.Words() {
			if w != slowGet(l, 8*i, 8) {
				t.Fatal(i, w)
			}
		}
	}
}

// P9.2, P9.3: the chapter's examples, and lanes at and over the edges.
func TestLanesExamples(t *testing.T) {
	for _, x := range []struct {
		at, n int
		want  uint64
	}{
		{60, 8, 15 << 60}, {4, 2, 48}, {0, 1, 1}, {63, 1, 1 << 63}, {0, 64, ones}, {0, 65, ones}, {64, 1, 0}, {0, 0, 0}, {3, -1, 0},
		{-1, 1, 0}, {-1, 2, 1}, {-4, 8, 15}, {-10, math.MaxInt, ones}, {60, math.MaxInt, 15 << 60},
		{math.MaxInt, math.MaxInt, 0}, {math.MinInt, math.MaxInt, 0}, {math.MinInt, math.MinInt, 0}, {5, math.MinInt, 0},
	} {
		if got := Lanes(x.at, x.n); got != x.want {
			t.Errorf("Lanes(%d, %d): got %d, want %d", x.at, x.n, got, x.want)
		}
	}
}

// P9.2: lanes of any place and number, as far as the bytes exist.
func TestLanes(t *testing.T) {
	for _, at := range places() {
		for _, n := range places() {
			if got, want := Lanes(at, n), slowLanes(at, n); got != want {
				t.Fatalf("Lanes(%d, %d): got %d, want %d", at, n, got, want)
			}
		}
	}
}

// P9.2: the bytes of the lanes are the other line's, and all others stay.
func TestBlend(t *testing.T) {
	masks := words()
	for i := range 64 {
		masks = append(masks, 1<<i, ones<<i)
	}
	for _, l := range samples() {
		for _, o := range samples() {
			for _, lanes := range masks {
				got := l.Blend(o, lanes)
				for i := range got {
					want := l[i]
					if lanes>>i&1 == 1 {
						want = o[i]
					}
					if got[i] != want {
						t.Fatalf("Blend with %d: byte %d is %d, want %d", lanes, i, got[i], want)
					}
				}
			}
		}
	}
}

// P9.2: neither of the two lines is changed.
func TestBlendLeavesItsLines(t *testing.T) {
	l, o := counted(0), counted(100)
	if got := l.Blend(o, ones); got != o || l != counted(0) || o != counted(100) {
		t.Fatal(got, l, o)
	}
}

// P9.2: a lane for each byte that differs, by one bit or by all.
func TestDiff(t *testing.T) {
	for _, l := range samples() {
		if l.Diff(l) != 0 {
			t.Fatal("differs from itself", l)
		}
		for i := range 64 {
			for _, bit := range []byte{1, 128, 255} {
				o := l
				o[i] ^= bit
				if got := l.Diff(o); got != 1<<i {
					t.Fatalf("byte %d: %d", i, got)
				}
				o[63-i] ^= bit
				if got, back := l.Diff(o), o.Diff(l); got != 1<<i|1<<(63-i) || back != got {
					t.Fatalf("bytes %d and %d: %d %d", i, 63-i, got, back)
				}
			}
		}
	}
}

// P9.3: Get returns what was Put, and Put changes no other byte.
func TestGetReturnsWhatWasPut(t *testing.T) {
	for _, l := range samples() {
		for n := 1; n <= 8; n++ {
			for at := 0; at+n <= 64; at++ {
				for _, v := range words() {
					m, ok := l.Put(at, n, v)
					got, is := m.Get(at, n)
					if !ok || !is || got != v&(ones>>(64-8*n)) || l.Diff(m)&^Lanes(at, n) != 0 {
						t.Fatalf("Put(%d, %d, %d): got %d", at, n, v, got)
					}
				}
			}
		}
	}
}

// P9.3: blending with the mask of the differences gives the other line.
func TestBlendWithDifferences(t *testing.T) {
	for _, l := range samples() {
		for _, o := range samples() {
			if l.Blend(o, l.Diff(o)) != o {
				t.Fatal(l, o)
			}
		}
	}
}
