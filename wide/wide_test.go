package wide

import (
	"math/big"
	"math/rand/v2"
	"testing"
)

const top = uint64(1) << 63

// ones is a variable so that it may be shifted beyond its end.
var ones = ^uint64(0)

// words are the edges of words and some words between them, the same ones every time.
func words() []uint64 {
	out := []uint64{
		0, 1, 2, 3, 6, 7, 10, 1<<31 - 1, 1 << 31, 1<<31 + 1, 1<<32 - 1, 1 << 32, 1<<32 + 1, 1<<33 + 5,
		top - 1, top, top + 1, ones - 6, ones - 2, ones - 1, ones, ones << 31, ones << 32, 0x5555555555555555, 0xaaaaaaaaaaaaaaaa,
	}
	r := rand.New(rand.NewPCG(3, 4))
	for range 20 {
		out = append(out, r.Uint64(), r.Uint64()>>r.IntN(64), ones<<r.IntN(64))
	}
	return out
}

// wides are wide numbers of which both words are edges.
func wides() []Wide {
	edges := []uint64{0, 1, 2, 9, top - 1, top, top + 1, ones - 1, ones, 0x0123456789abcdef}
	var out []Wide
	for _, hi := range edges {
		for _, lo := range edges {
			out = append(out, Wide{Hi: hi, Lo: lo})
		}
	}
	return out
}

func plain(w uint64) *big.Int { return new(big.Int).SetUint64(w) }

// signed is the signed value of a word, by the chapter's words.
func signed(w uint64) *big.Int {
	n := plain(w)
	if w >= top {
		n.Sub(n, new(big.Int).Lsh(big.NewInt(1), 64))
	}
	return n
}

// word is a number of any size and sign, modulo 2^64.
func word(n *big.Int) uint64 {
	return new(big.Int).And(n, plain(ones)).Uint64()
}

// upper is the word above the lowest one, of a number of any size and sign.
func upper(n *big.Int) uint64 {
	return word(new(big.Int).Rsh(n, 64))
}

// whole is a wide number as a number.
func whole(w Wide) *big.Int {
	n := new(big.Int).Lsh(plain(w.Hi), 64)
	return n.Or(n, plain(w.Lo))
}

// cut is a number of any size and sign, modulo 2^128.
func cut(n *big.Int) Wide {
	return Wide{Hi: upper(n), Lo: word(n)}
}

func mul(a, b *big.Int) *big.Int { return new(big.Int).Mul(a, b) }

func is(t *testing.T, what string, got, want uint64, args ...any) {
	t.Helper()
	if got != want {
		t.Fatalf("%s %v: got %d, want %d", what, args, got, want)
	}
}

func isWide(t *testing.T, what string, got, want Wide, args ...any) {
	t.Helper()
	if got != want {
		t.Fatalf("%s %v: got %v, want %v", what, args, got, want)
	}
}

// P2.1
func TestTimes(t *testing.T) {
	isWide(t, "Times", Times(ones, ones), Wide{Hi: ones - 1, Lo: 1})
	isWide(t, "Times", Times(top, 6), Wide{Hi: 3})
	isWide(t, "Times", Times(0, ones), Wide{})
	for _, a := range words() {
		for _, b := range words() {
			isWide(t, "Times", Times(a, b), cut(mul(plain(a), plain(b))), a, b)
		}
	}
}

// P2.1
func TestPlus(t *testing.T) {
	isWide(t, "Plus", Wide{Lo: ones}.Plus(Wide{Lo: 1}), Wide{Hi: 1})
	isWide(t, "Plus", Wide{Hi: ones, Lo: ones}.Plus(Wide{Lo: 1}), Wide{})
	isWide(t, "Plus", Wide{Hi: 1, Lo: 2}.Plus(Wide{Hi: 3, Lo: 4}), Wide{Hi: 4, Lo: 6})
	for _, a := range wides() {
		for _, b := range wides() {
			isWide(t, "Plus", a.Plus(b), cut(new(big.Int).Add(whole(a), whole(b))), a, b)
		}
	}
}

// P2.1
func TestNeg(t *testing.T) {
	isWide(t, "Neg", Wide{}.Neg(), Wide{})
	isWide(t, "Neg", Wide{Lo: 1}.Neg(), Wide{Hi: ones, Lo: ones})
	isWide(t, "Neg", Wide{Hi: 1}.Neg(), Wide{Hi: ones})
	isWide(t, "Neg", Wide{Hi: top}.Neg(), Wide{Hi: top})
	for _, w := range wides() {
		isWide(t, "Neg", w.Neg(), cut(new(big.Int).Neg(whole(w))), w)
		isWide(t, "sum with Neg", w.Plus(w.Neg()), Wide{}, w)
	}
}

// P2.1
func TestOver(t *testing.T) {
	q, r, ok := Wide{Hi: 1}.Over(10)
	if !ok || q != (Wide{Lo: 1844674407370955161}) || r != 6 {
		t.Fatal("Over", q, r, ok)
	}
	for _, w := range wides() {
		for _, b := range words() {
			q, r, ok := w.Over(b)
			if b == 0 {
				if ok || q != (Wide{}) || r != 0 {
					t.Fatal("Over 0", w, q, r, ok)
				}
				continue
			}
			quotient, left := new(big.Int).QuoRem(whole(w), plain(b), new(big.Int))
			if !ok || q != cut(quotient) || r != word(left) {
				t.Fatal("Over", w, b, q, r, ok)
			}
		}
	}
}

// P2.1: the methods leave the number that they are called on as it is.
func TestWideIsAValue(t *testing.T) {
	w := Wide{Hi: 3, Lo: 4}
	w.Plus(Wide{Hi: 1, Lo: 1})
	w.Neg()
	w.Over(2)
	isWide(t, "after the calls", w, Wide{Hi: 3, Lo: 4})
}

// P2.2
func TestProducts(t *testing.T) {
	is(t, "Mul", Mul(ones, ones), 1)
	is(t, "High", High(ones, ones), 0)
	is(t, "High", High(top, top), 1<<62)
	is(t, "HighMixed", HighMixed(ones, ones), ones)
	is(t, "HighPlain", HighPlain(ones, ones), ones-1)
	for _, a := range words() {
		for _, b := range words() {
			is(t, "Mul", Mul(a, b), word(mul(plain(a), plain(b))), a, b)
			is(t, "High", High(a, b), upper(mul(signed(a), signed(b))), a, b)
			is(t, "HighMixed", HighMixed(a, b), upper(mul(signed(a), plain(b))), a, b)
			is(t, "HighPlain", HighPlain(a, b), upper(mul(plain(a), plain(b))), a, b)
		}
	}
}

// P2.3
func TestQuotientExamples(t *testing.T) {
	is(t, "Div", Div(ones-6, 2), ones-2)
	is(t, "Rem", Rem(ones-6, 2), ones)
	is(t, "Div", Div(7, ones-1), ones-2)
	is(t, "Rem", Rem(7, ones-1), 1)
	is(t, "Div", Div(top, ones), top)
	is(t, "Rem", Rem(top, ones), 0)
	is(t, "DivPlain", DivPlain(top, ones), 0)
	is(t, "RemPlain", RemPlain(top, ones), top)
	is(t, "DivPlain", DivPlain(ones, 2), top-1)
	is(t, "RemPlain", RemPlain(ones, 2), 1)
}

// P2.3: division by 0.
func TestDivideByZero(t *testing.T) {
	for _, a := range words() {
		is(t, "Div", Div(a, 0), ones, a)
		is(t, "DivPlain", DivPlain(a, 0), ones, a)
		is(t, "Rem", Rem(a, 0), a, a)
		is(t, "RemPlain", RemPlain(a, 0), a, a)
	}
}

// P2.3: quotients of any words, rounded towards 0, as big's Quo does.
func TestQuotients(t *testing.T) {
	for _, a := range words() {
		for _, b := range words() {
			if b == 0 {
				continue
			}
			q, r := new(big.Int).QuoRem(signed(a), signed(b), new(big.Int))
			is(t, "Div", Div(a, b), word(q), a, b)
			is(t, "Rem", Rem(a, b), word(r), a, b)
			q, r = new(big.Int).QuoRem(plain(a), plain(b), new(big.Int))
			is(t, "DivPlain", DivPlain(a, b), word(q), a, b)
			is(t, "RemPlain", RemPlain(a, b), word(r), a, b)
		}
	}
}

// P2.4
func TestShortExamples(t *testing.T) {
	is(t, "Short", Short(Div, false, 1<<31, ones), ones<<31)
	is(t, "Short", Short(DivPlain, true, 1<<32-1, 2), 1<<31-1)
	is(t, "Short", Short(DivPlain, true, ones, 1), ones)
	is(t, "Short", Short(Mul, false, 1<<32|3, 1<<40|5), 15)
	is(t, "Short", Short(Div, false, 5, 1<<32), ones)
	is(t, "Short", Short(Rem, false, 1<<31, 1<<32), ones<<31)
	is(t, "Short without an op", Short(nil, true, 1, 2), 0)
	is(t, "Short without an op", Short(nil, false, ones, ones), 0)
}

// P2.4: what the op is given, and which bits of its result come back.
func TestShort(t *testing.T) {
	for _, a := range words() {
		for _, b := range words() {
			for _, plain := range []bool{true, false} {
				extended := func(w uint64) uint64 {
					if plain {
						return uint64(uint32(w))
					}
					return uint64(int64(int32(w)))
				}
				calls := 0
				got := Short(func(x, y uint64) uint64 {
					calls++
					is(t, "first argument", x, extended(a), a, b, plain)
					is(t, "second argument", y, extended(b), a, b, plain)
					return a ^ b<<1
				}, plain, a, b)
				is(t, "Short", got, uint64(int64(int32(a^b<<1))), a, b, plain)
				is(t, "calls", uint64(calls), 1)
			}
		}
	}
}

// P2.5: quotient times divisor plus remainder is the dividend; an unsigned remainder is less than the divisor.
func TestQuotientsGoBack(t *testing.T) {
	for _, a := range words() {
		for _, b := range words() {
			is(t, "signed", Mul(Div(a, b), b)+Rem(a, b), a, a, b)
			is(t, "unsigned", Mul(DivPlain(a, b), b)+RemPlain(a, b), a, a, b)
			if b != 0 && RemPlain(a, b) >= b {
				t.Fatal("RemPlain", a, b)
			}
		}
	}
	for _, w := range wides() {
		for _, b := range words() {
			q, r, ok := w.Over(b)
			if !ok {
				continue
			}
			isWide(t, "wide", Times(q.Lo, b).Plus(Wide{Hi: q.Hi * b}).Plus(Wide{Lo: r}), w, w, b)
			if r >= b {
				t.Fatal("Over", w, b, r)
			}
		}
	}
}

// P2.5: the upper words differ by the effect of the signs.
func TestUpperWordsDifferBySigns(t *testing.T) {
	for _, a := range words() {
		for _, b := range words() {
			want := HighPlain(a, b)
			if a >= top {
				want -= b
			}
			is(t, "HighMixed", HighMixed(a, b), want, a, b)
			if b >= top {
				want -= a
			}
			is(t, "High", High(a, b), want, a, b)
		}
	}
}
