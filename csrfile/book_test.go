package csrfile

import (
	"roebuck/api"
	"roebuck/csr"
	"roebuck/status"
)

// book is a hart's control registers as the chapter says them: a word by each CSR's name, and the counters that were written since the last turn.
type book struct {
	hart    int
	words   map[string]uint64
	written map[string]bool
}

// without is the CSRs that have no words of their own.
var without = map[string]bool{
	"sstatus": true, "sie": true, "sip": true, "misa": true, "cycle": true, "instret": true, "mhartid": true,
	"time": true, "shoot": true, "mvendorid": true, "marchid": true, "mimpid": true,
}

// opened is the book of a new file.
func opened(hart int) *book {
	b := &book{hart: hart, words: map[string]uint64{}, written: map[string]bool{}}
	for _, name := range csr.All() {
		if !without[name] {
			b.words[name] = 0
		}
	}
	b.words["mstatus"] = 8589934592 + 34359738368
	return b
}

// clone is a copy that does not hang on b.
func (b *book) clone() *book {
	out := &book{hart: b.hart, words: map[string]uint64{}, written: map[string]bool{}}
	for name, w := range b.words {
		out.words[name] = w
	}
	for name := range b.written {
		out.written[name] = true
	}
	return out
}

// same tells whether two books agree in everything.
func (b *book) same(o *book) bool {
	for name, w := range b.words {
		if o.words[name] != w {
			return false
		}
	}
	return b.hart == o.hart && b.written["mcycle"] == o.written["mcycle"] && b.written["minstret"] == o.written["minstret"]
}

// bit is bit i of a word.
func bit(w uint64, i int) bool {
	for range i {
		w /= 2
	}
	return w%2 == 1
}

// made is the word whose bits a function tells.
func made(is func(i int) bool) uint64 {
	var w, worth uint64 = 0, 1
	for i := range 64 {
		if is(i) {
			w += worth
		}
		worth *= 2
	}
	return w
}

// counts tells whether a line counts.
func counts(i int) bool {
	return i == 3 || i == 7 || i == 9 || i == 11
}

// get is what a CSR is.
func (b *book) get(n int, lines uint64) uint64 {
	w := b.words
	pending := func(i int) bool { return bit(w["mip"], i) || counts(i) && bit(lines, i) }
	switch name := csr.Name(n); name {
	case "sstatus":
		return status.View(w["mstatus"])
	case "sie":
		return made(func(i int) bool { return bit(w["mie"], i) && bit(w["mideleg"], i) })
	case "sip":
		return made(func(i int) bool { return pending(i) && bit(w["mideleg"], i) })
	case "mip":
		return made(pending)
	case "misa":
		return 9223372036856090881
	case "cycle", "instret":
		return w["m"+name]
	case "mhartid":
		return uint64(b.hart)
	default:
		return w[name]
	}
}

// set writes into a CSR.
func (b *book) set(n int, v uint64) {
	w := b.words
	switch name := csr.Name(n); name {
	case "sstatus":
		w["mstatus"] = status.Lay(w["mstatus"], v)
	case "sie":
		old := w["mie"]
		w["mie"] = made(func(i int) bool {
			if bit(w["mideleg"], i) {
				return bit(v, i)
			}
			return bit(old, i)
		})
	case "sip":
		old := w["mip"]
		w["mip"] = made(func(i int) bool {
			if i == 1 && bit(w["mideleg"], 1) {
				return bit(v, 1)
			}
			return bit(old, i)
		})
	case "mcycle", "minstret":
		w[name] = v
		b.written[name] = true
	default:
		if _, kept := w[name]; kept {
			w[name] = csr.Legal(n, w[name], v)
		}
	}
}

// may tells whether a CSR can be read, or written.
func (b *book) may(n int, priv api.Priv, write bool) bool {
	w := b.words
	if n == 384 && priv == 1 && bit(w["mstatus"], 20) {
		return false
	}
	for i, counter := range []string{"cycle", "time", "instret"} {
		if csr.Name(n) == counter && (priv < 3 && !bit(w["mcounteren"], i) || priv == 0 && !bit(w["scounteren"], i)) {
			return false
		}
	}
	return csr.May(n, priv, write)
}

// writes tells whether an op of the class Csr writes.
func writes(op api.Op, rs1 int) bool {
	switch op {
	case api.Csrrw, api.Csrrwi:
		return true
	case api.Csrrs, api.Csrrc, api.Csrrsi, api.Csrrci:
		return rs1 != 0
	}
	return false
}

// do does an instruction.
func (b *book) do(x api.Insn, v, lines uint64) uint64 {
	n := x.Csr
	was, alone := b.get(n, lines), b.get(n, 0)
	if !writes(x.Op, x.Rs1) {
		if x.Op < api.Csrrw || x.Op > api.Csrrci {
			return 0
		}
		return was
	}
	switch x.Op {
	case api.Csrrw, api.Csrrwi:
		b.set(n, v)
	case api.Csrrs, api.Csrrsi:
		b.set(n, made(func(i int) bool { return bit(alone, i) || bit(v, i) }))
	default:
		b.set(n, made(func(i int) bool { return bit(alone, i) && !bit(v, i) }))
	}
	return was
}

// turn has the counters go on.
func (b *book) turn(retired bool) {
	for _, name := range []string{"mcycle", "minstret"} {
		if !b.written[name] && (name == "mcycle" || retired) {
			b.words[name]++
		}
	}
	b.written = map[string]bool{}
}
