package irq

import (
	"roebuck/api"
	"roebuck/cause"
	"roebuck/csr"
	"roebuck/csrfile"
)

// bits is a set of bits by their numbers.
type bits map[int]bool

// spell is a word as a set of bits.
func spell(w uint64) bits {
	b := bits{}
	for i := range 64 {
		if w%2 == 1 {
			b[i] = true
		}
		w /= 2
	}
	return b
}

// book is what the chapter looks at: the words of a file as sets.
type book struct {
	mip, mie, mideleg bits
	permits           map[api.Priv]bool
}

// read is the book of a file.
func read(f *csrfile.File) book {
	w := spell(f.Get(csr.Mstatus, 0))
	return book{
		mip:     spell(f.Get(csr.Mip, 0)),
		mie:     spell(f.Get(csr.Mie, 0)),
		mideleg: spell(f.Get(csr.Mideleg, 0)),
		permits: map[api.Priv]bool{api.Super: w[1], api.Machine: w[3]},
	}
}

// waiting is what is pending.
func (b book) waiting(lines uint64) bits {
	on := spell(lines)
	out := bits{}
	for _, i := range []int{3, 7, 9, 11} {
		if on[i] && b.mie[i] {
			out[i] = true
		}
	}
	for i := range b.mip {
		if b.mie[i] {
			out[i] = true
		}
	}
	return out
}

// lets tells whether an interrupt may enter a privilege.
func (b book) lets(priv, to api.Priv) bool {
	return priv < to || priv == to && b.permits[to]
}

// next is the interrupt that is taken.
func (b book) next(priv api.Priv, lines uint64) (cause.Cause, bool) {
	waiting := b.waiting(lines)
	for _, to := range []api.Priv{3, 1} {
		for _, i := range []int{11, 3, 7, 9, 1, 5} {
			if waiting[i] && b.mideleg[i] == (to == 1) && b.lets(priv, to) {
				return cause.Cause{Interrupt: true, Code: i}, true
			}
		}
	}
	return cause.Cause{}, false
}
