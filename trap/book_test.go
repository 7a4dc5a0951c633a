package trap

import (
	"testing"

	"roebuck/api"
	"roebuck/cause"
	"roebuck/csr"
	"roebuck/csrfile"
)

// book is a hart's control registers as they are read, by their names; without lines.
type book map[string]uint64

// read is the book of a file.
func read(f *csrfile.File) book {
	b := book{}
	for n, name := range csr.All() {
		b[name] = f.Get(n, 0)
	}
	return b
}

// bit is bit i of a word.
func bit(w uint64, i int) bool {
	for range i {
		w /= 2
	}
	return w%2 == 1
}

// with is a word whose bit i is on, or off.
func with(w uint64, i int, on bool) uint64 {
	worth := uint64(1)
	for range i {
		worth *= 2
	}
	switch {
	case on && !bit(w, i):
		return w + worth
	case !on && bit(w, i):
		return w - worth
	}
	return w
}

// even is an address whose bits 0 and 1 are cleared.
func even(w uint64) uint64 {
	return w / 4 * 4
}

// code is a cause's code as words hold it.
func code(c cause.Cause) uint64 {
	if c.Code < 0 || c.Code > 63 {
		return 0
	}
	return uint64(c.Code)
}

// leads is where a cause leads.
func leads(tvec uint64, c cause.Cause) uint64 {
	if c.Interrupt && tvec%2 == 1 {
		return even(tvec) + code(c) + code(c) + code(c) + code(c)
	}
	return even(tvec)
}

// handler is the first letter of the CSRs of who handles a cause.
func (b book) handler(c cause.Cause, priv api.Priv) string {
	words := map[bool]uint64{false: b["medeleg"], true: b["mideleg"]}
	if priv == 3 || c.Code < 0 || c.Code > 63 || !bit(words[c.Interrupt], c.Code) {
		return "m"
	}
	return "s"
}

// privs are the privileges by the first letters of their CSRs.
var privs = map[string]api.Priv{"m": api.Machine, "s": api.Super}

// enter is a trap: the book is the one behind it.
func (b book) enter(c cause.Cause, priv api.Priv, pc, tval uint64) (api.Priv, uint64) {
	at := b.handler(c, priv)
	b[at+"epc"] = even(pc)
	b[at+"cause"] = with(code(c), 63, c.Interrupt)
	b[at+"tval"] = tval
	if priv == 0 || priv == 1 || priv == 3 {
		b.push(at, priv)
	}
	b.look()
	return privs[at], leads(b[at+"tvec"], c)
}

// push is what a trap makes of mstatus.
func (b book) push(at string, priv api.Priv) {
	w := b["mstatus"]
	if at == "s" {
		w = with(w, 5, bit(w, 1))
		w = with(w, 1, false)
		w = with(w, 8, priv == 1)
	} else {
		w = with(w, 7, bit(w, 3))
		w = with(w, 3, false)
		w = with(w, 11, priv == 1 || priv == 3)
		w = with(w, 12, priv == 3)
	}
	b["mstatus"] = w
}

// leave is a return: the book is the one behind it.
func (b book) leave(at string) (api.Priv, uint64) {
	w := b["mstatus"]
	to := api.User
	if at == "s" {
		if bit(w, 8) {
			to = api.Super
		}
		w = with(w, 1, bit(w, 5))
		w = with(w, 5, true)
		w = with(w, 8, false)
	} else {
		to = [4]api.Priv{0, 1, 0, 3}[w/2048%4]
		w = with(w, 3, bit(w, 7))
		w = with(w, 7, true)
		w = with(with(w, 11, false), 12, false)
	}
	b["mstatus"] = with(w, 17, bit(w, 17) && to == 3)
	b.look()
	return to, b[at+"epc"]
}

// look brings sstatus, which is made of mstatus, up to date.
func (b book) look() {
	var w uint64
	for _, i := range []int{1, 5, 8, 18, 19, 33} {
		w = with(w, i, bit(b["mstatus"], i))
	}
	b["sstatus"] = w
}

// agree holds a file against a book.
func agree(t *testing.T, f *csrfile.File, b book) {
	t.Helper()
	for n, name := range csr.All() {
		if got := f.Get(n, 0); got != b[name] {
			t.Fatalf("%s: %x, want %x", name, got, b[name])
		}
	}
}
