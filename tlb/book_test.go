package tlb

import "roebuck/api"

// sizes are the bytes of a page, by the level.
var sizes = [3]uint64{4096, 4096 * 512, 4096 * 512 * 512}

// isGlobal tells whether a translation belongs to all address spaces.
func isGlobal(e api.Entry) bool {
	return e.Pte/32%2 == 1
}

// covers tells whether an address is in the page of a translation.
func covers(e api.Entry, va uint64) bool {
	return va/sizes[e.Level] == e.Page/sizes[e.Level]
}

// isSameKey tells whether two translations have the same key.
func isSameKey(a, b api.Entry) bool {
	if isGlobal(a) != isGlobal(b) || a.Level != b.Level || !covers(a, b.Page) {
		return false
	}
	return isGlobal(a) || a.Asid == b.Asid
}

// removes tells whether a flush by a request removes a translation.
func removes(r api.Req, e api.Entry) bool {
	switch {
	case !r.Set:
		return false
	case !r.ByVa && !r.ByAsid:
		return true
	case r.ByVa && !covers(e, r.Va):
		return false
	case r.ByAsid && isGlobal(e):
		return false
	}
	return !r.ByAsid || r.Asid == e.Asid
}

// book is a cache as the chapter's words have it: the translations, oldest first.
type book struct {
	size int
	list []api.Entry
}

// without takes the translations away that are such, and tells how many these were.
func (b *book) without(is func(e api.Entry) bool) int {
	var rest []api.Entry
	for _, e := range b.list {
		if !is(e) {
			rest = append(rest, e)
		}
	}
	n := len(b.list) - len(rest)
	b.list = rest
	return n
}

// add adds a translation.
func (b *book) add(e api.Entry) bool {
	if e.Level < 0 || e.Level > 2 || e.Asid < 0 || e.Asid > 65535 {
		return false
	}
	if b.without(func(o api.Entry) bool { return isSameKey(o, e) }) == 0 && len(b.list) == b.size {
		b.list = b.list[1:]
	}
	e.Page -= e.Page % sizes[e.Level]
	b.list = append(b.list[:len(b.list):len(b.list)], e)
	return true
}

// find is the translation of an address: of all that apply, it takes the one that is before the others.
func (b *book) find(asid int, va uint64) (api.Entry, bool) {
	var best api.Entry
	found := false
	for _, e := range b.list {
		applies := covers(e, va) && (isGlobal(e) || e.Asid == asid)
		before := !found || e.Level < best.Level || e.Level == best.Level && isGlobal(best) && !isGlobal(e)
		if applies && before {
			best, found = e, true
		}
	}
	return best, found
}

// forget flushes by a request.
func (b *book) forget(r api.Req) int {
	return b.without(func(e api.Entry) bool { return removes(r, e) })
}
