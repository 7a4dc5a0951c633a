package status

import "roebuck/api"

// book is mstatus as the chapter says it: fields by their names, and all other bits as they are.
type book struct {
	sie, mie, spie, mpie, spp        bool
	mpp                              int
	mprv, sum, mxr, tvm, tw, tsr, up bool
	rest                             uint64
}

// flags is the fields of one bit, each with what its bit is worth.
func (b *book) flags() map[uint64]*bool {
	return map[uint64]*bool{
		2: &b.sie, 8: &b.mie, 32: &b.spie, 128: &b.mpie, 256: &b.spp,
		131072: &b.mprv, 262144: &b.sum, 524288: &b.mxr, 1048576: &b.tvm, 2097152: &b.tw, 4194304: &b.tsr, 8589934592: &b.up,
	}
}

// read is the book of a word.
func read(w uint64) book {
	var b book
	b.mpp = int(w / 2048 % 4)
	b.rest = w - uint64(b.mpp)*2048
	for worth, f := range b.flags() {
		if w/worth%2 == 1 {
			*f = true
			b.rest -= worth
		}
	}
	return b
}

// word is the word of a book.
func (b book) word() uint64 {
	w := b.rest + uint64(b.mpp)*2048
	for worth, f := range b.flags() {
		if *f {
			w += worth
		}
	}
	return w
}

// known tells whether a number is User, Super or Machine.
func known(p api.Priv) bool {
	return p == 0 || p == 1 || p == 3
}

// enter is a trap that enters.
func (b book) enter(from, to api.Priv) book {
	switch {
	case !known(from):
	case to == 3:
		b.mpie, b.mie, b.mpp = b.mie, false, int(from)
	case to == 1:
		b.spie, b.sie, b.spp = b.sie, false, from == 1
	}
	return b
}

// past is the privilege that MPP is.
func (b book) past() api.Priv {
	return [4]api.Priv{api.User, api.Super, api.User, api.Machine}[b.mpp]
}

// leave is a return.
func (b book) leave(at api.Priv) (book, api.Priv) {
	to := api.User
	switch at {
	case 3:
		to = b.past()
		b.mie, b.mpie, b.mpp = b.mpie, true, 0
		b.mprv = b.mprv && to == api.Machine
	case 1:
		if b.spp {
			to = api.Super
		}
		b.sie, b.spie, b.spp, b.mprv = b.spie, true, false, false
	}
	return b, to
}

// view is what a supervisor sees.
func (b book) view() book {
	return book{sie: b.sie, spie: b.spie, spp: b.spp, sum: b.sum, mxr: b.mxr, up: b.up}
}

// lay is what a supervisor writes: the same fields but bit 33, which can't be written.
func (b book) lay(v book) book {
	b.sie, b.spie, b.spp, b.sum, b.mxr = v.sie, v.spie, v.spp, v.sum, v.mxr
	return b
}

// data is the privilege of loads and stores.
func (b book) data(p api.Priv) api.Priv {
	if p == api.Machine && b.mprv {
		return b.past()
	}
	return p
}

// lets is whether an interrupt may enter.
func (b book) lets(p, to api.Priv) bool {
	switch to {
	case 3:
		return p < 3 || p == 3 && b.mie
	case 1:
		return p < 1 || p == 1 && b.sie
	}
	return false
}

// has is the fields that have names.
func (b book) has() map[string]bool {
	return map[string]bool{
		"sie": b.sie, "mie": b.mie, "spie": b.spie, "mpie": b.mpie, "spp": b.spp,
		"mprv": b.mprv, "sum": b.sum, "mxr": b.mxr, "tvm": b.tvm, "tw": b.tw, "tsr": b.tsr,
	}
}
