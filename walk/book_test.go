package walk

import "roebuck/api"

// tale is how a walk stands: what it searches, what it requests at which level, or how it ended, and how often it started again.
type tale struct {
	quest Quest
	ask   api.Ask
	goes  bool
	level int
	end   int
	entry api.Entry
	again int
}

// sizes are the bytes of a page, by the level.
var sizes = [3]uint64{4096, 4096 * 512, 4096 * 512 * 512}

// flag tells whether a bit of a word is 1.
func flag(w uint64, number int) bool {
	for range number {
		w /= 2
	}
	return w%2 == 1
}

// frames is the number of frames that an address or an entry may name.
const frames = 1 << 44

// isValid tells whether a virtual address is valid.
func isValid(va uint64) bool {
	for i := 39; i < 64; i++ {
		if flag(va, i) != flag(va, 38) {
			return false
		}
	}
	return true
}

// isThere tells whether eight bytes are in a memory.
func isThere(lines int, addr uint64) bool {
	if lines < 1 || lines > 4096 {
		return false
	}
	for i := range uint64(8) {
		at, in := addr+i, false
		if at >= 0x80000000 {
			in = (at-0x80000000)/64 < uint64(lines)
		}
		if !in {
			return false
		}
	}
	return true
}

// sort is what an entry is at a level: 0 invalid, 1 a table, 2 a leaf.
func sort(p uint64, level int) int {
	v, r, w, x := flag(p, 0), flag(p, 1), flag(p, 2), flag(p, 3)
	if !v || w && !r || p/(1<<54) != 0 {
		return 0
	}
	if r || x {
		if p/1024%frames%(sizes[level]/4096) != 0 {
			return 0
		}
		return 2
	}
	if level == 0 || flag(p, 4) || flag(p, 6) || flag(p, 7) {
		return 0
	}
	return 1
}

// permits tells whether a leaf permits what a walk searches it for.
func permits(q Quest, p uint64) bool {
	r, w, x, u := flag(p, 1), flag(p, 2), flag(p, 3), flag(p, 4)
	if q.Priv == 0 {
		if !u {
			return false
		}
	} else if u && (!q.Sum || q.Access == 0) {
		return false
	}
	switch q.Access {
	case 0:
		return x
	case 1:
		return r || q.Mxr && x
	case 2:
		return w
	}
	return false
}

// stamp is a leaf, marked for an access.
func stamp(p uint64, access int) uint64 {
	if !flag(p, 6) {
		p += 64
	}
	if access == 2 && !flag(p, 7) {
		p += 128
	}
	return p
}

// over is the tale of a walk that found a leaf.
func (t tale) over(level int, p uint64) tale {
	t.end = 1
	t.entry.Page = t.quest.Va / sizes[level] * sizes[level]
	t.entry.Level = level
	t.entry.Pte = p
	return t
}

// asks is the tale of a walk that requests something.
func (t tale) asks(level int, a api.Ask) tale {
	a.Size = 8
	t.goes, t.level, t.ask = true, level, a
	return t
}

// tell is how a walk stands by the chapter's words after these responses: all of it from the beginning. Responses that are left over count for nothing.
func tell(q Quest, answers []api.Answer) tale {
	t := tale{quest: q}
	if !isValid(q.Va) {
		t.end = 2
		return t
	}
	for table, level := q.Root, 2; ; {
		addr := table%frames*4096 + q.Va/sizes[level]%512*8
		if !isThere(q.Lines, addr) {
			t.end = 3
			return t
		}
		if len(answers) == 0 {
			return t.asks(level, api.Ask{Kind: api.Walk, Addr: addr})
		}
		p := answers[0].Data
		answers = answers[1:]
		kind := sort(p, level)
		if kind == 1 {
			table, level = p/1024%frames, level-1
			continue
		}
		if kind == 0 || !permits(q, p) {
			t.end = 2
			return t
		}
		marked := stamp(p, q.Access)
		if marked == p {
			return t.over(level, p)
		}
		if len(answers) == 0 {
			return t.asks(level, api.Ask{Kind: api.Mark, Addr: addr, Old: p, Data: marked})
		}
		good := answers[0].Good
		answers = answers[1:]
		if good {
			return t.over(level, marked)
		}
		t.again++
		table, level = q.Root, 2
	}
}
