// Package bits is layer 1: see shared/doc/01-bits.md.
package bits

// mask is a word whose lowest size bits are 1.
func mask(size int) uint64 {
	if size < 1 {
		return 0
	}
	if size > 63 {
		return ^uint64(0)
	}
	return uint64(1)<<uint(size) - 1
}

// raise moves bit 0 of a word to bit at; below 0 it goes down.
// The negation of the least int is itself, which as a uint still moves every bit out.
func raise(w uint64, at int) uint64 {
	if at < 0 {
		return w >> uint(-at)
	}
	return w << uint(at)
}

// lower moves bit at of a word to bit 0; a bit below 0 does not exist, so the word goes up.
func lower(w uint64, at int) uint64 {
	if at < 0 {
		return w << uint(-at)
	}
	return w >> uint(at)
}

// Ones is a word whose bits of a field are 1.
func Ones(at, size int) uint64 {
	if size < 1 {
		return 0
	}
	if at < 0 {
		// A size of at least 1 and a place below 0 have a sum that fits an int.
		return mask(at + size)
	}
	return raise(mask(size), at)
}

// Cut is a field as a number.
func Cut(w uint64, at, size int) uint64 {
	return lower(w, at) & mask(size)
}

// Put is a word with a field changed.
func Put(w uint64, at, size int, n uint64) uint64 {
	field := Ones(at, size)
	return w&^field | raise(n, at)&field
}

// Low is a word's lowest bits.
func Low(w uint64, size int) uint64 {
	return Cut(w, 0, size)
}

// Sign is a word's lowest bits with their sign.
func Sign(w uint64, size int) uint64 {
	if size < 1 {
		return 0
	}
	if size > 63 {
		return w
	}
	above := uint(64 - size)
	return uint64(int64(w<<above) >> above)
}

// Word is the lowest 32 bits with their sign.
func Word(w uint64) uint64 {
	return Sign(w, 32)
}

// Less tells whether a number with a sign is less than another one.
func Less(a, b uint64) bool {
	return int64(a) < int64(b)
}

// Sll shifts left.
func Sll(w, n uint64) uint64 {
	return w << (n & 63)
}

// Srl shifts right.
func Srl(w, n uint64) uint64 {
	return w >> (n & 63)
}

// Sra shifts right with the sign.
func Sra(w, n uint64) uint64 {
	return uint64(int64(w) >> (n & 63))
}

// Sllw shifts left, of 32 bits.
func Sllw(w, n uint64) uint64 {
	return Word(w << (n & 31))
}

// Srlw shifts right, of 32 bits.
func Srlw(w, n uint64) uint64 {
	return Word(Low(w, 32) >> (n & 31))
}

// Sraw shifts right with the sign, of 32 bits.
func Sraw(w, n uint64) uint64 {
	return Sra(Word(w), n&31)
}

// Gather is fields of a word, put together, the first one the highest.
func Gather(w uint64, parts ...[2]int) uint64 {
	var sum uint64
	for _, part := range parts {
		at, size := part[0], part[1]
		// A field without bits adds nothing, so a size below 0 must not shift down.
		sum = raise(sum, max(size, 0)) | Cut(w, at, size)
	}
	return sum
}
