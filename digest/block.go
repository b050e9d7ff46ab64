package digest

// blockSize is how many bytes a digest takes at once, countSize how many at the end of the last block are kept for the bits' number.
const (
	blockSize = 64
	countSize = 8
)

type block [blockSize]byte

// eachBlock hands bytes over block by block, with what FIPS 180-4 lays behind them: a bit 1, bits 0, and in the last eight bytes how many bits there were, those of the bytes that went ahead included.
func eachBlock(ahead int, b []byte, take func(block)) {
	bits := (uint64(ahead) + uint64(len(b))) * 8
	for ; len(b) >= blockSize; b = b[blockSize:] {
		take(block(b[:blockSize]))
	}
	var last block
	n := copy(last[:], b)
	last[n] = 0x80
	if n >= blockSize-countSize {
		take(last)
		last = block{}
	}
	for i := range countSize {
		last[blockSize-1-i] = byte(bits >> (8 * i))
	}
	take(last)
}

// word is the i-th one of 32 bits.
func (m *block) word(i int) uint32 {
	return uint32(m[4*i])<<24 | uint32(m[4*i+1])<<16 | uint32(m[4*i+2])<<8 | uint32(m[4*i+3])
}

// putWords writes words of 32 bits, the highest bits first.
func putWords(to []byte, words []uint32) {
	for i, w := range words {
		to[4*i], to[4*i+1], to[4*i+2], to[4*i+3] = byte(w>>24), byte(w>>16), byte(w>>8), byte(w)
	}
}
