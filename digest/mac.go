package digest

// The bits that are turned in the key: those for the hash inside, and those for the hash around it.
const (
	innerBits = 0x36
	outerBits = 0x5c
)

// Mac answers the mac of a text by a key.
func Mac(key string, text string) [Size]byte {
	block := keyBlock(key)
	inner := Hash(turned(block, innerBits) + text)
	return Hash(turned(block, outerBits) + string(inner[:]))
}

// keyBlock makes one block of the key, however long it is.
func keyBlock(key string) [blockSize]byte {
	var block [blockSize]byte
	if len(key) > blockSize {
		short := Hash(key)
		copy(block[:], short[:])
		return block
	}
	copy(block[:], key)
	return block
}

// turned answers the block with these bits of each byte turned.
func turned(block [blockSize]byte, mask byte) string {
	for i := range block {
		block[i] ^= mask
	}
	return string(block[:])
}
