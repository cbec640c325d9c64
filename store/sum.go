package store

import "math/bits"

// How many bytes a block has, and how many words its schedule.
const (
	blockSize = 64
	rounds    = 64
)

// first is the row at first: the first bits behind the point of the square roots of the first eight primes.
var first = [8]uint32{
	0x6a09e667, 0xbb67ae85, 0x3c6ef372, 0xa54ff53a, 0x510e527f, 0x9b05688c, 0x1f83d9ab, 0x5be0cd19,
}

// roots are those of the cube roots of the first 64 primes.
var roots = [rounds]uint32{
	0x428a2f98, 0x71374491, 0xb5c0fbcf, 0xe9b5dba5, 0x3956c25b, 0x59f111f1, 0x923f82a4, 0xab1c5ed5,
	0xd807aa98, 0x12835b01, 0x243185be, 0x550c7dc3, 0x72be5d74, 0x80deb1fe, 0x9bdc06a7, 0xc19bf174,
	0xe49b69c1, 0xefbe4786, 0x0fc19dc6, 0x240ca1cc, 0x2de92c6f, 0x4a7484aa, 0x5cb0a9dc, 0x76f988da,
	0x983e5152, 0xa831c66d, 0xb00327c8, 0xbf597fc7, 0xc6e00bf3, 0xd5a79147, 0x06ca6351, 0x14292967,
	0x27b70a85, 0x2e1b2138, 0x4d2c6dfc, 0x53380d13, 0x650a7354, 0x766a0abb, 0x81c2c92e, 0x92722c85,
	0xa2bfe8a1, 0xa81a664b, 0xc24b8b70, 0xc76c51a3, 0xd192e819, 0xd6990624, 0xf40e3585, 0x106aa070,
	0x19a4c116, 0x1e376c08, 0x2748774c, 0x34b0bcb5, 0x391c0cb3, 0x4ed8aa4a, 0x5b9cca4f, 0x682e6ff3,
	0x748f82ee, 0x78a5636f, 0x84c87814, 0x8cc70208, 0x90befffa, 0xa4506ceb, 0xbef9a3f7, 0xc67178f2,
}

// Sum is a text's sum.
func Sum(b []byte) [32]byte {
	row := first
	text := padded(b)
	for len(text) > 0 {
		row = mix(row, text[:blockSize])
		text = text[blockSize:]
	}
	var out [32]byte
	for i, word := range row {
		out[4*i], out[4*i+1], out[4*i+2], out[4*i+3] = byte(word>>24), byte(word>>16), byte(word>>8), byte(word)
	}
	return out
}

// padded is a text, made a multiple of a block long, with how many bits it has at its end.
func padded(b []byte) []byte {
	zeros := (2*blockSize - 9 - len(b)%blockSize) % blockSize
	out := make([]byte, 0, len(b)+zeros+9)
	out = append(out, b...)
	out = append(out, 128)
	out = append(out, make([]byte, zeros)...)
	length := 8 * uint64(len(b))
	for shift := 56; shift >= 0; shift -= 8 {
		out = append(out, byte(length>>shift))
	}
	return out
}

// mix is a row behind a block.
func mix(row [8]uint32, block []byte) [8]uint32 {
	w := schedule(block)
	v := row
	for i := range rounds {
		a, b, c, e, f, g := v[0], v[1], v[2], v[4], v[5], v[6]
		t1 := v[7] + turned(e, 6, 11, 25) + (e&f | ^e&g) + roots[i] + w[i]
		t2 := turned(a, 2, 13, 22) + (a&b | a&c | b&c)
		copy(v[1:], v[:7])
		v[0] = t1 + t2
		v[4] += t1
	}
	for i := range row {
		row[i] += v[i]
	}
	return row
}

// schedule are the words of a block, and those that come of them.
func schedule(block []byte) [rounds]uint32 {
	var w [rounds]uint32
	for i := range 16 {
		w[i] = uint32(block[4*i])<<24 | uint32(block[4*i+1])<<16 | uint32(block[4*i+2])<<8 | uint32(block[4*i+3])
	}
	for i := 16; i < rounds; i++ {
		w[i] = shifted(w[i-2], 17, 19, 10) + w[i-7] + shifted(w[i-15], 7, 18, 3) + w[i-16]
	}
	return w
}

// turned is the exclusive or of a word turned right by three counts.
func turned(x uint32, a, b, c int) uint32 {
	return bits.RotateLeft32(x, -a) ^ bits.RotateLeft32(x, -b) ^ bits.RotateLeft32(x, -c)
}

// shifted is that of a word turned right by two counts, and shifted right by a third one.
func shifted(x uint32, a, b, c int) uint32 {
	return bits.RotateLeft32(x, -a) ^ bits.RotateLeft32(x, -b) ^ x>>c
}
