// Package crc: digests.
package crc

// polynomial is Castagnoli's, reflected.
const polynomial = 0x82f63b78

// Sum is CRC-32C.
func Sum(s string) (_ uint32) {
	effect := effects()
	sum := ^uint32(0)
	for i := range len(s) {
		sum = sum>>8 ^ effect[byte(sum)^s[i]]
	}
	return ^sum
}

// effects are what each byte does to a sum.
// They are found anew for each sum: 256 words are too many for a table of the package.
func effects() [256]uint32 {
	var effect [256]uint32
	for b := range len(effect) {
		sum := uint32(b)
		for range 8 {
			// Without a branch, which no processor could foresee here.
			sum = sum>>1 ^ polynomial&-(sum&1)
		}
		effect[b] = sum
	}
	return effect
}

// Digest is a text's sum in four bytes, the lowest first.
func Digest(s string) (_ string) {
	sum := Sum(s)
	var b [4]byte
	for i := range len(b) {
		b[i] = byte(sum >> (8 * i))
	}
	return string(b[:])
}
