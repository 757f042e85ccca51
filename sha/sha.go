// Package sha is layer 1: see shared/doc/01-sha.md.
package sha

// Size is how many bytes a digest has.
const Size = 32

// Digest is the digest of a text.
type Digest [Size]byte

const hexDigits = "0123456789abcdef"

// Sum is the digest of texts, one behind the other.
func Sum(parts ...string) Digest {
	s := start()
	for _, part := range parts {
		s.take(part)
	}
	return s.finish()
}

// Hex is a digest as 64 digits.
func (d Digest) Hex() string {
	var out [2 * Size]byte
	for i := range Size {
		out[2*i] = hexDigits[d[i]>>4]
		out[2*i+1] = hexDigits[d[i]&15]
	}
	return string(out[:])
}

// Parse is the digest of 64 digits.
func Parse(s string) (Digest, bool) {
	if len(s) != 2*Size {
		return Digest{}, false
	}
	var d Digest
digits:
	for i := range len(s) {
		for value := range len(hexDigits) {
			if s[i] == hexDigits[value] {
				d[i/2] = d[i/2]<<4 | byte(value)
				continue digits
			}
		}
		return Digest{}, false
	}
	return d, true
}
