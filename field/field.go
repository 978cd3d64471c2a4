// Package field: numbers in so many bytes, and bytes in fours.
package field

import "quaymaster/api"

// widest is how many bytes the greatest number needs.
const widest = 8

// Put is a number in so many bytes, the highest first. ErrRange: size is not from 0 to 8; ErrLimit: it needs more.
func Put(n uint64, size int) (_ string, _ error) {
	if size < 0 || size > widest {
		return "", api.ErrRange
	}
	if n>>(8*size) != 0 {
		return "", api.ErrLimit
	}
	var b [widest]byte
	for i := range size {
		b[size-1-i] = byte(n >> (8 * i))
	}
	return string(b[:size]), nil
}

// Get is the number that bytes are. ErrLimit: there are more than 8.
func Get(s string) (_ uint64, _ error) {
	if len(s) > widest {
		return 0, api.ErrLimit
	}
	var n uint64
	for i := range len(s) {
		n = n<<8 | uint64(s[i])
	}
	return n, nil
}

// Pad is how many bytes are missing to the next four. 0 of fewer than none.
func Pad(n int) (_ int) {
	if n < 0 {
		return 0
	}
	return (4 - n%4) % 4
}

// Padded is a text, and as many bytes of 0 as Pad tells.
func Padded(s string) (_ string) {
	return s + zeros(Pad(len(s)))
}

// zeros are n bytes of 0, of n from 0 to 3.
func zeros(n int) string {
	return "\x00\x00\x00"[:n]
}

// Unpad is a text of n bytes that stands ahead of another one with its Pad, and how many bytes both have. ErrRange: n is below 0; ErrMissing: there are fewer; ErrForm: one of the Pad isn't 0.
func Unpad(s string, n int) (_ string, _ int, _ error) {
	if n < 0 {
		return "", 0, api.ErrRange
	}
	pad := Pad(n)
	// n and its Pad are not added up ahead of this: for the greatest n the sum would turn negative.
	if n > len(s) || pad > len(s)-n {
		return "", 0, api.ErrMissing
	}
	if s[n:n+pad] != zeros(pad) {
		return "", 0, api.ErrForm
	}
	return s[:n], n + pad, nil
}
