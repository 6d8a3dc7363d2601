// Package word is words of 16 bits. See ../../shared/doc/01-word.md.
package word

import "embrasure/api"

const (
	wide    = 16
	least   = -1 << (wide - 1)
	most    = 1<<wide - 1
	letters = "0123456789abcdef"
)

// Add is the sum, and whether it went round.
func Add(a, b api.Word) (sum api.Word, carry bool) {
	sum = a + b
	// A sum that went round, and no other, lies below what was added to.
	return sum, sum < a
}

// Sub is a less b, and whether it went round.
func Sub(a, b api.Word) (less api.Word, borrow bool) {
	return a - b, b > a
}

// Mul is the product as two words.
func Mul(a, b api.Word) (high, low api.Word) {
	product := uint32(a) * uint32(b)
	return api.Word(product >> wide), api.Word(product)
}

// Div is the quotient, rounded down, and the rest.
func Div(a, b api.Word) (by, rest api.Word, e api.Errno) {
	if b == 0 {
		return 0, 0, api.ErrZero
	}
	return a / b, a % b, api.OK
}

// Neg is 0 less a.
func Neg(a api.Word) api.Word {
	return -a
}

// Shl moves the bits up.
func Shl(a api.Word, n int) api.Word {
	return a << steps(n)
}

// Shr moves the bits down.
func Shr(a api.Word, n int) api.Word {
	return a >> steps(n)
}

// Sar moves the bits down and keeps the sign.
func Sar(a api.Word, n int) api.Word {
	return api.Word(int16(a) >> steps(n))
}

// Rot turns the bits round, upwards.
func Rot(a api.Word, n int) api.Word {
	up := steps(n)
	return a<<up | a>>(wide-up)
}

// steps is n modulo 16: the lowest four bits are that of numbers below 0 too, where % would answer less than 0.
func steps(n int) uint {
	return uint(n & (wide - 1))
}

// Ones counts the bits that are 1.
func Ones(a api.Word) int {
	ones := 0
	for i := range wide {
		ones += int(a >> i & 1)
	}
	return ones
}

// Signed is the word as a number with a sign.
func Signed(a api.Word) int {
	return int(int16(a))
}

// From is the word of a number, with a sign or without.
func From(n int) (api.Word, bool) {
	if n < least || n > most {
		return 0, false
	}
	return api.Word(n), true
}

// Bytes are the word's bytes, the higher one first.
func Bytes(a api.Word) [2]byte {
	return [2]byte{byte(a >> 8), byte(a)}
}

// Join is the word of two bytes.
func Join(high, low byte) api.Word {
	return api.Word(high)<<8 | api.Word(low)
}

// Hex are the word's four digits in hex.
func Hex(a api.Word) string {
	var text [4]byte
	for i := range text {
		text[i] = letters[Rot(a, 4*(i+1))&15]
	}
	return string(text[:])
}
