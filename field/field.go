// Package field is layer 1: see shared/doc/01-field.md.
package field

import "hayrick/api"

const (
	// low is the field's polynomial without x^8: what x^8 leaves behind.
	low = 0x1d
	// order is how many powers the base has, till they come round again.
	order = 255
)

// Add: P1.1.
func Add(a, b byte) byte { return a ^ b }

// Mul: P1.1.
//
// It goes bit by bit and leans on no table: the layers above multiply each byte
// that they write, and the tables are made anew by each call that asks for them.
func Mul(a, b byte) byte {
	var sum byte
	for range 8 {
		sum ^= a & mask(b&1)
		a = double(a)
		b >>= 1
	}
	return sum
}

// Inv: P1.2.
func Inv(a byte) (byte, api.Errno) {
	if a == 0 {
		return 0, api.ErrArg
	}
	powers, logs := tables()
	return powers[round(-int(logs[a]))], api.OK
}

// Div: P1.2.
func Div(a, b byte) (byte, api.Errno) {
	inverse, err := Inv(b)
	if err != api.OK {
		return 0, err
	}
	return Mul(a, inverse), api.OK
}

// Exp: P1.3.
func Exp(n int) byte {
	powers, _ := tables()
	return powers[round(n)]
}

// Log: P1.3.
func Log(a byte) (int, api.Errno) {
	if a == 0 {
		return 0, api.ErrArg
	}
	_, logs := tables()
	return int(logs[a]), api.OK
}

// Pow: P1.4.
func Pow(a byte, n int) byte {
	if n == 0 {
		return 1
	}
	if a == 0 {
		return 0
	}
	powers, logs := tables()
	// n is brought round first: its product with a logarithm could wrap else.
	return powers[round(int(logs[a])*round(n))]
}

// tables makes the base's powers by their exponents, and the logarithms by their
// numbers. The logarithm at 0 means nothing: 0 is no power.
func tables() (powers [order]byte, logs [order + 1]byte) {
	power := byte(1)
	for n := range order {
		powers[n] = power
		logs[power] = byte(n)
		power = double(power)
	}
	return powers, logs
}

// double multiplies by the base.
func double(a byte) byte { return a<<1 ^ low&mask(a>>7) }

// mask has each bit as the one bit that is given: a product with it needs no
// branch, which random bytes would make a slow one.
func mask(bit byte) byte { return -bit }

// round brings an exponent of any size, below 0 too, to 0 to order - 1.
func round(n int) int {
	n %= order
	if n < 0 {
		n += order
	}
	return n
}
