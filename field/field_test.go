package field_test

import (
	"math"
	"math/big"
	"testing"

	"hayrick/api"
	"hayrick/field"
)

// product multiplies as on paper: all shifted sums first, then the long division.
// It shares no step with the package, so that both can't be wrong in one way.
func product(a, b byte) byte {
	p := uint(0)
	for i := range 8 {
		if b>>i&1 == 1 {
			p ^= uint(a) << i
		}
	}
	for i := 15; i >= 8; i-- {
		if p>>i&1 == 1 {
			p ^= 0x11d << (i - 8)
		}
	}
	return byte(p)
}

// inverse looks through all numbers for the one whose product with a is 1.
func inverse(a byte) byte {
	for b := range 256 {
		if product(a, byte(b)) == 1 {
			return byte(b)
		}
	}
	return 0
}

// times multiplies a with itself, n times, n not below 0.
func times(a byte, n int) byte {
	p := byte(1)
	for range n {
		p = product(p, a)
	}
	return p
}

// remainder is n modulo 255, 0 to 254, by the library's numbers of any size.
func remainder(n int) int {
	return int(new(big.Int).Mod(big.NewInt(int64(n)), big.NewInt(255)).Int64())
}

// edges are the exponents that the document and the type of int make special.
func edges() []int {
	return []int{
		0, 1, 2, 8, 127, 128, 253, 254, 255, 256, 257, 509, 510, 511,
		-1, -2, -8, -127, -128, -253, -254, -255, -256, -257, -509, -510, -511,
		math.MaxInt, math.MaxInt - 1, math.MaxInt - 254, math.MaxInt - 255, math.MaxInt / 254,
		math.MinInt, math.MinInt + 1, math.MinInt + 254, math.MinInt + 255, math.MinInt / 254,
		math.MaxInt32, math.MinInt32,
	}
}

func TestExamples(t *testing.T) {
	for _, x := range [][3]byte{{2, 128, 29}, {3, 7, 9}, {255, 255, 226}} {
		if got := field.Mul(x[0], x[1]); got != x[2] {
			t.Errorf("Mul(%d, %d) = %d, want %d", x[0], x[1], got, x[2])
		}
	}
	for _, x := range []struct {
		a, want byte
		err     api.Errno
	}{{1, 1, api.OK}, {2, 142, api.OK}, {0, 0, api.ErrArg}} {
		if got, err := field.Inv(x.a); got != x.want || err != x.err {
			t.Errorf("Inv(%d) = %d, %d, want %d, %d", x.a, got, err, x.want, x.err)
		}
	}
	for _, x := range []struct {
		n    int
		want byte
	}{{8, 29}, {255, 1}, {-1, 142}} {
		if got := field.Exp(x.n); got != x.want {
			t.Errorf("Exp(%d) = %d, want %d", x.n, got, x.want)
		}
	}
	for _, x := range []struct {
		a    byte
		want int
	}{{29, 8}, {1, 0}} {
		if got, err := field.Log(x.a); got != x.want || err != api.OK {
			t.Errorf("Log(%d) = %d, %d, want %d, OK", x.a, got, err, x.want)
		}
	}
	for _, x := range []struct {
		a    byte
		n    int
		want byte
	}{{2, 8, 29}, {0, 0, 1}, {3, -1, 244}} {
		if got := field.Pow(x.a, x.n); got != x.want {
			t.Errorf("Pow(%d, %d) = %d, want %d", x.a, x.n, got, x.want)
		}
	}
}

// P1.1: Add, of all pairs, bit by bit.
func TestAdd(t *testing.T) {
	for a := range 256 {
		for b := range 256 {
			sum := field.Add(byte(a), byte(b))
			for i := range 8 {
				differ := a>>i&1 != b>>i&1
				if (sum>>i&1 == 1) != differ {
					t.Fatalf("Add(%d, %d) = %d: bit %d", a, b, sum, i)
				}
			}
		}
	}
}

// P1.1: Mul, of all pairs.
func TestMul(t *testing.T) {
	for a := range 256 {
		for b := range 256 {
			if got, want := field.Mul(byte(a), byte(b)), product(byte(a), byte(b)); got != want {
				t.Fatalf("Mul(%d, %d) = %d, want %d", a, b, got, want)
			}
		}
	}
}

// P1.2: Inv, of all numbers but 0.
func TestInv(t *testing.T) {
	for a := 1; a < 256; a++ {
		if got, err := field.Inv(byte(a)); err != api.OK || got != inverse(byte(a)) {
			t.Errorf("Inv(%d) = %d, %d, want %d, OK", a, got, err, inverse(byte(a)))
		}
	}
}

// P1.2: Div, of all pairs with an inverse, 0 divided too.
func TestDiv(t *testing.T) {
	for b := 1; b < 256; b++ {
		by := inverse(byte(b))
		for a := range 256 {
			if got, err := field.Div(byte(a), byte(b)); err != api.OK || got != product(byte(a), by) {
				t.Fatalf("Div(%d, %d) = %d, %d, want %d, OK", a, b, got, err, product(byte(a), by))
			}
		}
	}
}

// P1.2, P1.3: what 0 has not, with every other answer zero.
func TestRefused(t *testing.T) {
	if got, err := field.Inv(0); got != 0 || err != api.ErrArg {
		t.Errorf("Inv(0) = %d, %d, want 0, ErrArg", got, err)
	}
	if got, err := field.Log(0); got != 0 || err != api.ErrArg {
		t.Errorf("Log(0) = %d, %d, want 0, ErrArg", got, err)
	}
	for a := range 256 {
		if got, err := field.Div(byte(a), 0); got != 0 || err != api.ErrArg {
			t.Errorf("Div(%d, 0) = %d, %d, want 0, ErrArg", a, got, err)
		}
	}
}

// P1.3: Exp, some rounds both ways, step by step.
func TestExp(t *testing.T) {
	for n := range 800 {
		if got, want := field.Exp(n), times(2, n); got != want {
			t.Errorf("Exp(%d) = %d, want %d", n, got, want)
		}
		if got, want := field.Exp(-n), times(inverse(2), n); got != want {
			t.Errorf("Exp(%d) = %d, want %d", -n, got, want)
		}
	}
}

// P1.3: Exp of the ends of int, and a round further wherever there is one.
func TestExpEdges(t *testing.T) {
	for _, n := range edges() {
		if got, want := field.Exp(n), times(2, remainder(n)); got != want {
			t.Errorf("Exp(%d) = %d, want %d", n, got, want)
		}
		if n <= math.MaxInt-255 && field.Exp(n) != field.Exp(n+255) {
			t.Errorf("Exp(%d) is not Exp(%d)", n, n+255)
		}
	}
}

// P1.3: Log, of all powers, and so of all numbers but 0.
func TestLog(t *testing.T) {
	seen := [256]bool{}
	for n := range 255 {
		a := times(2, n)
		seen[a] = true
		if got, err := field.Log(a); got != n || err != api.OK {
			t.Errorf("Log(%d) = %d, %d, want %d, OK", a, got, err, n)
		}
	}
	for a := 1; a < 256; a++ {
		if !seen[a] {
			t.Errorf("%d is no power of the base", a)
		}
	}
}

// P1.4: Pow, of each number but 0, multiplied step by step both ways.
func TestPow(t *testing.T) {
	for a := 1; a < 256; a++ {
		up, down, by := byte(1), byte(1), inverse(byte(a))
		for n := range 520 {
			if got := field.Pow(byte(a), n); got != up {
				t.Fatalf("Pow(%d, %d) = %d, want %d", a, n, got, up)
			}
			if got := field.Pow(byte(a), -n); got != down {
				t.Fatalf("Pow(%d, %d) = %d, want %d", a, -n, got, down)
			}
			up, down = product(up, byte(a)), product(down, by)
		}
	}
}

// P1.4: Pow at the ends of int: a number but 0 comes round after 255 times.
func TestPowEdges(t *testing.T) {
	for _, n := range edges() {
		for a := 1; a < 256; a++ {
			if got, want := field.Pow(byte(a), n), times(byte(a), remainder(n)); got != want {
				t.Fatalf("Pow(%d, %d) = %d, want %d", a, n, got, want)
			}
		}
	}
}

// P1.4: Pow of 0 is 1 just of exponent 0.
func TestPowOfZero(t *testing.T) {
	for _, n := range edges() {
		want := byte(0)
		if n == 0 {
			want = 1
		}
		if got := field.Pow(0, n); got != want {
			t.Errorf("Pow(0, %d) = %d, want %d", n, got, want)
		}
	}
}

// P1.5: what holds of pairs.
func TestFieldPairs(t *testing.T) {
	for i := range 256 {
		for j := range 256 {
			a, b := byte(i), byte(j)
			if field.Add(a, b) != field.Add(b, a) || field.Mul(a, b) != field.Mul(b, a) {
				t.Fatalf("%d, %d: the order counts", a, b)
			}
			if field.Add(field.Add(a, b), b) != a {
				t.Fatalf("%d, %d: added twice, it is not gone", a, b)
			}
			if (field.Mul(a, b) == 0) != (a == 0 || b == 0) {
				t.Fatalf("Mul(%d, %d) = %d", a, b, field.Mul(a, b))
			}
		}
	}
}

// P1.5: what holds of three. All pairs go with each third one of a set that has
// the ends and all single bits, out of which sums make the rest.
func TestFieldThrees(t *testing.T) {
	thirds := []byte{0, 1, 2, 3, 4, 8, 16, 29, 32, 64, 128, 142, 254, 255}
	for i := range 256 {
		for j := range 256 {
			for _, c := range thirds {
				a, b := byte(i), byte(j)
				if field.Add(field.Add(a, b), c) != field.Add(a, field.Add(b, c)) {
					t.Fatalf("%d, %d, %d: the brackets of Add count", a, b, c)
				}
				if field.Mul(field.Mul(a, b), c) != field.Mul(a, field.Mul(b, c)) {
					t.Fatalf("%d, %d, %d: the brackets of Mul count", a, b, c)
				}
				if field.Mul(c, field.Add(a, b)) != field.Add(field.Mul(c, a), field.Mul(c, b)) {
					t.Fatalf("%d, %d, %d: Mul does not go through Add", a, b, c)
				}
			}
		}
	}
}

// P1.6: Exp of a sum, below 0 and beyond a round too.
func TestPowersOfSums(t *testing.T) {
	for m := -300; m <= 300; m += 7 {
		for n := -300; n <= 300; n++ {
			if field.Exp(m+n) != field.Mul(field.Exp(m), field.Exp(n)) {
				t.Fatalf("Exp(%d + %d) is not the product", m, n)
			}
		}
	}
	for _, n := range edges() {
		for _, m := range []int{1, -1, 255, -255} {
			if fits := (m > 0) == (n+m > n); fits && field.Exp(n+m) != field.Mul(field.Exp(n), field.Exp(m)) {
				t.Errorf("Exp(%d + %d) is not the product", n, m)
			}
		}
	}
}

// P1.6: Log of a product, of all pairs that have one.
func TestLogsOfProducts(t *testing.T) {
	logs := [256]int{}
	for a := 1; a < 256; a++ {
		logs[a], _ = field.Log(byte(a))
	}
	for a := 1; a < 256; a++ {
		for b := 1; b < 256; b++ {
			got, err := field.Log(field.Mul(byte(a), byte(b)))
			if want := (logs[a] + logs[b]) % 255; got != want || err != api.OK {
				t.Fatalf("Log of %d times %d = %d, %d, want %d, OK", a, b, got, err, want)
			}
		}
	}
}
