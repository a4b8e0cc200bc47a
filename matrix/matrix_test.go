package matrix_test

import (
	"bytes"
	"math"
	"testing"

	"hayrick/api"
	"hayrick/matrix"
)

// products has them all, as the tests ask for many.
var products = func() (all [256][256]byte) {
	for a := range all {
		for b := range all[a] {
			all[a][b] = onPaper(byte(a), byte(b))
		}
	}
	return all
}()

// product is of two numbers. The tests lean on it, and not on package field, where
// they say what is right.
func product(a, b byte) byte { return products[a][b] }

// onPaper multiplies as on paper: all shifted sums first, then the long division.
func onPaper(a, b byte) byte {
	p := uint(0)
	for i := range 8 {
		if b>>i&1 == 1 {
			p ^= uint(a) << i
		}
	}
	for i := 15; i >= 8; i-- {
		if p>>i&1 == 1 {
			p ^= 0x11d << (i - 8)
		}
	}
	return byte(p)
}

// sample is a matrix of numbers that have no order to be seen; another seed,
// another matrix.
func sample(rows, numbers, seed int) matrix.Matrix {
	m := make(matrix.Matrix, rows)
	state := uint32(seed)*2654435761 + 12345
	for i := range m {
		m[i] = make([]byte, numbers)
		for j := range m[i] {
			state = state*1664525 + 1013904223
			m[i][j] = byte(state >> 24)
		}
	}
	return m
}

// one is the identity as it is written by hand.
func one(n int) matrix.Matrix {
	m := make(matrix.Matrix, n)
	for i := range m {
		m[i] = make([]byte, n)
		m[i][i] = 1
	}
	return m
}

// byHand is the product of two matrices that fit, number by number.
func byHand(a, b matrix.Matrix) matrix.Matrix {
	m := make(matrix.Matrix, len(a))
	for i := range m {
		m[i] = make([]byte, len(b[0]))
		for j := range m[i] {
			for t := range b {
				m[i][j] ^= product(a[i][t], b[t][j])
			}
		}
	}
	return m
}

// alike: whether two matrices have the same numbers, told without the package.
func alike(a, b matrix.Matrix) bool {
	if len(a) != len(b) {
		return false
	}
	for i := range a {
		if !bytes.Equal(a[i], b[i]) {
			return false
		}
	}
	return true
}

// copied is new memory that has the same numbers.
func copied(m matrix.Matrix) matrix.Matrix {
	c := make(matrix.Matrix, len(m))
	for i := range m {
		c[i] = append([]byte{}, m[i]...)
	}
	return c
}

// spoil changes each number of a matrix, and writes behind the end of each row as
// far as there is room.
func spoil(m matrix.Matrix) {
	for _, row := range m {
		row = row[:cap(row)]
		for j := range row {
			row[j] ^= 0xa5
		}
	}
}

// checkNew: that what a call answered shares no memory with what it was handed,
// and that no two of the answer's rows share any.
func checkNew(t *testing.T, what string, got matrix.Matrix, given ...matrix.Matrix) {
	t.Helper()
	want := copied(got)
	var were []matrix.Matrix
	for _, m := range given {
		were = append(were, copied(m))
	}
	for i, row := range got {
		spoil(got[i : i+1])
		if bytes.Equal(row, want[i]) {
			t.Errorf("%s: row %d was not to be changed", what, i)
		}
		for k := range got {
			if k != i && !bytes.Equal(got[k], want[k]) {
				t.Fatalf("%s: row %d shares memory with row %d", what, k, i)
			}
		}
		copy(row, want[i])
	}
	spoil(got)
	for g, m := range given {
		if !alike(m, were[g]) {
			t.Errorf("%s: the answer shares memory with what was handed in", what)
		}
		for _, row := range m {
			clear(row)
		}
	}
	for i := range got {
		for j := range got[i] {
			if got[i][j] != want[i][j]^0xa5 {
				t.Fatalf("%s: the answer changed with what was handed in", what)
			}
		}
	}
}

func mustMul(t *testing.T, a, b matrix.Matrix) matrix.Matrix {
	t.Helper()
	m, err := matrix.Mul(a, b)
	if err != api.OK {
		t.Fatalf("Mul of %d rows and %d rows: %d", len(a), len(b), err)
	}
	return m
}

func mustInvert(t *testing.T, m matrix.Matrix) matrix.Matrix {
	t.Helper()
	x, err := matrix.Invert(m)
	if err != api.OK {
		t.Fatalf("Invert of %d rows: %d", len(m), err)
	}
	return x
}

func mustRows(t *testing.T, m matrix.Matrix, l []int) matrix.Matrix {
	t.Helper()
	r, err := matrix.Rows(m, l)
	if err != api.OK {
		t.Fatalf("Rows %v of %d: %d", l, len(m), err)
	}
	return r
}

func TestExamples(t *testing.T) {
	if m, err := matrix.Identity(2); err != api.OK || !alike(m, matrix.Matrix{{1, 0}, {0, 1}}) {
		t.Errorf("Identity(2): %v, %d", m, err)
	}
	if m, err := matrix.Mul(matrix.Matrix{{1, 2}, {3, 4}}, matrix.Matrix{{5}, {6}}); err != api.OK || !alike(m, matrix.Matrix{{9}, {23}}) {
		t.Errorf("Mul: %v, %d", m, err)
	}
	if m, err := matrix.Invert(matrix.Matrix{{1, 1}, {1, 2}}); err != api.OK || !alike(m, matrix.Matrix{{245, 244}, {244, 244}}) {
		t.Errorf("Invert: %v, %d", m, err)
	}
	if m, err := matrix.Invert(matrix.Matrix{{1, 2}, {2, 4}}); err != api.ErrSolve || len(m) != 0 {
		t.Errorf("Invert of one that has no inverse: %v, %d", m, err)
	}
	if m, err := matrix.Invert(matrix.Matrix{{1, 2}}); err != api.ErrArg || len(m) != 0 {
		t.Errorf("Invert of one that is not square: %v, %d", m, err)
	}
}

// bad are matrices that may not be.
func bad() map[string]matrix.Matrix {
	return map[string]matrix.Matrix{
		"nil":                          nil,
		"no row":                       {},
		"one row without numbers":      {{}},
		"one nil row":                  {nil},
		"two rows without numbers":     {{}, nil},
		"256 rows":                     sample(256, 1, 1),
		"256 rows of 256":              sample(256, 256, 1),
		"256 numbers":                  sample(1, 256, 1),
		"511 numbers":                  sample(1, 511, 1),
		"512 rows":                     sample(512, 2, 1),
		"a shorter row behind":         {{1, 2}, {3}},
		"a longer row behind":          {{1}, {3, 4}},
		"an empty row behind":          {{1}, {}},
		"a nil row behind":             {{1, 2}, nil},
		"an empty row ahead":           {{}, {1}},
		"a shorter row between":        {{1, 2, 3}, {1, 2}, {1, 2, 3}},
		"the last of three is shorter": {{1, 2, 3}, {1, 2, 3}, {1, 2}},
		"the last of three is longer":  {{1, 2, 3}, {1, 2, 3}, {1, 2, 3, 4}},
		"the last of 255 is longer":    append(sample(254, 255, 1), make([]byte, 256)),
		"the last of 255 is shorter":   append(sample(254, 255, 1), make([]byte, 254)),
	}
}

// P3.1: May, at the edges of both numbers.
func TestMay(t *testing.T) {
	for _, rows := range []int{1, 2, 3, 254, 255} {
		for _, numbers := range []int{1, 2, 3, 254, 255} {
			m := sample(rows, numbers, 3)
			if !matrix.May(m) || !matrix.May(make0(rows, numbers)) {
				t.Errorf("%d rows of %d may not be", rows, numbers)
			}
			if !alike(m, sample(rows, numbers, 3)) {
				t.Errorf("May changed %d rows of %d", rows, numbers)
			}
		}
		for _, numbers := range []int{0, 256, 257, 511, 512} {
			if matrix.May(sample(rows, numbers, 3)) || matrix.May(sample(numbers, rows, 3)) {
				t.Errorf("%d rows of %d may be, or the other way round", rows, numbers)
			}
		}
	}
	for name, m := range bad() {
		if matrix.May(m) {
			t.Errorf("%s: may be", name)
		}
	}
}

// make0 is a matrix of noughts.
func make0(rows, numbers int) matrix.Matrix {
	m := make(matrix.Matrix, rows)
	for i := range m {
		m[i] = make([]byte, numbers)
	}
	return m
}

// P3.1: Identity of all numbers that may be, and of those that may not.
func TestIdentity(t *testing.T) {
	for n := 1; n <= 255; n++ {
		m, err := matrix.Identity(n)
		if err != api.OK || !alike(m, one(n)) {
			t.Fatalf("Identity(%d): %d", n, err)
		}
	}
	for _, n := range []int{0, -1, -2, -255, -256, 256, 257, 512, 1 << 16, math.MaxInt32, math.MinInt32, math.MaxInt, math.MinInt} {
		if m, err := matrix.Identity(n); err != api.ErrArg || len(m) != 0 {
			t.Errorf("Identity(%d): %d rows, %d", n, len(m), err)
		}
	}
	m, _ := matrix.Identity(3)
	checkNew(t, "Identity", m)
	if m, err := matrix.Identity(3); err != api.OK || !alike(m, one(3)) {
		t.Errorf("Identity, behind one that was changed: %v, %d", m, err)
	}
}

// P3.1: Same of any two, of those that may not be, too.
func TestSame(t *testing.T) {
	all := []matrix.Matrix{
		{},
		{{}},
		{{}, {}},
		{{0}},
		{{1}},
		{{1, 2}},
		{{2, 1}},
		{{1}, {2}},
		{{2}, {1}},
		{{1, 2}, {}},
		{{}, {1, 2}},
		{{1}, {2, 3}},
		{{1, 2}, {3}},
		{{1, 2, 3}},
		{{1}, {2}, {3}},
		{{1, 2}, {3, 4}},
		{{1, 2}, {3, 5}},
		{{1, 3}, {2, 4}},
		{{3, 4}, {1, 2}},
		{{1, 2}, {3, 4}, {}},
		{{1, 2}, {3, 4}, {0, 0}},
		{{1, 2, 0}, {3, 4, 0}},
		sample(300, 300, 1),
		sample(300, 300, 2),
		sample(255, 255, 1),
	}
	for i, a := range all {
		for j, b := range all {
			if matrix.Same(a, copied(b)) != (i == j) {
				t.Errorf("Same of %d and %d: %v", i, j, i != j)
			}
		}
	}
	if !matrix.Same(nil, matrix.Matrix{}) || !matrix.Same(matrix.Matrix{}, nil) || !matrix.Same(nil, nil) {
		t.Error("no rows are not the same as no rows")
	}
	if !matrix.Same(matrix.Matrix{nil, {1}}, matrix.Matrix{{}, {1}}) {
		t.Error("no numbers are not the same as no numbers")
	}
	if matrix.Same(nil, matrix.Matrix{nil}) || matrix.Same(matrix.Matrix{nil}, nil) {
		t.Error("no row is the same as one without numbers")
	}
}

// P3.1: Same tells each bit of each number, and changes nothing.
func TestSameEachBit(t *testing.T) {
	for i := range 5 {
		for j := range 7 {
			for bit := range 8 {
				a, b := sample(5, 7, 4), sample(5, 7, 4)
				b[i][j] ^= 1 << bit
				if matrix.Same(a, b) || matrix.Same(b, a) {
					t.Errorf("a bit of row %d at %d is not told", i, j)
				}
				b[i][j] ^= 1 << bit
				if !matrix.Same(a, b) || !matrix.Same(a, a) || !alike(a, sample(5, 7, 4)) || !alike(a, b) {
					t.Error("Same changed something, or does not tell the same")
				}
			}
		}
	}
}

// P3.2: Mul of all products of two numbers, and of many sizes.
func TestMul(t *testing.T) {
	for a := range 256 {
		for b := range 256 {
			want := matrix.Matrix{{product(byte(a), byte(b))}}
			if m := mustMul(t, matrix.Matrix{{byte(a)}}, matrix.Matrix{{byte(b)}}); !alike(m, want) {
				t.Fatalf("Mul of %d and %d: %v", a, b, m)
			}
		}
	}
	sizes := []int{1, 2, 3, 4, 8, 17}
	for _, rows := range sizes {
		for _, between := range sizes {
			for _, numbers := range sizes {
				checkMul(t, sample(rows, between, 5), sample(between, numbers, 6))
			}
		}
	}
	for _, x := range [][3]int{{255, 1, 255}, {1, 255, 1}, {255, 255, 1}, {1, 255, 255}, {255, 2, 2}, {2, 2, 255}, {90, 255, 30}} {
		checkMul(t, sample(x[0], x[1], 7), sample(x[1], x[2], 8))
	}
}

func checkMul(t *testing.T, a, b matrix.Matrix) {
	t.Helper()
	wereA, wereB := copied(a), copied(b)
	m := mustMul(t, a, b)
	if !alike(m, byHand(wereA, wereB)) {
		t.Errorf("Mul of %d rows of %d, and rows of %d, is wrong", len(a), len(b), len(b[0]))
	}
	if !alike(a, wereA) || !alike(b, wereB) {
		t.Errorf("Mul of %d rows of %d, and rows of %d, changed them", len(a), len(b), len(b[0]))
	}
}

// P3.2: the largest product, against the identity.
func TestMulOfTheLargest(t *testing.T) {
	m := sample(255, 255, 9)
	if !alike(mustMul(t, m, one(255)), m) || !alike(mustMul(t, one(255), m), m) {
		t.Error("the product with the identity is another matrix")
	}
}

// P3.2: a matrix with itself, and rows that are one list.
func TestMulOfOneList(t *testing.T) {
	m := sample(4, 4, 10)
	checkMul(t, m, m)
	row := []byte{3, 5}
	checkMul(t, matrix.Matrix{row, row}, matrix.Matrix{row, row})
}

// P3.2: what Mul refuses.
func TestMulRefused(t *testing.T) {
	for name, m := range bad() {
		was := copied(m)
		others := []matrix.Matrix{m, one(1), one(2), sample(2, 2, 1), nil}
		if len(m) > 0 && len(m) <= 255 {
			others = append(others, one(len(m)))
		}
		if len(m) > 0 && len(m[0]) > 0 && len(m[0]) <= 255 {
			others = append(others, one(len(m[0])))
		}
		if len(m) > 0 {
			others = append(others, sample(1, len(m), 1), sample(len(m[0]), 1, 1))
		}
		for _, other := range others {
			if p, err := matrix.Mul(m, other); err != api.ErrArg || len(p) != 0 {
				t.Errorf("Mul, %s on the left: %v, %d", name, p, err)
			}
			if p, err := matrix.Mul(other, m); err != api.ErrArg || len(p) != 0 {
				t.Errorf("Mul, %s on the right: %v, %d", name, p, err)
			}
		}
		if !alike(m, was) {
			t.Errorf("Mul changed what it refused: %s", name)
		}
	}
	for _, x := range [][4]int{{1, 2, 1, 2}, {2, 1, 2, 1}, {3, 2, 3, 2}, {2, 3, 2, 3}, {1, 1, 2, 1}, {1, 2, 1, 1}, {255, 255, 254, 255}, {255, 254, 255, 255}} {
		a, b := sample(x[0], x[1], 1), sample(x[2], x[3], 2)
		if p, err := matrix.Mul(a, b); err != api.ErrArg || len(p) != 0 {
			t.Errorf("Mul of %d rows of %d and %d rows of %d: %d", x[0], x[1], x[2], x[3], err)
		}
	}
}

// R3: what Mul, Invert and Rows answer is new memory.
func TestNewMemory(t *testing.T) {
	for n := 1; n <= 4; n++ {
		a, b := sample(n, n, 11), sample(n, n, 12)
		checkNew(t, "Mul", mustMul(t, a, b), a, b)
		a, b = sample(n, n, 11), one(n)
		checkNew(t, "Mul with the identity", mustMul(t, a, b), a, b)
		checkNew(t, "Mul of the identity", mustMul(t, one(n), b), b)
		a = sample(n, n, 11)
		checkNew(t, "Invert", mustInvert(t, a), a)
		a = one(n)
		checkNew(t, "Invert of the identity", mustInvert(t, a), a)
		a = sample(n, n, 13)
		checkNew(t, "Rows", mustRows(t, a, []int{n - 1, 0, 0, n - 1}), a)
		a = sample(n, 3, 13)
		checkNew(t, "one of the Rows", mustRows(t, a, []int{0}), a)
	}
}

// P3.2: Rows in order, in another one, twice, not at all, and as many as may be.
func TestRows(t *testing.T) {
	m := sample(5, 3, 14)
	for _, l := range [][]int{{0}, {4}, {0, 1, 2, 3, 4}, {4, 3, 2, 1, 0}, {2, 2}, {1, 1, 1, 1, 1, 1, 1}, {3, 0, 3}, {4, 4, 0}} {
		checkRows(t, m, l)
	}
	for _, size := range [][2]int{{1, 1}, {1, 255}, {255, 1}, {255, 255}, {2, 7}} {
		m := sample(size[0], size[1], 15)
		for _, n := range []int{1, 2, 254, 255} {
			l := make([]int, n)
			for i := range l {
				l[i] = (i*i + 7*i + size[0] - 1) % size[0]
			}
			checkRows(t, m, l)
		}
	}
}

func checkRows(t *testing.T, m matrix.Matrix, l []int) {
	t.Helper()
	was, list := copied(m), append([]int{}, l...)
	want := make(matrix.Matrix, len(l))
	for i, row := range l {
		want[i] = was[row]
	}
	if r := mustRows(t, m, l); !alike(r, want) {
		t.Errorf("Rows %v of %d: %v, want %v", l, len(m), r, want)
	}
	if !alike(m, was) {
		t.Errorf("Rows %v of %d changed them", l, len(m))
	}
	for i := range l {
		if l[i] != list[i] {
			t.Fatalf("Rows %v changed that list to %v", list, l)
		}
	}
}

// P3.2: what Rows refuses: numbers that are no row's, anywhere in the list; lists
// of none and of 256; matrices that may not be.
func TestRowsRefused(t *testing.T) {
	m := sample(3, 2, 16)
	for _, wrong := range []int{3, 4, -1, -3, 255, 256, 259, math.MaxInt, math.MinInt, 1 << 32, 1<<32 + 1} {
		for _, l := range [][]int{{wrong}, {wrong, 0}, {0, wrong}, {0, 1, 2, wrong}, {0, wrong, 2}} {
			if r, err := matrix.Rows(m, l); err != api.ErrArg || len(r) != 0 {
				t.Errorf("Rows %v of 3: %v, %d", l, r, err)
			}
		}
	}
	for _, l := range [][]int{nil, {}, make([]int, 256), make([]int, 257), make([]int, 511)} {
		if r, err := matrix.Rows(m, l); err != api.ErrArg || len(r) != 0 {
			t.Errorf("%d Rows: %d rows, %d", len(l), len(r), err)
		}
	}
	for name, m := range bad() {
		for _, l := range [][]int{{0}, {0, 0}, {1}, nil} {
			if r, err := matrix.Rows(m, l); err != api.ErrArg || len(r) != 0 {
				t.Errorf("Rows %v, %s: %v, %d", l, name, r, err)
			}
		}
	}
	if !alike(m, sample(3, 2, 16)) {
		t.Error("Rows changed what it refused")
	}
}

// P3.3: one row of one number, each of the 256.
func TestInvertOfOneNumber(t *testing.T) {
	if m, err := matrix.Invert(matrix.Matrix{{0}}); err != api.ErrSolve || len(m) != 0 {
		t.Errorf("Invert of 0: %v, %d", m, err)
	}
	for a := 1; a < 256; a++ {
		m := mustInvert(t, matrix.Matrix{{byte(a)}})
		if len(m) != 1 || len(m[0]) != 1 || product(byte(a), m[0][0]) != 1 {
			t.Errorf("Invert of %d: %v", a, m)
		}
	}
}

// det is a small matrix' determinant, by its first row: what tells, without any
// bringing to the identity, whether there is an inverse.
func det(m matrix.Matrix) byte {
	if len(m) == 0 {
		return 1
	}
	var sum byte
	for j, number := range m[0] {
		less := matrix.Matrix{}
		for _, row := range m[1:] {
			less = append(less, append(append([]byte{}, row[:j]...), row[j+1:]...))
		}
		sum ^= product(number, det(less))
	}
	return sum
}

// checkInvert: that Invert tells what the determinant does, and that its answer,
// multiplied by hand in both orders, is the identity.
func checkInvert(t *testing.T, m matrix.Matrix) {
	t.Helper()
	was := copied(m)
	x, err := matrix.Invert(m)
	if !alike(m, was) {
		t.Fatalf("Invert changed %v to %v", was, m)
	}
	if det(m) == 0 {
		if err != api.ErrSolve || len(x) != 0 {
			t.Fatalf("Invert of %v, which has no inverse: %v, %d", m, x, err)
		}
		return
	}
	if err != api.OK || !alike(byHand(m, x), one(len(m))) || !alike(byHand(x, m), one(len(m))) {
		t.Fatalf("Invert of %v: %v, %d", m, x, err)
	}
}

// P3.3: all matrices of two rows of some numbers, 0 and 1 among them; and of three
// rows of 0 and 1, in which each of the places may be the first that is not 0.
func TestInvertOfAllSmall(t *testing.T) {
	numbers := []byte{0, 1, 2, 3, 4, 5, 0x80, 142, 254, 255}
	for _, a := range numbers {
		for _, b := range numbers {
			for _, c := range numbers {
				for _, d := range numbers {
					checkInvert(t, matrix.Matrix{{a, b}, {c, d}})
				}
			}
		}
	}
	for bits := range 1 << 9 {
		m := make0(3, 3)
		for place := range 9 {
			m[place/3][place%3] = byte(bits >> place & 1)
		}
		checkInvert(t, m)
	}
}

// P3.3: larger ones, as they come, and with many noughts.
func TestInvertOfSamples(t *testing.T) {
	for n := 1; n <= 6; n++ {
		for seed := range 60 {
			m := sample(n, n, seed)
			checkInvert(t, m)
			for i := range m {
				for j := range m[i] {
					if m[i][j] < 160 {
						m[i][j] = 0
					}
				}
			}
			checkInvert(t, m)
		}
	}
}

// turned is the identity with its rows moved by so many: a matrix whose first
// number is 0, and whose inverse is the move back.
func turned(n, by int) matrix.Matrix {
	m := make0(n, n)
	for i := range m {
		m[i][(i+by)%n] = 1
	}
	return m
}

// P3.3: a matrix whose first number is 0 may have an inverse; so may one in which
// a row must come from behind at each step.
func TestInvertWithNoughtsAhead(t *testing.T) {
	if m := mustInvert(t, matrix.Matrix{{0, 1}, {1, 0}}); !alike(m, matrix.Matrix{{0, 1}, {1, 0}}) {
		t.Errorf("two rows that changed their places: %v", m)
	}
	for _, n := range []int{2, 3, 5, 17, 255} {
		for _, by := range []int{0, 1, n / 2, n - 1} {
			if m := mustInvert(t, turned(n, by)); !alike(m, turned(n, n-by)) {
				t.Errorf("%d rows, moved by %d: wrong", n, by)
			}
		}
		m, back := make0(n, n), make0(n, n)
		for i := range m {
			m[i][n-1-i] = 2
			back[i][n-1-i] = 142
		}
		if x := mustInvert(t, m); !alike(x, back) {
			t.Errorf("%d rows from behind: wrong", n)
		}
	}
	if product(2, 142) != 1 {
		t.Error("142 is not the inverse of 2")
	}
}

// P3.3: no inverse: one row is a sum of others, at any place, or noughts; one
// place is noughts in all rows.
func TestInvertRefusesWhatHasNone(t *testing.T) {
	checkNone(t, "the last row is a sum of the others", dependent(255, 254))
	for _, n := range []int{2, 3, 4, 9, 40, 90} {
		for _, at := range []int{0, n / 2, n - 1} {
			checkNone(t, "a row that is a sum of others", dependent(n, at))
			m := sample(n, n, n)
			clear(m[at])
			checkNone(t, "a row of noughts", m)
			m = sample(n, n, n)
			for i := range m {
				m[i][at] = 0
			}
			checkNone(t, "noughts at one place of all rows", m)
			m = sample(n, n, n)
			copy(m[at], m[(at+1)%n])
			checkNone(t, "a row twice", m)
		}
		checkNone(t, "noughts", make0(n, n))
	}
}

// dependent is a matrix whose row at is a sum of the others, each times a number.
func dependent(n, at int) matrix.Matrix {
	m := sample(n, n, n+at)
	clear(m[at])
	for i := range m {
		if i == at {
			continue
		}
		for j := range m[at] {
			m[at][j] ^= product(byte(3*i+7), m[i][j])
		}
	}
	return m
}

func checkNone(t *testing.T, what string, m matrix.Matrix) {
	t.Helper()
	was := copied(m)
	if x, err := matrix.Invert(m); err != api.ErrSolve || len(x) != 0 {
		t.Errorf("Invert of %d rows, %s: %d rows, %d", len(m), what, len(x), err)
	}
	if !alike(m, was) {
		t.Errorf("Invert of %d rows, %s, changed them", len(m), what)
	}
}

// P3.3: what Invert refuses as an argument, whether there would be an inverse or not.
func TestInvertRefused(t *testing.T) {
	all := bad()
	all["one row of two"] = sample(1, 2, 1)
	all["two rows of one"] = sample(2, 1, 1)
	all["two rows of three"] = sample(2, 3, 1)
	all["three rows of two"] = sample(3, 2, 1)
	all["254 rows of 255"] = sample(254, 255, 1)
	all["255 rows of 254"] = sample(255, 254, 1)
	all["noughts, not square"] = make0(2, 3)
	all["the identity of 256"] = one(256)
	all["noughts, 256 rows of 256"] = make0(256, 256)
	for name, m := range all {
		was := copied(m)
		if x, err := matrix.Invert(m); err != api.ErrArg || len(x) != 0 {
			t.Errorf("Invert, %s: %d rows, %d", name, len(x), err)
		}
		if !alike(m, was) {
			t.Errorf("Invert changed what it refused: %s", name)
		}
	}
}

// P3.4: a matrix and its inverse, in both orders; the inverse of the inverse.
func TestInverse(t *testing.T) {
	for _, n := range []int{1, 2, 3, 4, 5, 8, 16, 33, 64, 100, 255} {
		m := invertible(n)
		x := mustInvert(t, m)
		identity, err := matrix.Identity(n)
		if err != api.OK {
			t.Fatal(err)
		}
		if !matrix.Same(mustMul(t, m, x), identity) || !matrix.Same(mustMul(t, x, m), identity) {
			t.Errorf("%d rows: the product with the inverse is not the identity", n)
		}
		if !matrix.Same(mustInvert(t, x), m) {
			t.Errorf("%d rows: the inverse of the inverse is another matrix", n)
		}
	}
	for n := 1; n <= 255; n += 127 {
		if !alike(mustInvert(t, one(n)), one(n)) {
			t.Errorf("the identity of %d is not its own inverse", n)
		}
	}
}

// invertible is a matrix of the kind that codes have: the inverse of a sum of two
// numbers at each place while they fit into the field, which always has an
// inverse; above that an upper and a lower triangle, multiplied by hand.
func invertible(n int) matrix.Matrix {
	if n <= 128 {
		m := make0(n, n)
		for i := range m {
			for j := range m[i] {
				m[i][j] = inverse(byte(n+i) ^ byte(j))
			}
		}
		return m
	}
	lower, upper := sample(n, n, n), sample(n, n, n+1)
	for i := range n {
		for j := range n {
			if j > i {
				lower[i][j] = 0
			}
			if j < i {
				upper[i][j] = 0
			}
		}
		lower[i][i], upper[i][i] = 3, 7
	}
	return byHand(lower, upper)
}

// inverse is found by trying.
func inverse(a byte) byte {
	for b := range 256 {
		if product(a, byte(b)) == 1 {
			return byte(b)
		}
	}
	return 0
}

// P3.4: the inverse of a product is the product of the inverses, turned round:
// there is but one matrix whose product is the identity.
func TestInverseOfAProduct(t *testing.T) {
	for n := 1; n <= 12; n++ {
		a, b := invertible(n), turned(n, n/2)
		for i := range b {
			b[i][i] ^= 2
		}
		both := mustMul(t, a, b)
		x, err := matrix.Invert(both)
		y, also := matrix.Invert(b)
		if err != also {
			t.Fatalf("%d rows: Invert of the product: %d, of the one that may have none: %d", n, err, also)
		}
		if err == api.OK && !alike(x, mustMul(t, y, mustInvert(t, a))) {
			t.Errorf("%d rows: the inverse of the product is another one", n)
		}
	}
}

// P3.4: brackets.
func TestBrackets(t *testing.T) {
	for _, x := range [][4]int{{1, 1, 1, 1}, {2, 3, 4, 5}, {5, 4, 3, 2}, {1, 9, 1, 9}, {9, 1, 9, 1}, {30, 20, 10, 40}, {1, 255, 255, 1}, {7, 7, 7, 7}} {
		for seed := range 5 {
			a, b, c := sample(x[0], x[1], seed), sample(x[1], x[2], seed+10), sample(x[2], x[3], seed+20)
			left := mustMul(t, mustMul(t, a, b), c)
			right := mustMul(t, a, mustMul(t, b, c))
			if !matrix.Same(left, right) {
				t.Errorf("%v: the product hangs on brackets", x)
			}
		}
	}
}

// P3.5: rows of a product are the product of those rows.
func TestRowsOfAProduct(t *testing.T) {
	for _, x := range [][3]int{{1, 1, 1}, {3, 2, 4}, {6, 5, 1}, {20, 30, 10}, {255, 3, 3}} {
		a, b := sample(x[0], x[1], 1), sample(x[1], x[2], 2)
		last := x[0] - 1
		for _, l := range [][]int{{0}, {last}, {last, 0}, {0, 0, last}, {last / 2, last, 0, last / 2}, make([]int, 255)} {
			left := mustRows(t, mustMul(t, a, b), l)
			right := mustMul(t, mustRows(t, a, l), b)
			if !matrix.Same(left, right) {
				t.Errorf("%v, rows %v: not the product of the rows", x, l)
			}
		}
	}
}
