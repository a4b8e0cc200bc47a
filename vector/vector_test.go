package vector_test

import (
	"bytes"
	"testing"

	"hayrick/api"
	"hayrick/field"
	"hayrick/vector"
)

// product multiplies as on paper: all shifted sums first, then the long division.
// The tests lean on it, and not on package field, where they say what is right.
func product(a, b byte) byte {
	p := uint(0)
	for i := range 8 {
		if b>>i&1 == 1 {
			p ^= uint(a) << i
		}
	}
	for i := 15; i >= 8; i-- {
		if p>>i&1 == 1 {
			p ^= 0x11d << (i - 8)
		}
	}
	return byte(p)
}

// sample is a vector of n bytes that differ from place to place and from seed to
// seed; each seed meets all 256 numbers in 256 places.
func sample(n, seed int) []byte {
	v := make([]byte, n)
	for i := range v {
		v[i] = byte(i*(2*seed+37) + seed*seed*11 + seed)
	}
	return v
}

// sizes are no byte, one, and those around where a loop or a byte might end.
func sizes() []int { return []int{0, 1, 2, 3, 7, 8, 9, 63, 64, 65, 112, 255, 256, 257, 448, 1000} }

// copied is new memory that has the same bytes.
func copied(b []byte) []byte { return append([]byte{}, b...) }

func TestExamples(t *testing.T) {
	a := []byte{1, 2, 3}
	if err := vector.AddTo(a, []byte{3, 2, 1}); err != api.OK || !bytes.Equal(a, []byte{2, 0, 2}) {
		t.Errorf("AddTo: %d, %v", err, a)
	}
	a = []byte{1, 2, 3}
	if err := vector.MulAdd(a, []byte{3, 2, 1}, 2); err != api.OK || !bytes.Equal(a, []byte{7, 6, 1}) {
		t.Errorf("MulAdd: %d, %v", err, a)
	}
	a = []byte{0x80, 0x01}
	vector.Scale(a, 2)
	if !bytes.Equal(a, []byte{0x1d, 0x02}) {
		t.Errorf("Scale: %x", a)
	}
	if d, err := vector.Dot([]byte{1, 2}, []byte{3, 4}); d != 11 || err != api.OK {
		t.Errorf("Dot: %d, %d", d, err)
	}
	if d, err := vector.Dot([]byte{1}, []byte{1, 2}); d != 0 || err != api.ErrArg {
		t.Errorf("Dot of vectors that do not fit: %d, %d", d, err)
	}
	if v, err := vector.Combine([]byte{1, 2}, [][]byte{{1, 0}, {0, 1}}); err != api.OK || !bytes.Equal(v, []byte{1, 2}) {
		t.Errorf("Combine: %v, %d", v, err)
	}
	if v, err := vector.Combine([]byte{1}, nil); err != api.ErrArg || len(v) != 0 {
		t.Errorf("Combine of one number and no row: %v, %d", v, err)
	}
}

// P2.1: AddTo, over all pairs of numbers and over sizes.
func TestAddTo(t *testing.T) {
	for shift := range 256 {
		src := sample(256, 0)
		for i := range src {
			src[i] += byte(shift)
		}
		checkAddTo(t, sample(256, 0), src)
	}
	for _, n := range sizes() {
		checkAddTo(t, sample(n, 1), sample(n, 2))
	}
}

func checkAddTo(t *testing.T, dst, src []byte) {
	t.Helper()
	want, source := copied(dst), copied(src)
	for i := range want {
		want[i] ^= src[i]
	}
	if err := vector.AddTo(dst, src); err != api.OK || !bytes.Equal(dst, want) {
		t.Errorf("AddTo of %d bytes: %d, %v, want %v", len(src), err, dst, want)
	}
	if !bytes.Equal(src, source) {
		t.Errorf("AddTo of %d bytes changed src", len(src))
	}
}

// P2.1: MulAdd, over all products, c of 0, 1 and 255 among them, and over sizes.
func TestMulAdd(t *testing.T) {
	for c := range 256 {
		checkMulAdd(t, sample(256, c), sample(256, 0), byte(c))
	}
	for _, n := range sizes() {
		for _, c := range []byte{0, 1, 2, 0x80, 255} {
			checkMulAdd(t, sample(n, 3), sample(n, 4), c)
		}
	}
}

func checkMulAdd(t *testing.T, dst, src []byte, c byte) {
	t.Helper()
	want, source := copied(dst), copied(src)
	for i := range want {
		want[i] ^= product(c, src[i])
	}
	if err := vector.MulAdd(dst, src, c); err != api.OK || !bytes.Equal(dst, want) {
		t.Errorf("MulAdd of %d bytes, c %d: %d, %v, want %v", len(src), c, err, dst, want)
	}
	if !bytes.Equal(src, source) {
		t.Errorf("MulAdd of %d bytes, c %d, changed src", len(src), c)
	}
}

// P2.1: Scale, over all products and over sizes.
func TestScale(t *testing.T) {
	for c := range 256 {
		checkScale(t, sample(256, 0), byte(c))
	}
	for _, n := range sizes() {
		for _, c := range []byte{0, 1, 2, 0x80, 255} {
			checkScale(t, sample(n, 5), c)
		}
	}
}

func checkScale(t *testing.T, b []byte, c byte) {
	t.Helper()
	want := copied(b)
	for i := range want {
		want[i] = product(c, b[i])
	}
	vector.Scale(b, c)
	if !bytes.Equal(b, want) {
		t.Errorf("Scale of %d bytes, c %d: %v, want %v", len(b), c, b, want)
	}
}

// P2.1: one list as both.
func TestOneList(t *testing.T) {
	for _, n := range sizes() {
		a := sample(n, 6)
		if err := vector.AddTo(a, a); err != api.OK || !bytes.Equal(a, make([]byte, n)) {
			t.Errorf("AddTo of %d bytes to themselves: %d, %v", n, err, a)
		}
		for _, c := range []byte{0, 1, 2, 77, 255} {
			a, want := sample(n, 6), sample(n, 6)
			for i := range want {
				want[i] = product(c^1, want[i])
			}
			if err := vector.MulAdd(a, a, c); err != api.OK || !bytes.Equal(a, want) {
				t.Errorf("MulAdd of %d bytes to themselves, c %d: %d, %v, want %v", n, c, err, a, want)
			}
		}
		a = sample(n, 6)
		if d, err := vector.Dot(a, a); err != api.OK || d != dot(a, a) {
			t.Errorf("Dot of %d bytes with themselves: %d, %d", n, d, err)
		}
		if !vector.Same(a, a) {
			t.Errorf("%d bytes are not the same as themselves", n)
		}
	}
}

// P2.1: pieces of one list, which share memory: both are read as they were handed
// in, and what stands beside dst stays.
func TestPieces(t *testing.T) {
	for _, x := range []struct{ dst, src int }{{4, 5}, {5, 4}, {4, 9}, {9, 4}, {2, 12}, {12, 2}} {
		all := sample(32, 7)
		want := copied(all)
		for i := range 10 {
			want[x.dst+i] ^= all[x.src+i]
		}
		if err := vector.AddTo(all[x.dst:x.dst+10], all[x.src:x.src+10]); err != api.OK || !bytes.Equal(all, want) {
			t.Errorf("AddTo at %d, of %d: %d, %v, want %v", x.dst, x.src, err, all, want)
		}
		all = sample(32, 7)
		want = copied(all)
		for i := range 10 {
			want[x.dst+i] ^= product(9, all[x.src+i])
		}
		if err := vector.MulAdd(all[x.dst:x.dst+10], all[x.src:x.src+10], 9); err != api.OK || !bytes.Equal(all, want) {
			t.Errorf("MulAdd at %d, of %d: %d, %v, want %v", x.dst, x.src, err, all, want)
		}
	}
	all := sample(32, 7)
	want := copied(all)
	for i := 10; i < 20; i++ {
		want[i] = product(9, want[i])
	}
	if vector.Scale(all[10:20], 9); !bytes.Equal(all, want) {
		t.Errorf("Scale of a piece: %v, want %v", all, want)
	}
}

// R4: nil and empty vectors are one to each call.
func TestNoBytes(t *testing.T) {
	vector.Scale(nil, 3)
	vector.Scale([]byte{}, 3)
	for _, a := range [][]byte{nil, {}} {
		for _, b := range [][]byte{nil, {}} {
			if err := vector.AddTo(a, b); err != api.OK {
				t.Errorf("AddTo: %d", err)
			}
			if err := vector.MulAdd(a, b, 3); err != api.OK {
				t.Errorf("MulAdd: %d", err)
			}
			if d, err := vector.Dot(a, b); d != 0 || err != api.OK {
				t.Errorf("Dot: %d, %d", d, err)
			}
			if !vector.Same(a, b) {
				t.Error("no bytes are not the same as no bytes")
			}
			if v, err := vector.Combine([]byte{5, 6}, [][]byte{a, b}); len(v) != 0 || err != api.OK {
				t.Errorf("Combine of rows without bytes: %v, %d", v, err)
			}
		}
	}
}

// What does not fit is refused, whichever is the longer, and changes nothing.
func TestRefused(t *testing.T) {
	for _, x := range [][2]int{{0, 1}, {1, 0}, {1, 2}, {2, 1}, {7, 8}, {256, 255}, {256, 512}, {257, 1}} {
		a, b := sample(x[0], 8), sample(x[1], 9)
		if err := vector.AddTo(a, b); err != api.ErrArg {
			t.Errorf("AddTo of %d and %d bytes: %d", x[0], x[1], err)
		}
		for _, c := range []byte{0, 1, 255} {
			if err := vector.MulAdd(a, b, c); err != api.ErrArg {
				t.Errorf("MulAdd of %d and %d bytes, c %d: %d", x[0], x[1], c, err)
			}
		}
		if d, err := vector.Dot(a, b); d != 0 || err != api.ErrArg {
			t.Errorf("Dot of %d and %d bytes: %d, %d", x[0], x[1], d, err)
		}
		if vector.Same(a, b) {
			t.Errorf("%d bytes are the same as %d", x[0], x[1])
		}
		if !bytes.Equal(a, sample(x[0], 8)) || !bytes.Equal(b, sample(x[1], 9)) {
			t.Errorf("%d and %d bytes changed", x[0], x[1])
		}
	}
}

// dot is the sum of the products of two vectors that fit.
func dot(a, b []byte) byte {
	var sum byte
	for i := range a {
		sum ^= product(a[i], b[i])
	}
	return sum
}

// P2.2: Dot, over all products one by one, and over sizes; it changes neither.
func TestDot(t *testing.T) {
	for a := range 256 {
		for b := range 256 {
			if d, err := vector.Dot([]byte{byte(a)}, []byte{byte(b)}); d != product(byte(a), byte(b)) || err != api.OK {
				t.Fatalf("Dot(%d, %d) = %d, %d", a, b, d, err)
			}
		}
	}
	for _, n := range sizes() {
		for seed := range 20 {
			a, b := sample(n, seed), sample(n, seed+1)
			if d, err := vector.Dot(a, b); d != dot(a, b) || err != api.OK {
				t.Errorf("Dot of %d bytes: %d, %d, want %d", n, d, err, dot(a, b))
			}
			if !bytes.Equal(a, sample(n, seed)) || !bytes.Equal(b, sample(n, seed+1)) {
				t.Errorf("Dot of %d bytes changed them", n)
			}
		}
	}
}

// grid is so many rows of so many bytes.
func grid(rows, bytes, seed int) [][]byte {
	g := make([][]byte, rows)
	for r := range g {
		g[r] = sample(bytes, seed+r)
	}
	return g
}

// combination is the sum of the rows, of n bytes each, each times its number.
func combination(c []byte, rows [][]byte, n int) []byte {
	v := make([]byte, n)
	for r, row := range rows {
		for i := range v {
			v[i] ^= product(c[r], row[i])
		}
	}
	return v
}

// combined is what Combine answers, where it may not refuse.
func combined(t *testing.T, c []byte, rows [][]byte) []byte {
	t.Helper()
	v, err := vector.Combine(c, rows)
	if err != api.OK {
		t.Fatalf("Combine of %d numbers and %d rows: %d", len(c), len(rows), err)
	}
	return v
}

// P2.2: Combine, over numbers of rows and sizes; it only reads.
func TestCombine(t *testing.T) {
	for _, rows := range []int{0, 1, 2, 3, 8, 255, 256, 300} {
		for _, n := range []int{0, 1, 2, 7, 64, 257} {
			c, g := sample(rows, n), grid(rows, n, 3)
			want := combination(c, g, n)
			if rows == 0 {
				want = nil
			}
			if v := combined(t, c, g); !bytes.Equal(v, want) {
				t.Errorf("Combine of %d rows of %d bytes: %v, want %v", rows, n, v, want)
			}
			if !bytes.Equal(c, sample(rows, n)) {
				t.Errorf("Combine of %d rows of %d bytes changed its numbers", rows, n)
			}
			for r := range g {
				if !bytes.Equal(g[r], sample(n, 3+r)) {
					t.Errorf("Combine of %d rows of %d bytes changed row %d", rows, n, r)
				}
			}
		}
	}
	for c := range 256 {
		row := sample(256, 0)
		if v := combined(t, []byte{byte(c)}, [][]byte{row}); !bytes.Equal(v, combination([]byte{byte(c)}, [][]byte{row}, 256)) {
			t.Errorf("Combine of one row, times %d: %v", c, v)
		}
	}
}

// P2.2: no number and no row at all, nil or empty: an empty vector.
func TestCombineNoRow(t *testing.T) {
	for _, c := range [][]byte{nil, {}} {
		for _, rows := range [][][]byte{nil, {}} {
			if v := combined(t, c, rows); len(v) != 0 {
				t.Errorf("Combine of no row: %v", v)
			}
		}
	}
}

// P2.2: what Combine refuses.
func TestCombineRefused(t *testing.T) {
	one, two := []byte{1}, []byte{1, 2}
	for i, x := range []struct {
		c    []byte
		rows [][]byte
	}{
		{[]byte{1}, nil},
		{[]byte{0}, [][]byte{}},
		{nil, [][]byte{two}},
		{nil, [][]byte{nil}},
		{[]byte{1, 2}, [][]byte{two}},
		{[]byte{1}, [][]byte{two, two}},
		{[]byte{1, 2, 3}, [][]byte{two, two}},
		{[]byte{1, 2}, [][]byte{one, two}},
		{[]byte{1, 2}, [][]byte{two, one}},
		{[]byte{1, 2}, [][]byte{two, nil}},
		{[]byte{1, 2}, [][]byte{nil, two}},
		{[]byte{0, 0}, [][]byte{one, two}},
		{[]byte{1, 2, 3}, [][]byte{two, one, two}},
		{[]byte{1, 2, 3, 4}, [][]byte{two, two, two, one}},
		{[]byte{1, 2, 3, 4}, [][]byte{two, two, two, {1, 2, 3}}},
		{[]byte{0, 0, 0, 0}, [][]byte{one, one, one, nil}},
	} {
		c := copied(x.c)
		if v, err := vector.Combine(x.c, x.rows); err != api.ErrArg || len(v) != 0 {
			t.Errorf("row %d: Combine: %v, %d", i, v, err)
		}
		if !bytes.Equal(x.c, c) || !bytes.Equal(one, []byte{1}) || !bytes.Equal(two, []byte{1, 2}) {
			t.Errorf("row %d: Combine changed what it refused", i)
		}
	}
}

// P2.2: what Combine answers shares no memory with a row, with the numbers, or
// with what the next call answers.
func TestCombineNewMemory(t *testing.T) {
	for _, rows := range []int{1, 2, 3} {
		for number := range 2 {
			c, g := sample(rows, 1), grid(rows, rows, 4)
			clear(c)
			c[rows-1] = byte(number)
			first := combined(t, c, g)
			second := combined(t, c, g)
			want := copied(first)
			numbers := copied(c)
			for i := range second {
				second[i] ^= 255
			}
			second = append(second, 1)
			if !bytes.Equal(first, want) || !bytes.Equal(c, numbers) {
				t.Errorf("%d rows, number %d: an answer shares memory with another, or with the numbers", rows, number)
			}
			for r := range g {
				if !bytes.Equal(g[r], sample(rows, 4+r)) {
					t.Errorf("%d rows, number %d: the answer shares memory with row %d", rows, number, r)
				}
				clear(g[r])
			}
			if clear(c); !bytes.Equal(first, want) {
				t.Errorf("%d rows, number %d: the answer changed with what was handed in", rows, number)
			}
		}
	}
}

// P2.2: rows that are one list count as often as they stand there.
func TestCombineOneRowTwice(t *testing.T) {
	row := sample(64, 5)
	if v := combined(t, []byte{7, 7}, [][]byte{row, row}); !bytes.Equal(v, make([]byte, 64)) {
		t.Errorf("twice the same: %v", v)
	}
	if v := combined(t, []byte{6, 7}, [][]byte{row, row}); !bytes.Equal(v, row) {
		t.Errorf("6 and 7 times the same: %v", v)
	}
}

// P2.2: Same tells each single bit, at each place, and is no sum: two bytes that
// changed their places are not the same.
func TestSame(t *testing.T) {
	for _, n := range sizes() {
		a := sample(n, 1)
		if !vector.Same(a, sample(n, 1)) {
			t.Errorf("%d bytes are not the same as their copy", n)
		}
		for i := range n {
			b := copied(a)
			b[i] ^= 1 << (i % 8)
			if vector.Same(a, b) || vector.Same(b, a) {
				t.Errorf("%d bytes that differ at %d are the same", n, i)
			}
		}
		if vector.Same(a, append(copied(a), 0)) || vector.Same(append(copied(a), 0), a) {
			t.Errorf("%d bytes are the same with a 0 behind them", n)
		}
		if !bytes.Equal(a, sample(n, 1)) {
			t.Errorf("Same changed %d bytes", n)
		}
	}
	if vector.Same([]byte{1, 2}, []byte{2, 1}) || vector.Same([]byte{1, 1}, []byte{2, 2}) {
		t.Error("vectors of one sum are the same")
	}
}

// P2.3: AddTo twice and MulAdd twice undo themselves, Scale is undone by the inverse.
func TestUndone(t *testing.T) {
	for _, n := range sizes() {
		a, b := sample(n, 10), sample(n, 11)
		for range 2 {
			if err := vector.AddTo(a, b); err != api.OK {
				t.Fatal(err)
			}
		}
		if !bytes.Equal(a, sample(n, 10)) {
			t.Errorf("AddTo twice of %d bytes: %v", n, a)
		}
	}
	for c := range 256 {
		a, b := sample(256, 10), sample(256, 11)
		for range 2 {
			if err := vector.MulAdd(a, b, byte(c)); err != api.OK {
				t.Fatal(err)
			}
		}
		if !bytes.Equal(a, sample(256, 10)) {
			t.Errorf("MulAdd twice, c %d: %v", c, a)
		}
		inverse, err := field.Inv(byte(c))
		if err != api.OK {
			continue
		}
		vector.Scale(b, byte(c))
		if vector.Scale(b, inverse); !bytes.Equal(b, sample(256, 11)) {
			t.Errorf("Scale by %d and by %d: %v", c, inverse, b)
		}
	}
}

// P2.4: Dot of a combination is the combination of the Dots.
func TestDotOfCombination(t *testing.T) {
	for _, rows := range []int{1, 2, 5, 40} {
		for _, n := range []int{0, 1, 7, 100} {
			for seed := range 10 {
				a, c, g := sample(n, seed), sample(rows, seed+1), grid(rows, n, seed+2)
				dots := make([]byte, rows)
				for r := range g {
					dots[r], _ = vector.Dot(g[r], a)
				}
				left, err := vector.Dot(combined(t, c, g), a)
				right, also := vector.Dot(c, dots)
				if left != right || err != api.OK || also != api.OK {
					t.Errorf("%d rows of %d bytes: %d, %d, by the Dots %d, %d", rows, n, left, err, right, also)
				}
			}
		}
	}
}

// P2.4: Combine of rows that are sums, and of rows behind rows, is the sum of both
// Combines.
func TestCombineOfTwo(t *testing.T) {
	for _, rows := range []int{1, 2, 5, 40} {
		for _, n := range []int{0, 1, 7, 100} {
			for seed := range 10 {
				c, d := sample(rows, seed), sample(rows, seed+1)
				g, h := grid(rows, n, seed+2), grid(rows, n, seed+70)
				both := grid(rows, n, seed+2)
				for r := range both {
					if err := vector.AddTo(both[r], h[r]); err != api.OK {
						t.Fatal(err)
					}
				}
				checkSum(t, combined(t, c, both), combined(t, c, g), combined(t, c, h))
				long := combined(t, append(copied(c), d...), append(append([][]byte{}, g...), h...))
				checkSum(t, long, combined(t, c, g), combined(t, d, h))
			}
		}
	}
}

func checkSum(t *testing.T, whole, a, b []byte) {
	t.Helper()
	if err := vector.AddTo(a, b); err != api.OK || !bytes.Equal(whole, a) {
		t.Errorf("%v, %d, as the sum of both %v", whole, err, a)
	}
}
