package code_test

import (
	"bytes"
	"math"
	"slices"
	"testing"

	"hayrick/api"
	"hayrick/code"
)

// products has them all, as the tests ask for many.
var products = func() (all [256][256]byte) {
	for a := range all {
		for b := range all[a] {
			all[a][b] = onPaper(byte(a), byte(b))
		}
	}
	return all
}()

// inverses has the number at a whose product with a is 1, found by trying all.
var inverses = func() (all [256]byte) {
	for a := range all {
		for b := range all {
			if products[a][b] == 1 {
				all[a] = byte(b)
			}
		}
	}
	return all
}()

// onPaper multiplies as on paper: all shifted sums first, then the long division.
// The tests lean on it, and not on package field, where they say what is right.
func onPaper(a, b byte) byte {
	p := uint(0)
	for i := range 8 {
		if b>>i&1 == 1 {
			p ^= uint(a) << i
		}
	}
	for i := 15; i >= 8; i-- {
		if p>>i&1 == 1 {
			p ^= 0x11d << (i - 8)
		}
	}
	return byte(p)
}

// source answers numbers that have no order to be seen; another seed, another row.
func source(seed int) func(below int) int {
	state := uint32(seed)*2654435761 + 12345
	return func(below int) int {
		state = state*1664525 + 1013904223
		return int(state>>16) % below
	}
}

// sample is a list of chunks of such numbers.
func sample(count, length, seed int) [][]byte {
	next := source(seed)
	made := make([][]byte, count)
	for i := range made {
		made[i] = make([]byte, length)
		for j := range made[i] {
			made[i][j] = byte(next(256))
		}
	}
	return made
}

// generator is written out by the document's words.
func generator(k, n int) [][]byte {
	made := make([][]byte, n)
	for i := range made {
		made[i] = make([]byte, k)
		for j := range made[i] {
			switch {
			case i >= k:
				made[i][j] = inverses[i^j]
			case i == j:
				made[i][j] = 1
			}
		}
	}
	return made
}

// byHand is the code of data, number by number.
func byHand(k, n int, data [][]byte) [][]byte {
	rows := generator(k, n)
	made := make([][]byte, n)
	for i := range made {
		made[i] = make([]byte, len(data[0]))
		for j := range data {
			times := &products[rows[i][j]]
			for at, b := range data[j] {
				made[i][at] ^= times[b]
			}
		}
	}
	return made
}

// alike: whether two lists of chunks have the same bytes.
func alike(a, b [][]byte) bool { return slices.EqualFunc(a, b, bytes.Equal) }

// copied is new memory that has the same bytes.
func copied(chunks [][]byte) [][]byte {
	made := make([][]byte, len(chunks))
	for i, chunk := range chunks {
		made[i] = append([]byte{}, chunk...)
	}
	return made
}

// picked has the chunks at those numbers; they share their memory.
func picked(chunks [][]byte, at []int) [][]byte {
	made := make([][]byte, len(at))
	for j, number := range at {
		made[j] = chunks[number]
	}
	return made
}

// spoil changes each byte of a chunk, and of the room behind it.
func spoil(chunk []byte) {
	chunk = chunk[:cap(chunk)]
	for j := range chunk {
		chunk[j] ^= 0xa5
	}
}

// checkNew: that what a call answered shares no memory with what it was handed,
// and that no two of the answer's chunks share any. It spoils the answer.
func checkNew(t *testing.T, what string, got, given [][]byte) {
	t.Helper()
	want, were := copied(got), copied(given)
	for i := range got {
		spoil(got[i])
		for j := range got {
			if j != i && !bytes.Equal(got[j], want[j]) {
				t.Fatalf("%s: chunk %d shares memory with chunk %d", what, j, i)
			}
		}
		copy(got[i], want[i])
	}
	for i := range got {
		spoil(got[i])
	}
	if !alike(given, were) {
		t.Errorf("%s: the answer shares memory with what was handed in", what)
	}
}

type shape struct{ k, n int }

// shapes are all small ones, and those at the document's edges.
func shapes() (made []shape) {
	for n := 2; n <= 7; n++ {
		for k := 1; k < n; k++ {
			made = append(made, shape{k, n})
		}
	}
	return append(made, edges()...)
}

// edges are shapes with great numbers.
func edges() []shape {
	return []shape{{1, 255}, {2, 255}, {10, 14}, {20, 40}, {127, 255}, {250, 255}, {253, 254}, {253, 255}, {254, 255}}
}

// wrong are shapes that may not be.
func wrong() []shape {
	return []shape{
		{0, 0}, {0, 1}, {0, 3}, {0, 255}, {1, 0}, {1, 1}, {2, 2}, {2, 1}, {3, 2}, {254, 254}, {255, 255}, {255, 256},
		{1, 256}, {254, 256}, {255, 254}, {-1, 0}, {-1, 3}, {-2, -1}, {1, -1}, {math.MinInt, 3}, {math.MinInt, math.MaxInt},
		{2, math.MaxInt}, {2, math.MinInt}, {math.MaxInt, 3}, {math.MaxInt, math.MinInt}, {257, 258}, {1, 257}, {256, 257},
	}
}

func TestMay(t *testing.T) {
	for k := -3; k <= 259; k++ {
		for n := -3; n <= 259; n++ {
			want := 1 <= k && k < n && n < 256
			if got := code.May(k, n); got != want {
				t.Fatalf("May(%d, %d): %v", k, n, got)
			}
		}
	}
	for _, s := range wrong() {
		if code.May(s.k, s.n) {
			t.Errorf("May(%d, %d)", s.k, s.n)
		}
	}
}

func TestGenerator(t *testing.T) {
	for _, s := range append(shapes(), shape{128, 255}, shape{200, 231}) {
		got, err := code.Generator(s.k, s.n)
		if err != api.OK || !alike(got, generator(s.k, s.n)) {
			t.Fatalf("Generator(%d, %d): %v %v", s.k, s.n, got, err)
		}
		checkNew(t, "Generator", got, nil)
		again, err := code.Generator(s.k, s.n)
		if err != api.OK || !alike(again, generator(s.k, s.n)) {
			t.Fatalf("Generator(%d, %d), the second time: %v", s.k, s.n, err)
		}
	}
	for _, s := range wrong() {
		if got, err := code.Generator(s.k, s.n); err != api.ErrArg || got != nil {
			t.Errorf("Generator(%d, %d): %v %v", s.k, s.n, got, err)
		}
	}
}

func TestGeneratorExamples(t *testing.T) {
	got, err := code.Generator(1, 3)
	if err != api.OK || !alike(got, [][]byte{{1}, {1}, {142}}) {
		t.Errorf("Generator(1, 3): %v %v", got, err)
	}
	got, err = code.Generator(2, 3)
	if err != api.OK || !alike(got, [][]byte{{1, 0}, {0, 1}, {142, 244}}) {
		t.Errorf("Generator(2, 3): %v %v", got, err)
	}
}

func TestEncode(t *testing.T) {
	for _, s := range shapes() {
		lengths := []int{0, 1, 2, 5, 56, 448, 1000}
		if s.n > 100 {
			lengths = []int{0, 1, 3, 40}
		}
		for _, length := range lengths {
			data := sample(s.k, length, s.k+s.n)
			were := copied(data)
			got, err := code.Encode(s.k, s.n, data)
			if err != api.OK || !alike(got, byHand(s.k, s.n, were)) {
				t.Fatalf("Encode(%d, %d) of %d bytes: %v", s.k, s.n, length, err)
			}
			if !alike(data, were) {
				t.Errorf("Encode(%d, %d) changed its data", s.k, s.n)
			}
			checkNew(t, "Encode", got, data)
		}
	}
}

func TestEncodeExamples(t *testing.T) {
	got, err := code.Encode(1, 3, [][]byte{{7}})
	if err != api.OK || !alike(got, [][]byte{{7}, {7}, {onPaper(7, 142)}}) {
		t.Errorf("Encode(1, 3): %v %v", got, err)
	}
	if got, err := code.Encode(2, 2, [][]byte{{5}, {9}}); err != api.ErrArg || got != nil {
		t.Errorf("Encode(2, 2): %v %v", got, err)
	}
}

// TestEncodeAlike: one chunk that is handed in twice is two of the answer's.
func TestEncodeAlike(t *testing.T) {
	one := []byte{3, 1, 4}
	data := [][]byte{one, one, one}
	got, err := code.Encode(3, 4, data)
	if err != api.OK || !alike(got, byHand(3, 4, data)) {
		t.Fatalf("Encode: %v %v", got, err)
	}
	checkNew(t, "Encode", got, data)
}

// misfits are data that are not k chunks, all as long.
func misfits(k int) [][][]byte {
	made := [][][]byte{nil, {}, sample(k+1, 3, 1), sample(k+1, 0, 1), sample(256, 1, 1)}
	if k > 1 {
		made = append(made, sample(k-1, 3, 2), sample(1, 3, 2))
	}
	for i := range k {
		if k == 1 {
			break
		}
		longer, shorter, none := sample(k, 3, 3), sample(k, 3, 4), sample(k, 1, 5)
		longer[i] = append(longer[i], 1)
		shorter[i] = shorter[i][:2]
		none[i] = nil
		made = append(made, longer, shorter, none)
	}
	return made
}

func TestEncodeRefuses(t *testing.T) {
	for _, s := range wrong() {
		for _, count := range []int{0, 1, 2, 3, 254, 255, 256} {
			if got, err := code.Encode(s.k, s.n, sample(count, 2, 1)); err != api.ErrArg || got != nil {
				t.Errorf("Encode(%d, %d) of %d chunks: %v %v", s.k, s.n, count, got, err)
			}
		}
	}
	for _, s := range []shape{{1, 2}, {1, 255}, {2, 3}, {3, 5}, {4, 6}, {254, 255}} {
		for i, data := range misfits(s.k) {
			if got, err := code.Encode(s.k, s.n, data); err != api.ErrArg || got != nil {
				t.Errorf("Encode(%d, %d) of wrong data %d: %v %v", s.k, s.n, i, got, err)
			}
		}
	}
}

func TestEncodeNoBytes(t *testing.T) {
	for _, data := range [][][]byte{{nil, nil}, {{}, {}}, {nil, {}}, {{}, nil}} {
		got, err := code.Encode(2, 5, data)
		if err != api.OK || !alike(got, make([][]byte, 5)) {
			t.Errorf("Encode: %v %v", got, err)
		}
		one, err := code.One(2, 5, 4, data)
		if err != api.OK || len(one) != 0 {
			t.Errorf("One: %v %v", one, err)
		}
		got, err = code.Decode(2, 5, []int{4, 1}, data)
		if err != api.OK || !alike(got, make([][]byte, 2)) {
			t.Errorf("Decode: %v %v", got, err)
		}
	}
}

func TestOne(t *testing.T) {
	for _, s := range shapes() {
		data := sample(s.k, 7, s.k*s.n)
		were := copied(data)
		want := byHand(s.k, s.n, data)
		for i := range s.n {
			got, err := code.One(s.k, s.n, i, data)
			if err != api.OK || !bytes.Equal(got, want[i]) {
				t.Fatalf("One(%d, %d, %d): %v %v", s.k, s.n, i, got, err)
			}
			checkNew(t, "One", [][]byte{got}, data)
		}
		if !alike(data, were) {
			t.Errorf("One(%d, %d) changed its data", s.k, s.n)
		}
		for _, i := range []int{-1, s.n, s.n + 1, 255, 256, math.MinInt, math.MaxInt} {
			if got, err := code.One(s.k, s.n, i, data); err != api.ErrArg || got != nil {
				t.Errorf("One(%d, %d, %d): %v %v", s.k, s.n, i, got, err)
			}
		}
	}
	if got, err := code.One(3, 5, 4, sample(3, 900, 3)); err != api.OK || !bytes.Equal(got, byHand(3, 5, sample(3, 900, 3))[4]) {
		t.Errorf("One of long chunks: %v", err)
	}
}

func TestOneRefuses(t *testing.T) {
	for _, s := range wrong() {
		for _, count := range []int{0, 1, 2, 3, 254, 255, 256} {
			for _, i := range []int{-1, 0, 1, 255} {
				if got, err := code.One(s.k, s.n, i, sample(count, 2, 1)); err != api.ErrArg || got != nil {
					t.Errorf("One(%d, %d, %d) of %d chunks: %v %v", s.k, s.n, i, count, got, err)
				}
			}
		}
	}
	for _, s := range []shape{{1, 2}, {1, 255}, {2, 3}, {3, 5}, {4, 6}, {254, 255}} {
		for at, data := range misfits(s.k) {
			for _, i := range []int{0, s.n - 1} {
				if got, err := code.One(s.k, s.n, i, data); err != api.ErrArg || got != nil {
					t.Errorf("One(%d, %d, %d) of wrong data %d: %v %v", s.k, s.n, i, at, got, err)
				}
			}
		}
	}
}
