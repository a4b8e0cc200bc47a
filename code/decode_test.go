package code_test

import (
	"math"
	"slices"
	"testing"

	"hayrick/api"
	"hayrick/code"
)

// orders hands on each row of count different numbers below n.
func orders(n, count int, each func(at []int)) {
	var more func(at []int)
	more = func(at []int) {
		if len(at) == count {
			each(at)
			return
		}
		for number := range n {
			if !slices.Contains(at, number) {
				more(append(slices.Clone(at), number))
			}
		}
	}
	more(nil)
}

// mixed has the numbers below n in an order that the seed says.
func mixed(n, seed int) []int {
	next := source(seed)
	made := make([]int, n)
	for i := range made {
		made[i] = i
	}
	for i := n - 1; i > 0; i-- {
		j := next(i + 1)
		made[i], made[j] = made[j], made[i]
	}
	return made
}

// from has the numbers from a up to b - 1.
func from(a, b int) (made []int) {
	for i := a; i < b; i++ {
		made = append(made, i)
	}
	return made
}

// checkDecode: that Decode tells the data, and leaves what it is handed as it was.
func checkDecode(t *testing.T, s shape, at []int, chunks, want [][]byte) {
	t.Helper()
	numbers, were := slices.Clone(at), copied(chunks)
	got, err := code.Decode(s.k, s.n, at, chunks)
	if err != api.OK || !alike(got, want) {
		t.Fatalf("Decode(%d, %d, %v): %v %v", s.k, s.n, at, got, err)
	}
	if !slices.Equal(at, numbers) || !alike(chunks, were) {
		t.Fatalf("Decode(%d, %d, %v) changed what it was handed", s.k, s.n, at)
	}
	checkNew(t, "Decode", got, chunks)
}

// TestDecodeAnyOrder: each k of n chunks, and more of them, in each order.
func TestDecodeAnyOrder(t *testing.T) {
	for n := 2; n <= 6; n++ {
		for k := 1; k < n; k++ {
			data := sample(k, 4, n*k)
			all := byHand(k, n, data)
			for count := k; count <= n; count++ {
				orders(n, count, func(at []int) {
					checkDecode(t, shape{k, n}, at, copied(picked(all, at)), data)
				})
			}
		}
	}
}

// TestDecodeGreat: shapes with great numbers, by data alone, by no data, by a mix.
func TestDecodeGreat(t *testing.T) {
	for _, s := range edges() {
		data := sample(s.k, 9, s.n)
		all := byHand(s.k, s.n, data)
		rows := [][]int{from(0, s.k), from(s.n-s.k, s.n), from(0, s.n)}
		for seed := range 3 {
			rows = append(rows, mixed(s.n, seed), mixed(s.n, seed)[:s.k])
		}
		for _, at := range rows {
			checkDecode(t, s, at, copied(picked(all, at)), data)
		}
	}
}

// TestDecodeLong: chunks are longer than a matrix may be wide.
func TestDecodeLong(t *testing.T) {
	data := sample(3, 1000, 8)
	all := byHand(3, 6, data)
	for _, at := range [][]int{{5, 3, 4}, {4, 1, 0}, {2, 1, 0}} {
		checkDecode(t, shape{3, 6}, at, copied(picked(all, at)), data)
	}
}

// TestDecodeOfEncode: what Encode says is what Decode reads.
func TestDecodeOfEncode(t *testing.T) {
	for _, s := range shapes() {
		data := sample(s.k, 3, s.n)
		all, err := code.Encode(s.k, s.n, data)
		if err != api.OK {
			t.Fatal(err)
		}
		at := mixed(s.n, s.k)[:s.k]
		checkDecode(t, s, at, copied(picked(all, at)), data)
	}
}

// TestDecodeAnyChunks: k chunks that came from nowhere are those of a code, too.
func TestDecodeAnyChunks(t *testing.T) {
	for _, s := range append(shapes(), shape{5, 9}) {
		for seed := range 3 {
			at := mixed(s.n, seed)[:s.k]
			chunks := sample(s.k, 5, seed)
			got, err := code.Decode(s.k, s.n, at, chunks)
			if err != api.OK || len(got) != s.k {
				t.Fatalf("Decode(%d, %d, %v): %v %v", s.k, s.n, at, got, err)
			}
			if !alike(picked(byHand(s.k, s.n, got), at), chunks) {
				t.Errorf("Decode(%d, %d, %v): the code has other chunks", s.k, s.n, at)
			}
		}
	}
}

// TestDecodeBehind: bytes behind the first k are not looked at.
func TestDecodeBehind(t *testing.T) {
	for _, s := range []shape{{1, 2}, {1, 4}, {2, 3}, {2, 5}, {3, 6}, {100, 255}, {127, 255}} {
		data := sample(s.k, 6, 1)
		all := byHand(s.k, s.n, data)
		rows := [][]int{from(0, s.n), mixed(s.n, 1), mixed(s.n, 2), append(from(s.n-s.k, s.n), from(0, s.n-s.k)...)}
		for _, at := range rows {
			for count := s.k; count <= s.n; count += 1 + s.k/2 {
				chunks := copied(picked(all, at[:count]))
				for _, chunk := range chunks[s.k:] {
					spoil(chunk)
				}
				checkDecode(t, s, at[:count], chunks, data)
			}
		}
	}
}

func TestDecodeExamples(t *testing.T) {
	data := [][]byte{{5}, {9}}
	third := onPaper(5, 142) ^ onPaper(9, 244)
	checkDecode(t, shape{2, 3}, []int{2, 0}, [][]byte{{third}, {5}}, data)
	for number := range 3 {
		if got, err := code.Decode(2, 3, []int{number}, [][]byte{{5}}); err != api.ErrShort || got != nil {
			t.Errorf("Decode of one chunk: %v %v", got, err)
		}
	}
}

// TestDecodeOneChunk: a list that has one memory for two chunks is read as it is.
func TestDecodeOneChunk(t *testing.T) {
	one := []byte{1, 2, 3}
	chunks := [][]byte{one, one}
	got, err := code.Decode(2, 4, []int{1, 0}, chunks)
	if err != api.OK || !alike(got, chunks) {
		t.Fatalf("Decode: %v %v", got, err)
	}
	checkNew(t, "Decode", got, chunks)
}

func TestDecodeShort(t *testing.T) {
	for _, s := range shapes() {
		all := sample(s.n, 2, 1)
		at := mixed(s.n, 3)
		for count := 0; count < s.k; count += 1 + s.k/10 {
			got, err := code.Decode(s.k, s.n, at[:count], all[:count])
			if err != api.ErrShort || got != nil {
				t.Errorf("Decode(%d, %d) of %d chunks: %v %v", s.k, s.n, count, got, err)
			}
		}
		if got, err := code.Decode(s.k, s.n, at[:s.k-1], all[:s.k-1]); err != api.ErrShort || got != nil {
			t.Errorf("Decode(%d, %d) of one chunk too few: %v %v", s.k, s.n, got, err)
		}
		if got, err := code.Decode(s.k, s.n, nil, nil); err != api.ErrShort || got != nil {
			t.Errorf("Decode(%d, %d) of nothing: %v %v", s.k, s.n, got, err)
		}
	}
}

// checkRefused: that Decode tells ErrArg, and nothing else.
func checkRefused(t *testing.T, k, n int, at []int, chunks [][]byte) {
	t.Helper()
	if got, err := code.Decode(k, n, at, chunks); err != api.ErrArg || got != nil {
		t.Errorf("Decode(%d, %d, %v) of %d chunks: %v %v", k, n, at, len(chunks), got, err)
	}
}

func TestDecodeRefusesShapes(t *testing.T) {
	for _, s := range wrong() {
		checkRefused(t, s.k, s.n, nil, nil)
		for _, count := range []int{1, 2, 3, 254, 255, 256} {
			checkRefused(t, s.k, s.n, from(0, count), sample(count, 2, 1))
		}
	}
}

func TestDecodeRefusesCounts(t *testing.T) {
	for _, numbers := range from(0, 6) {
		for _, chunks := range from(0, 6) {
			if numbers != chunks {
				checkRefused(t, 2, 5, from(0, numbers), sample(chunks, 2, 1))
				checkRefused(t, 4, 5, from(0, numbers), sample(chunks, 2, 1))
			}
		}
	}
	checkRefused(t, 254, 255, from(0, 255), sample(254, 1, 1))
	checkRefused(t, 254, 255, from(0, 254), sample(255, 1, 1))
}

// TestDecodeRefusesNumbers: a number that may not be, at each place: with too few
// chunks, with enough, and behind them.
func TestDecodeRefusesNumbers(t *testing.T) {
	for _, s := range []shape{{1, 2}, {2, 4}, {3, 7}, {4, 6}, {253, 254}} {
		bad := []int{-1, -2, s.n, s.n + 1, 255, 256, 257, 1 << 32, math.MinInt, math.MaxInt}
		for count := 1; count <= s.n; count += 1 + s.n/20 {
			for place := 0; place < count; place += 1 + s.n/20 {
				for _, number := range bad {
					at := from(0, count)
					at[place] = number
					checkRefused(t, s.k, s.n, at, sample(count, 2, 1))
				}
			}
		}
	}
	checkRefused(t, 254, 255, append(from(0, 254), 255), sample(255, 1, 1))
}

func TestDecodeRefusesTwice(t *testing.T) {
	for _, s := range []shape{{1, 2}, {1, 4}, {2, 4}, {4, 5}} {
		for count := 2; count <= s.n; count++ {
			for a := range count {
				for b := range a {
					at := from(0, count)
					at[a] = at[b]
					checkRefused(t, s.k, s.n, at, sample(count, 2, 1))
					same := make([][]byte, count)
					checkRefused(t, s.k, s.n, at, same)
				}
			}
		}
	}
	checkRefused(t, 2, 3, []int{0, 1, 2, 0}, sample(4, 1, 1))
	checkRefused(t, 200, 255, append(from(0, 255), from(0, 255)...), sample(510, 1, 1))
}

func TestDecodeRefusesLengths(t *testing.T) {
	for _, s := range []shape{{1, 2}, {2, 4}, {3, 5}, {254, 255}} {
		for count := 2; count <= s.n; count += 1 + s.n/10 {
			for place := 0; place < count; place += 1 + s.n/10 {
				longer, shorter, none := sample(count, 2, 1), sample(count, 2, 1), sample(count, 1, 1)
				longer[place] = append(longer[place], 0)
				shorter[place] = shorter[place][:1]
				none[place] = nil
				checkRefused(t, s.k, s.n, from(0, count), longer)
				checkRefused(t, s.k, s.n, from(0, count), shorter)
				checkRefused(t, s.k, s.n, from(0, count), none)
			}
		}
	}
}

// sum is of two lists of chunks, byte by byte.
func sum(a, b [][]byte) [][]byte {
	made := copied(a)
	for i := range made {
		for j := range made[i] {
			made[i][j] ^= b[i][j]
		}
	}
	return made
}

func TestLinear(t *testing.T) {
	for _, s := range shapes() {
		a, b := sample(s.k, 20, 1), sample(s.k, 20, 2)
		ofA, errA := code.Encode(s.k, s.n, a)
		ofB, errB := code.Encode(s.k, s.n, b)
		both, err := code.Encode(s.k, s.n, sum(a, b))
		if errA != api.OK || errB != api.OK || err != api.OK || len(ofA) != s.n || len(ofB) != s.n {
			t.Fatal(errA, errB, err)
		}
		if !alike(both, sum(ofA, ofB)) {
			t.Errorf("Encode(%d, %d) of a sum is not the sum", s.k, s.n)
		}
	}
}

// TestAlike: two data whose codes are alike at k chunks are alike. As codes are
// linear, it is enough that data which are not all 0 have a code that has fewer
// than k chunks of 0: here all data of two numbers at once, one at each place.
func TestAlike(t *testing.T) {
	const every = 256 * 256
	data := [][]byte{make([]byte, every), make([]byte, every)}
	for at := range every {
		data[0][at], data[1][at] = byte(at>>8), byte(at)
	}
	for _, n := range []int{3, 4, 9} {
		all, err := code.Encode(2, n, data)
		if err != api.OK || len(all) != n {
			t.Fatal(err)
		}
		for at := 1; at < every; at++ {
			noughts := 0
			for _, chunk := range all {
				if chunk[at] == 0 {
					noughts++
				}
			}
			if noughts >= 2 {
				t.Fatalf("the codes of %d %d and of 0 0 are alike at %d chunks", data[0][at], data[1][at], noughts)
			}
		}
	}
}
