package mend_test

import (
	"math"
	"slices"
	"testing"

	"hayrick/api"
	"hayrick/mend"
	"hayrick/stripe"
)

// refused fails, if one of the calls of a slot does not tell that error, and nothing
// beside it.
func refused(t *testing.T, s *stripe.Stripes, slot int, number uint64, want api.Errno) {
	t.Helper()
	list, err := mend.Missing(s, slot, number)
	if err != want || len(list) != 0 {
		t.Fatalf("Missing(%d, %d): %v %v, not %v", slot, number, list, err, want)
	}
	margin, err := mend.Margin(s, slot, number)
	if err != want || margin != 0 {
		t.Fatalf("Margin(%d, %d): %d %v, not %v", slot, number, margin, err, want)
	}
	written, err := mend.Slot(s, slot, number)
	if err != want || written != 0 {
		t.Fatalf("Slot(%d, %d): %d %v, not %v", slot, number, written, err, want)
	}
}

// lists are of stamps, as many as slots or not.
func lists(segs int) [][]uint64 {
	return [][]uint64{nil, {}, {0}, {5}, make([]uint64, segs), make([]uint64, segs-1), make([]uint64, segs+1), numbersOf(segs), numbersOf(segs - 1), numbersOf(segs + 1), make([]uint64, 300)}
}

// outside are slots that are not there, if there are so many.
func outside(segs int) []int {
	return []int{-1, segs, segs + 1, -segs, 256, 1 << 32, -1 << 32, 1 << 60, 1 << 61, math.MinInt, math.MaxInt}
}

// TestNone: Stripes that stripe.New did not make, and none, tell ErrNil, whatever else
// is wrong.
func TestNone(t *testing.T) {
	var none *stripe.Stripes
	made, _ := stripe.New(nil, api.Geometry{K: 1, N: 2, Segs: 1}, 0)
	for _, s := range []*stripe.Stripes{none, {}, new(stripe.Stripes), made} {
		for _, slot := range append(outside(1), 0, 1) {
			for _, number := range []uint64{0, 1, 5, 1 << 63, math.MaxUint64} {
				refused(t, s, slot, number, api.ErrNil)
			}
		}
		for _, numbers := range lists(1) {
			if sum, err := mend.All(s, numbers); err != api.ErrNil || sum != 0 {
				t.Fatalf("All(%v): %d %v", numbers, sum, err)
			}
		}
	}
}

// TestOff: with the power off each call tells ErrOff, whatever else is wrong, and
// nothing changes.
func TestOff(t *testing.T) {
	for _, b := range worn(t, 2, 3, 4) {
		b.a.Fuse(1)
		told(t, "Barrier", b.a.Barrier(), api.ErrOff)
		before := b.copied(t)
		for _, slot := range append(outside(4), 0, 3) {
			for _, number := range []uint64{0, 1, 5, 1 << 63} {
				refused(t, b.s, slot, number, api.ErrOff)
			}
		}
		for _, numbers := range lists(4) {
			b.all(t, numbers, 0, api.ErrOff)
		}
		b.same(t, before)
	}
}

// worn are benches whose disks are taken one by one, till none has its chunks: each is
// lost, or, of every second bench, replaced by a blank one.
func worn(t *testing.T, k, n, segs int) []*bench {
	t.Helper()
	lost, replaced := filled(t, k, n, segs, 3), filled(t, k, n, segs, 3)
	made := []*bench{lost}
	for disk := range n {
		lost, replaced = lost.copied(t), replaced.copied(t)
		lost.lose(t, disk)
		replaced.blanks(t, disk)
		made = append(made, lost, replaced)
	}
	return made
}

// TestPlaces: slots that are not there, ahead of stamps that may not be, and of
// segments that can't be read; the first and the last slot are.
func TestPlaces(t *testing.T) {
	for _, shape := range shapes() {
		k, n := shape[0], shape[1]
		for _, segs := range []int{1, 2, 16} {
			for _, b := range worn(t, k, n, segs) {
				b.a.Fuse(3)
				before := b.copied(t)
				for _, slot := range outside(segs) {
					if slot >= 0 && slot < segs {
						continue
					}
					for _, number := range []uint64{0, 1, 5, 1 << 63, math.MaxUint64} {
						refused(t, b.s, slot, number, api.ErrNone)
					}
				}
				for _, slot := range []int{0, segs - 1} {
					if _, err := mend.Missing(b.s, slot, 9); err != api.OK {
						t.Fatalf("Missing(%d, 9) of %d slots: %v", slot, segs, err)
					}
				}
				b.same(t, before)
				if fuseOf(b.a) != 3 {
					t.Fatal("what was refused burnt the fuse")
				}
			}
		}
	}
}

// TestArguments: a stamp of 0 ahead of segments that can't be read; nothing is written,
// and no fuse burns.
func TestArguments(t *testing.T) {
	for _, shape := range shapes() {
		k, n := shape[0], shape[1]
		for _, b := range worn(t, k, n, 2) {
			b.a.Fuse(3)
			before := b.copied(t)
			refused(t, b.s, 0, 0, api.ErrArg)
			refused(t, b.s, 1, 0, api.ErrArg)
			b.same(t, before)
			if fuseOf(b.a) != 3 {
				t.Fatal("what was refused burnt the fuse")
			}
		}
	}
}

// TestAllLengths: as many stamps as slots, one fewer, one more, and none: ErrArg ahead
// of what is wrong with a slot; stamps of 0 ask for nothing, whatever is lost.
func TestAllLengths(t *testing.T) {
	for _, shape := range shapes() {
		k, n := shape[0], shape[1]
		for _, segs := range []int{1, 2, 5} {
			for _, b := range worn(t, k, n, segs) {
				b.a.Fuse(3)
				before := b.copied(t)
				for _, numbers := range lists(segs) {
					if len(numbers) != segs {
						b.all(t, numbers, 0, api.ErrArg)
					}
				}
				b.all(t, make([]uint64, segs), 0, api.OK)
				b.same(t, before)
				if fuseOf(b.a) != 3 {
					t.Fatal("what was refused burnt the fuse")
				}
			}
		}
	}
}

// TestTooFew: with K chunks left a slot is mended, with fewer it is ErrIO, and nothing
// is written; Missing and Margin tell what there is, whatever is left.
func TestTooFew(t *testing.T) {
	for _, shape := range shapes() {
		k, n := shape[0], shape[1]
		whole := filled(t, k, n, 2, 3)
		for turn := range n {
			b := whole.copied(t)
			var gone []int
			for left := n - 1; left >= 0; left-- {
				gone = append(gone, (turn+left)%n)
				slices.Sort(gone)
				b.blanks(t, (turn+left)%n)
				tried := b.copied(t)
				tried.missing(t, 1, 1<<63, gone...)
				tried.margin(t, 1, 1<<63, left-k)
				if left >= k {
					tried.slot(t, 1, 1<<63, n-left, api.OK)
					continue
				}
				tried.a.Fuse(1)
				tried.slot(t, 1, 1<<63, 0, api.ErrIO)
				tried.all(t, []uint64{0, 1 << 63}, 0, api.ErrIO)
				tried.all(t, []uint64{1, 1 << 63}, 0, api.ErrIO)
				tried.same(t, b)
			}
		}
	}
}

// TestNoDisks: with no disk on nothing is wanted, and nothing can be read.
func TestNoDisks(t *testing.T) {
	for _, shape := range shapes() {
		k, n := shape[0], shape[1]
		b := filled(t, k, n, 2, 0)
		for disk := range n {
			b.lose(t, disk)
		}
		for slot := range 2 {
			b.missing(t, slot, numberOf(slot))
			b.margin(t, slot, numberOf(slot), -k)
			b.slot(t, slot, numberOf(slot), 0, api.ErrIO)
			refused(t, b.s, slot, 0, api.ErrArg)
		}
		refused(t, b.s, 2, 1, api.ErrNone)
		b.all(t, numbersOf(2), 0, api.ErrIO)
		b.all(t, numbersOf(1), 0, api.ErrArg)
	}
}

// TestUnchanged: All neither changes nor keeps its stamps, nor looks at the room behind
// them.
func TestUnchanged(t *testing.T) {
	whole := filled(t, 2, 4, 3, 1)
	for _, length := range []int{0, 2, 3, 4} {
		room := numbersOf(8)
		b := whole.copied(t)
		b.blanks(t, 3)
		want := b.copied(t)
		if length == 3 {
			b.all(t, room[:3], 3, api.OK)
			for slot := range 3 {
				want.relay(t, whole, slot, 3)
			}
		} else {
			b.all(t, room[:length], 0, api.ErrArg)
		}
		if !slices.Equal(room, numbersOf(8)) {
			t.Fatalf("All of %d stamps changed them, or the room behind them: %v", length, room)
		}
		for i := range room {
			room[i] = 77
		}
		b.same(t, want)
	}
}

// TestNewMemory: what Missing answers shares its memory with nothing, and no answer of
// another call changes it.
func TestNewMemory(t *testing.T) {
	b := filled(t, 2, 5, 2, 1)
	b.blanks(t, 1, 3, 4)
	before := b.copied(t)
	first, _ := mend.Missing(b.s, 1, 1<<63)
	second, _ := mend.Missing(b.s, 1, 1<<63)
	first = first[:cap(first)]
	for i := range first {
		first[i] = 77
	}
	if !slices.Equal(second, []int{1, 3, 4}) {
		t.Fatalf("a Missing shares its answer's memory: %v", second)
	}
	b.same(t, before)
	b.missing(t, 1, 1<<63, 1, 3, 4)
	b.slot(t, 1, 1<<63, 3, api.OK)
	if !slices.Equal(second, []int{1, 3, 4}) {
		t.Fatalf("what a Missing told was changed: %v", second)
	}
}

// TestLooks: Missing and Margin change nothing: no sector, nothing in flight, no fuse.
func TestLooks(t *testing.T) {
	b := filled(t, 2, 4, 2, 1)
	b.blanks(t, 0)
	b.lose(t, 2)
	told(t, "Put", b.s.Put(1, 0, 6, sample(448, 1)), api.OK)
	b.a.Fuse(5)
	before := b.copied(t)
	for slot := -1; slot <= 2; slot++ {
		for _, number := range []uint64{0, 1, 5, 6, 1 << 63} {
			mend.Missing(b.s, slot, number)
			mend.Margin(b.s, slot, number)
		}
	}
	b.same(t, before)
	if fuseOf(b.a) != 5 {
		t.Fatal("a look burnt the fuse")
	}
}
