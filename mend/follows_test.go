package mend_test

import (
	"bytes"
	"math/bits"
	"slices"
	"testing"

	"hayrick/api"
	"hayrick/mend"
)

// anyK fails, if there are K of the disks that are on that do not tell a slot's segment
// when all others are lost.
func (b *bench) anyK(t *testing.T, slot int) {
	t.Helper()
	for left := range 1 << b.n {
		if bits.OnesCount(uint(left)) != b.k {
			continue
		}
		few := b.copied(t)
		for disk := range b.n {
			if left>>disk&1 == 0 && few.a.On(disk) {
				few.lose(t, disk)
			}
		}
		if few.a.Ons() == b.k {
			few.reads(t, slot)
		}
	}
}

// TestAnyK: P9.4. Behind a Slot that told OK no disk that is on wants its chunk, the
// segment is what it was, and any K of the disks tell it: of each mix of disks that
// have their chunks, are lost, or bare.
func TestAnyK(t *testing.T) {
	for _, shape := range shapes() {
		k, n := shape[0], shape[1]
		if n > 5 {
			continue
		}
		whole := filled(t, k, n, 2, 1)
		for turn, states := range mixes(n) {
			slot := turn % 2
			b := whole.copied(t)
			haves, _ := b.wear(t, states)
			if _, err := mend.Slot(b.s, slot, numberOf(slot)); err != api.OK {
				if len(haves) >= k {
					t.Fatalf("K %d of %d, %v: %v", k, n, states, err)
				}
				continue
			}
			b.missing(t, slot, numberOf(slot))
			b.reads(t, slot)
			b.anyK(t, slot)
		}
	}
}

// TestAnyKLasts: P9.4. Behind a barrier any K disks tell it behind a crash, too, each
// disk in turn having been lost and mended again.
func TestAnyKLasts(t *testing.T) {
	for _, shape := range shapes() {
		k, n := shape[0], shape[1]
		b := filled(t, k, n, 3, 2)
		for turn := range 2 * n {
			var gone []int
			for j := range n - k {
				gone = append(gone, (turn+j)%n)
			}
			b.blanks(t, gone...)
			b.all(t, numbersOf(3), 3*(n-k), api.OK)
			told(t, "Barrier", b.a.Barrier(), api.OK)
			b.a.Crash(nil)
			b.missing(t, turn%3, numberOf(turn%3))
			b.anyK(t, turn%3)
		}
		b.same(t, filled(t, k, n, 3, 2))
	}
}

// TestAnyKWritten: P9.4. What was written while disks were out is mended on those that
// come in their places.
func TestAnyKWritten(t *testing.T) {
	for _, shape := range shapes() {
		k, n := shape[0], shape[1]
		for turn := range n {
			b := filled(t, k, n, 2, 2)
			want := b.copied(t)
			var gone []int
			for disk := range n {
				if (disk-turn+n)%n < n-k {
					gone = append(gone, disk)
				}
			}
			b.lose(t, gone...)
			data := sample(448*k, turn)
			told(t, "Write", b.s.Write(1, 9, data), api.OK)
			told(t, "Write", want.s.Write(1, 9, data), api.OK)
			b.missing(t, 1, 9)
			b.margin(t, 1, 9, 0)
			for _, disk := range gone {
				told(t, "Replace", b.a.Replace(disk), api.OK)
			}
			b.missing(t, 1, 9, gone...)
			b.all(t, []uint64{numberOf(0), 9}, 2*(n-k), api.OK)
			b.a.Crash(ones(b.a.Flight()))
			want.a.Crash(ones(want.a.Flight()))
			b.same(t, want)
		}
	}
}

// picksOf are picks by which each eight in a row mostly last, or do not, together.
func picksOf(next func(below int) int, length int) []byte {
	made := make([]byte, length)
	lasts := byte(0)
	for i := range made {
		if i%8 == 0 || next(20) == 0 {
			lasts = byte(next(2))
		}
		made[i] = lasts
	}
	return made
}

// crashes are what may last of so many in flight: all, nothing, a beginning, an end,
// all but one, and any.
func crashes(flight, seed int) [][]byte {
	end := append(make([]byte, flight/2), ones(flight-flight/2)...)
	nearly := ones(flight)
	if flight > 0 {
		nearly[seed%flight] = 0
	}
	return [][]byte{ones(flight), nil, ones(flight / 3), end, nearly, sample(flight, seed), picksOf(dice(seed), flight)}
}

// wornIn is a bench of which some disks want their chunks in slot 1, and what it must
// be when they have them; one of these is torn, or all are bare.
func wornIn(t *testing.T, k, n, count int, torn bool) (b, want *bench) {
	t.Helper()
	whole := filled(t, k, n, 3, 1)
	b, want = whole.copied(t), whole.copied(t)
	for j := range count {
		disk := (j + 1) % n
		if torn && j == 0 {
			b.stain(t, disk, b.first(1)+3, 7)
			continue
		}
		b.blanks(t, disk)
		want.blanks(t, disk)
		want.relay(t, whole, 1, disk)
	}
	told(t, "Barrier", want.a.Barrier(), api.OK)
	return b, want
}

// crashed fails, if behind a crash in the midst of a Slot of slot 1 the segment is not
// read as ahead of it, or a Slot does not write just what is left.
func (b *bench) crashed(t *testing.T, before []int, want *bench) {
	t.Helper()
	b.reads(t, 1)
	left, err := mend.Missing(b.s, 1, numberOf(1))
	told(t, "Missing", err, api.OK)
	if slices.ContainsFunc(left, func(disk int) bool { return !slices.Contains(before, disk) }) {
		t.Fatalf("K %d of %d: behind a crash %v are wanting, ahead of it %v", b.k, b.n, left, before)
	}
	b.margin(t, 1, numberOf(1), b.n-b.k-len(left))
	b.slot(t, 1, numberOf(1), len(left), api.OK)
	if b.a.Flight() != 8*len(left) {
		t.Fatalf("K %d of %d: %d are in flight behind the Slot of what was left, %v", b.k, b.n, b.a.Flight(), left)
	}
	b.a.Crash(ones(b.a.Flight()))
	b.same(t, want)
}

// TestCrash: P9.5. The power goes with each sector of a Slot, or behind it, and any of
// what is in flight lasts: the segment is read, and a second Slot does what is left.
func TestCrash(t *testing.T) {
	for _, shape := range shapes() {
		k, n := shape[0], shape[1]
		for count := range n - k + 1 {
			for _, torn := range []bool{false, true} {
				worn, want := wornIn(t, k, n, count, torn)
				before, _ := mend.Missing(worn.s, 1, numberOf(1))
				for fuse := 1; fuse <= 8*count+1; fuse++ {
					b := worn.copied(t)
					b.a.Fuse(fuse)
					if fuse <= 8*count {
						b.slot(t, 1, numberOf(1), 0, api.ErrOff)
					} else {
						b.slot(t, 1, numberOf(1), count, api.OK)
					}
					for _, picks := range crashes(fuse-1, fuse) {
						crashed := b.copied(t)
						crashed.a.Crash(picks)
						crashed.crashed(t, before, want)
					}
				}
			}
		}
	}
}

// TestCrashAgain: P9.5. The power goes in one Slot behind the other, till one is done.
func TestCrashAgain(t *testing.T) {
	for _, shape := range shapes() {
		k, n := shape[0], shape[1]
		for seed := range 20 {
			next := dice(seed)
			whole := filled(t, k, n, 2, 1)
			b := whole.copied(t)
			for j := range n - k {
				b.blanks(t, (seed+j)%n)
			}
			for range 30 {
				b.a.Fuse(1 + next(8*(n-k)+8))
				_, err := mend.All(b.s, numbersOf(2))
				if err == api.OK && b.a.Barrier() == api.OK {
					break
				}
				b.a.Crash(picksOf(next, b.a.Flight()))
				b.reads(t, 0)
				b.reads(t, 1)
			}
			b.a.Crash(nil)
			b.all(t, numbersOf(2), b.left(t), api.OK)
			b.a.Crash(ones(b.a.Flight()))
			b.same(t, whole)
		}
	}
}

// left is how many chunks are wanting, in all slots.
func (b *bench) left(t *testing.T) int {
	t.Helper()
	sum := 0
	for slot := range b.segs {
		list, err := mend.Missing(b.s, slot, numberOf(slot))
		told(t, "Missing", err, api.OK)
		sum += len(list)
	}
	return sum
}

// TestCrashWrite: P9.5 behind a Write that was torn: what can be read of it, or of the
// segment ahead of it, is mended, and stays what it is.
func TestCrashWrite(t *testing.T) {
	for seed := range 300 {
		next := dice(seed)
		shape := shapes()[seed%len(shapes())]
		k, n := shape[0], shape[1]
		b := filled(t, k, n, 2, 1)
		young := sample(448*k, seed)
		told(t, "Write", b.s.Write(1, 9, young), api.OK)
		b.a.Crash(picksOf(next, 8*n))
		for _, one := range []struct {
			number uint64
			data   []byte
		}{{9, young}, {numberOf(1), b.data(1)}} {
			mended := b.copied(t)
			wanting, _ := mend.Missing(b.s, 1, one.number)
			if n-len(wanting) < k {
				mended.slot(t, 1, one.number, 0, api.ErrIO)
				mended.same(t, b)
				continue
			}
			mended.slot(t, 1, one.number, len(wanting), api.OK)
			mended.a.Crash(picksOf(next, mended.a.Flight()))
			if got, err := mended.s.Read(1, one.number); err != api.OK || !bytes.Equal(got, one.data) {
				t.Fatalf("seed %d: the segment of %d is not what it was: %v", seed, one.number, err)
			}
		}
	}
}
