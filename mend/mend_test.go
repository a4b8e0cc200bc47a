package mend_test

import (
	"math"
	"testing"

	"hayrick/api"
	"hayrick/array"
)

// The states of a disk: it has what was written, it is lost, or a blank one is in its
// place.
const (
	having = 0
	out    = 1
	bare   = 2
)

// wear brings disks to their states, and tells which have their chunks, and which are
// bare.
func (b *bench) wear(t *testing.T, states []int) (haves, bares []int) {
	t.Helper()
	for disk, state := range states {
		switch state {
		case having:
			haves = append(haves, disk)
		case out:
			b.lose(t, disk)
		case bare:
			b.blanks(t, disk)
			bares = append(bares, disk)
		}
	}
	return haves, bares
}

// mixes are all mixes of states of n disks.
func mixes(n int) [][]int {
	all := [][]int{nil}
	for range n {
		var longer [][]int
		for _, mix := range all {
			for state := range 3 {
				longer = append(longer, append(mix[:len(mix):len(mix)], state))
			}
		}
		all = longer
	}
	return all
}

// TestStates: each mix of disks that have their chunks, are lost, or bare, in a slot
// of three; Slot writes what the whole disks have to the bare ones, in that slot, and
// nothing else.
func TestStates(t *testing.T) {
	for at, shape := range shapes() {
		k, n := shape[0], shape[1]
		whole := filled(t, k, n, 3, [4]int{0, 1, 7, 48}[at%4])
		for turn, states := range mixes(n) {
			b := whole.copied(t)
			haves, bares := b.wear(t, states)
			want := b.copied(t)
			slot := turn % 3
			number := numberOf(slot)
			b.missing(t, slot, number, bares...)
			b.margin(t, slot, number, len(haves)-k)
			if len(haves) < k {
				b.slot(t, slot, number, 0, api.ErrIO)
				b.same(t, want)
				b.missing(t, slot, number, bares...)
				continue
			}
			b.slot(t, slot, number, len(bares), api.OK)
			want.relay(t, whole, slot, bares...)
			b.same(t, want)
			b.missing(t, slot, number)
			b.margin(t, slot, number, len(haves)+len(bares)-k)
			b.slot(t, slot, number, 0, api.OK)
			b.same(t, want)
			other := (slot + 1) % 3
			b.missing(t, other, numberOf(other), bares...)
		}
	}
}

// TestStamps: a slot is asked for one stamp: for all others each disk that is on wants
// its chunk, and none can be written.
func TestStamps(t *testing.T) {
	b := filled(t, 2, 4, 4, 3)
	b.lose(t, 2)
	for slot := range 4 {
		for _, number := range []uint64{1, 2, 4, 5, 6, 1<<63 - 1, 1 << 63, 1<<63 + 1, math.MaxUint64 - 1, math.MaxUint64} {
			if number == numberOf(slot) {
				b.missing(t, slot, number)
				b.margin(t, slot, number, 1)
				b.slot(t, slot, number, 0, api.OK)
				continue
			}
			b.missing(t, slot, number, 0, 1, 3)
			b.margin(t, slot, number, -2)
			b.slot(t, slot, number, 0, api.ErrIO)
		}
	}
	if b.a.Flight() != 0 {
		t.Fatalf("%d are in flight, where nothing was to be written", b.a.Flight())
	}
}

// TestSlots: the first and the last of the most slots there are; the sectors beside a
// slot stay as they are.
func TestSlots(t *testing.T) {
	for _, from := range []int{0, 5} {
		whole := filled(t, 1, 2, 128, from)
		for _, slot := range []int{0, 1, 63, 126, 127} {
			b := whole.copied(t)
			b.blanks(t, 1)
			want := b.copied(t)
			b.missing(t, slot, numberOf(slot), 1)
			b.slot(t, slot, numberOf(slot), 1, api.OK)
			want.relay(t, whole, slot, 1)
			b.same(t, want)
		}
	}
}

// TestOddSector: a chunk of which one sector has another stamp is wanted, whichever
// sector it is, and by whichever disk; all eight sectors are written.
func TestOddSector(t *testing.T) {
	for _, shape := range shapes() {
		k, n := shape[0], shape[1]
		whole := filled(t, k, n, 3, 2)
		for disk := range n {
			for at := range 8 {
				for _, odd := range []uint64{0, 1, 1<<63 - 1, 1<<63 + 1, math.MaxUint64} {
					b := whole.copied(t)
					b.stain(t, disk, b.first(1)+at, odd)
					want := b.copied(t)
					b.missing(t, 1, 1<<63, disk)
					b.margin(t, 1, 1<<63, n-k-1)
					b.slot(t, 1, 1<<63, 1, api.OK)
					want.relay(t, whole, 1, disk)
					b.same(t, want)
					b.missing(t, 1, 1<<63)
				}
			}
		}
	}
}

// stain writes another stamp into a sector, with the load that was there, and makes it
// last.
func (b *bench) stain(t *testing.T, disk, at int, number uint64) {
	t.Helper()
	sector, err := b.a.Read(disk, at)
	told(t, "array.Read", err, api.OK)
	for i := range 8 {
		sector[7-i] = byte(number >> (8 * i))
	}
	told(t, "array.Write", b.a.Write(disk, at, sector), api.OK)
	told(t, "Barrier", b.a.Barrier(), api.OK)
}

// TestTooManyOdd: with more than N - K odd chunks nothing can be mended, and nothing is
// written; with as many all are.
func TestTooManyOdd(t *testing.T) {
	for _, shape := range shapes() {
		k, n := shape[0], shape[1]
		for turn := range n {
			whole := filled(t, k, n, 2, 2)
			b := whole.copied(t)
			for j := range n - k {
				b.stain(t, (turn+j)%n, b.first(1)+j, 8)
			}
			b.margin(t, 1, 1<<63, 0)
			more := b.copied(t)
			b.slot(t, 1, 1<<63, n-k, api.OK)
			b.margin(t, 1, 1<<63, n-k)
			b.a.Crash(ones(b.a.Flight()))
			b.same(t, whole)
			more.stain(t, (turn+n-1)%n, more.first(1)+7, 8)
			want := more.copied(t)
			more.margin(t, 1, 1<<63, -1)
			more.slot(t, 1, 1<<63, 0, api.ErrIO)
			more.same(t, want)
		}
	}
}

// TestTwoSegments: two segments stand in one slot, each on disks of its own: Slot
// writes the one that was asked for over the other one.
func TestTwoSegments(t *testing.T) {
	for _, asked := range []uint64{5, 1 << 63} {
		b := blank(t, 2, 5, 2, 1)
		told(t, "Write", b.s.Write(1, 5, sample(896, 1)), api.OK)
		old := b.copied(t)
		told(t, "Write", b.s.Write(1, 1<<63, sample(896, 2)), api.OK)
		young := b.copied(t)
		told(t, "Barrier", b.a.Barrier(), api.OK)
		b.relay(t, old, 1, 1, 4)
		b.missing(t, 1, 5, 0, 2, 3)
		b.missing(t, 1, 1<<63, 1, 4)
		b.margin(t, 1, 5, 0)
		b.margin(t, 1, 1<<63, 1)
		want := b.copied(t)
		if asked == 5 {
			b.slot(t, 1, 5, 3, api.OK)
			want.relay(t, old, 1, 0, 2, 3)
			b.margin(t, 1, 1<<63, -2)
		} else {
			b.slot(t, 1, 1<<63, 2, api.OK)
			want.relay(t, young, 1, 1, 4)
			b.margin(t, 1, 5, -2)
		}
		b.same(t, want)
		b.margin(t, 1, asked, 3)
	}
}

// TestFirst: of more than K chunks that count the first K say what the segment is, as
// Read has it; the others count, and are left as they are.
func TestFirst(t *testing.T) {
	for _, shape := range [][2]int{{1, 4}, {2, 4}, {3, 5}, {4, 6}} {
		k, n := shape[0], shape[1]
		whole := filled(t, k, n, 2, 3)
		for bad := range n {
			b := whole.copied(t)
			told(t, "Put", b.s.Put(bad, 1, 1<<63, sample(448, 77)), api.OK)
			told(t, "Barrier", b.a.Barrier(), api.OK)
			b.blanks(t, (bad+1)%n)
			p := plain{b.copied(t)}
			b.missing(t, 1, 1<<63, (bad+1)%n)
			b.slot(t, 1, 1<<63, 1, api.OK)
			if count, err := p.mends(1, 1<<63); count != 1 || err != api.OK {
				t.Fatal(count, err)
			}
			b.same(t, p.bench)
		}
	}
}

// TestSlotFuse: the power goes with each sector that a Slot writes: those ahead of it
// are in flight, disk by disk, rising, and nothing is told but the power.
func TestSlotFuse(t *testing.T) {
	for _, shape := range [][2]int{{1, 3}, {2, 5}, {3, 6}, {4, 6}} {
		k, n := shape[0], shape[1]
		whole := filled(t, k, n, 2, 1)
		for turn := range n {
			var bares []int
			for disk := range n {
				if (disk-turn+n)%n < n-k {
					bares = append(bares, disk)
				}
			}
			for fuse := 1; fuse <= 8*(n-k)+1; fuse++ {
				b := whole.copied(t)
				b.blanks(t, bares...)
				p := plain{b.copied(t)}
				b.a.Fuse(fuse)
				p.a.Fuse(fuse)
				if fuse > 8*(n-k) {
					b.slot(t, 1, 1<<63, n-k, api.OK)
				} else {
					b.slot(t, 1, 1<<63, 0, api.ErrOff)
				}
				p.mends(1, 1<<63)
				if b.a.Flight() != fuse-1 {
					t.Fatalf("a fuse of %d: %d are in flight", fuse, b.a.Flight())
				}
				b.same(t, p.bench)
			}
		}
	}
}

// TestNoFuse: where no disk wants its chunk no call burns a fuse; looks never do.
func TestNoFuse(t *testing.T) {
	b := filled(t, 2, 4, 3, 1)
	b.lose(t, 3)
	b.a.Fuse(1)
	for slot := range 3 {
		b.missing(t, slot, numberOf(slot))
		b.margin(t, slot, numberOf(slot), 1)
		b.slot(t, slot, numberOf(slot), 0, api.OK)
		b.missing(t, slot, 7, 0, 1, 2)
		b.slot(t, slot, 7, 0, api.ErrIO)
	}
	b.all(t, numbersOf(3), 0, api.OK)
	b.all(t, make([]uint64, 3), 0, api.OK)
	told(t, "Barrier", b.a.Barrier(), api.ErrOff)
}

// TestNoBarrier: what Slot and All write is in flight behind them.
func TestNoBarrier(t *testing.T) {
	b := filled(t, 2, 4, 3, 1)
	b.blanks(t, 1, 2)
	before := b.copied(t)
	b.slot(t, 1, numberOf(1), 2, api.OK)
	b.all(t, numbersOf(3), 4, api.OK)
	if b.a.Flight() != 48 {
		t.Fatalf("%d are in flight, not 48", b.a.Flight())
	}
	b.a.Crash(nil)
	b.same(t, before)
}

// TestAll: each slot has disks of its own that want their chunks; those whose stamp is
// 0 are passed over.
func TestAll(t *testing.T) {
	for _, shape := range shapes() {
		k, n := shape[0], shape[1]
		whole := filled(t, k, n, 5, 1)
		for asked := range 1 << 5 {
			b := whole.copied(t)
			var wants [5][]int
			for slot := range 5 {
				for j := range (slot + asked) % (n - k + 1) {
					wants[slot] = append(wants[slot], j)
					b.stain(t, j, b.first(slot)+(slot+j)%8, 3)
				}
			}
			want := b.copied(t)
			numbers := numbersOf(5)
			sum := 0
			for slot := range 5 {
				if asked>>slot&1 == 0 {
					numbers[slot] = 0
					continue
				}
				sum += len(wants[slot])
				want.relay(t, whole, slot, wants[slot]...)
			}
			b.all(t, numbers, sum, api.OK)
			b.same(t, want)
			b.all(t, numbers, 0, api.OK)
			b.same(t, want)
		}
	}
}

// TestAllStops: a slot that can't be read is ErrIO: what is ahead of it is written,
// what is behind it is not. A stamp of 0 in its place lets the others be mended.
func TestAllStops(t *testing.T) {
	for _, shape := range shapes() {
		k, n := shape[0], shape[1]
		whole := filled(t, k, n, 4, 1)
		for bad := range 4 {
			b := whole.copied(t)
			b.blanks(t, n-1)
			for disk := range n - k {
				b.stain(t, disk, b.first(bad), 3)
			}
			want := b.copied(t)
			for slot := range bad {
				want.relay(t, whole, slot, n-1)
			}
			numbers := numbersOf(4)
			b.all(t, numbers, 0, api.ErrIO)
			b.same(t, want)
			numbers[bad] = 0
			b.all(t, numbers, 3-bad, api.OK)
			for slot := bad + 1; slot < 4; slot++ {
				want.relay(t, whole, slot, n-1)
			}
			b.same(t, want)
		}
	}
}

// TestAllFirstError: of two errors the one of the lesser slot is told.
func TestAllFirstError(t *testing.T) {
	for fuse := 1; fuse <= 17; fuse++ {
		b := filled(t, 2, 4, 3, 0)
		b.blanks(t, 3)
		for disk := range 2 {
			b.stain(t, disk, b.first(2), 3)
		}
		p := plain{b.copied(t)}
		b.a.Fuse(fuse)
		p.a.Fuse(fuse)
		want := api.ErrOff
		if fuse == 17 {
			want = api.ErrIO
		}
		b.all(t, numbersOf(3), 0, want)
		if _, err := p.mendsAll(numbersOf(3)); err != want {
			t.Fatal(err)
		}
		b.same(t, p.bench)
	}
}

// TestAllFuse: the power goes with each sector that an All writes.
func TestAllFuse(t *testing.T) {
	whole := filled(t, 2, 4, 3, 2)
	for fuse := 1; fuse <= 49; fuse++ {
		b := whole.copied(t)
		b.blanks(t, 0, 2)
		p := plain{b.copied(t)}
		b.a.Fuse(fuse)
		p.a.Fuse(fuse)
		if fuse == 49 {
			b.all(t, numbersOf(3), 6, api.OK)
		} else {
			b.all(t, numbersOf(3), 0, api.ErrOff)
		}
		p.mendsAll(numbersOf(3))
		if b.a.Flight() != fuse-1 {
			t.Fatalf("a fuse of %d: %d are in flight", fuse, b.a.Flight())
		}
		b.same(t, p.bench)
	}
}

// TestOne: one slot, and the most.
func TestOne(t *testing.T) {
	for _, segs := range []int{1, 128} {
		whole := filled(t, 1, 2, segs, 0)
		b := whole.copied(t)
		b.blanks(t, 0)
		b.all(t, numbersOf(segs), segs, api.OK)
		b.a.Crash(ones(b.a.Flight()))
		b.same(t, whole)
	}
}

// TestLarge: the most disks that there are.
func TestLarge(t *testing.T) {
	for _, k := range []int{1, 2, 128, 254} {
		whole := filled(t, k, 255, 1, 2)
		b := whole.copied(t)
		var bares []int
		for j := range 255 - k {
			bares = append(bares, j)
		}
		b.blanks(t, bares...)
		b.missing(t, 0, 1, bares...)
		b.margin(t, 0, 1, 0)
		b.slot(t, 0, 1, 255-k, api.OK)
		b.margin(t, 0, 1, 255-k)
		b.a.Crash(ones(b.a.Flight()))
		b.same(t, whole)
		b.blanks(t, bares...)
		b.lose(t, 254)
		b.missing(t, 0, 1, bares...)
		b.margin(t, 0, 1, -1)
		b.slot(t, 0, 1, 0, api.ErrIO)
	}
}

// TestApart: Stripes over another part of the same array are left as they are.
func TestApart(t *testing.T) {
	a, err := array.New(4, 40)
	told(t, "array.New", err, api.OK)
	one, two := over(t, a, 2, 4, 2, 0), over(t, a, 3, 4, 2, 16)
	for _, b := range []*bench{one, two} {
		for slot := range 2 {
			told(t, "Write", b.s.Write(slot, numberOf(slot), b.data(slot)), api.OK)
		}
	}
	told(t, "Barrier", a.Barrier(), api.OK)
	one.blanks(t, 1)
	one.all(t, numbersOf(2), 2, api.OK)
	two.missing(t, 0, 1, 1)
	two.missing(t, 1, 1<<63, 1)
	one.slot(t, 0, 1, 0, api.OK)
	two.slot(t, 1, 1<<63, 1, api.OK)
	two.missing(t, 0, 1, 1)
	one.missing(t, 0, 1)
}

// TestExamples are the chapter's rows.
func TestExamples(t *testing.T) {
	b := blank(t, 2, 4, 16, 0)
	told(t, "Write", b.s.Write(0, 5, sample(896, 1)), api.OK)
	b.lose(t, 1)
	b.missing(t, 0, 5)
	b.margin(t, 0, 5, 1)
	told(t, "Replace", b.a.Replace(1), api.OK)
	b.missing(t, 0, 5, 1)
	b.margin(t, 0, 5, 1)
	b.slot(t, 0, 5, 1, api.OK)
	b.missing(t, 0, 5)
	b.slot(t, 0, 5, 0, api.OK)
	b.lose(t, 0, 2)
	b.slot(t, 0, 5, 0, api.OK)
	b.lose(t, 3)
	b.slot(t, 0, 5, 0, api.ErrIO)
	b.margin(t, 0, 5, -1)
	refused(t, b.s, 0, 0, api.ErrArg)
	refused(t, b.s, -1, 5, api.ErrNone)
}
