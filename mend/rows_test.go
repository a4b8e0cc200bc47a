package mend_test

import (
	"math"
	"slices"
	"testing"

	"hayrick/api"
	"hayrick/mend"
)

// row is a row of calls as the dice say; what is done is done to the plain one, too.
type row struct {
	*bench
	p    plain
	next func(below int) int
}

func newRow(t *testing.T, k, n, segs, from int, next func(below int) int) *row {
	t.Helper()
	b := blank(t, k, n, segs, from)
	return &row{b, plain{b.copied(t)}, next}
}

// number is a stamp: one of few, so that the same one comes again.
func (r *row) number() uint64 {
	return [6]uint64{0, 1, 2, 3, 1 << 63, math.MaxUint64}[r.next(6)]
}

// place is a slot's number, now and then of one that is not there.
func (r *row) place() int {
	if r.next(12) == 0 {
		return [4]int{-1, r.segs, math.MinInt, math.MaxInt}[r.next(4)]
	}
	return r.next(r.segs)
}

// both does one thing to both benches.
func (r *row) both(deed func(b *bench)) {
	deed(r.bench)
	deed(r.p.bench)
}

// whole is, mostly, the stamp of a slot's segment that can be read.
func (r *row) whole(slot int) uint64 {
	number, err := r.s.Whole(slot)
	if err != api.OK || r.next(8) == 0 {
		return r.number()
	}
	return number
}

// slot does Slot to both.
func (r *row) slot(t *testing.T, slot int, number uint64) {
	t.Helper()
	count, err := mend.Slot(r.s, slot, number)
	if want, wrong := r.p.mends(slot, number); count != want || err != wrong {
		t.Fatalf("Slot(%d, %d): %d %v, not %d %v", slot, number, count, err, want, wrong)
	}
}

// mendAll does All to both, now and then of too few stamps, or too many.
func (r *row) mendAll(t *testing.T) {
	t.Helper()
	var numbers []uint64
	for slot := range r.segs {
		numbers = append(numbers, r.whole(slot))
	}
	switch r.next(12) {
	case 0:
		numbers = numbers[1:]
	case 1:
		numbers = append(numbers, 5)
	}
	given := slices.Clone(numbers)
	sum, err := mend.All(r.s, numbers)
	if want, wrong := r.p.mendsAll(given); sum != want || err != wrong || !slices.Equal(numbers, given) {
		t.Fatalf("All(%v): %d %v, not %d %v; behind it %v", given, sum, err, want, wrong, numbers)
	}
}

// step does one thing to both.
func (r *row) step(t *testing.T) {
	t.Helper()
	disk, slot, number, data := r.next(r.n), r.place(), r.number(), sample(448*r.k, r.next(1000))
	switch deed := r.next(32); {
	case deed < 6:
		r.both(func(b *bench) { b.s.Write(slot, number, data) })
	case deed < 8:
		r.both(func(b *bench) { b.s.Put(disk, slot, number, data[:448]) })
	case deed < 10:
		at := r.next(r.a.Sectors())
		sector := append([]byte{0, 0, 0, 0, 0, 0, 0, byte(number)}, data[:56]...)
		r.both(func(b *bench) { b.a.Write(disk, at, sector) })
	case deed < 15:
		r.slot(t, slot, r.whole(slot))
	case deed < 19:
		r.mendAll(t)
	case deed < 21:
		r.both(func(b *bench) { b.a.Barrier() })
	case deed < 23:
		r.both(func(b *bench) { b.a.Lose(disk) })
	case deed < 27:
		r.both(func(b *bench) { b.a.Replace(disk) })
	case deed < 29:
		fuse := r.next(8*r.n + 10)
		r.both(func(b *bench) { b.a.Fuse(fuse) })
	default:
		picks := picksOf(r.next, r.a.Flight())
		r.both(func(b *bench) { b.a.Crash(picks) })
	}
}

// looks fails, if Missing or Margin of any slot does not tell what the plain one does.
func (r *row) looks(t *testing.T) {
	t.Helper()
	for slot := -1; slot <= r.segs; slot++ {
		for _, number := range []uint64{0, 1, 2, 3, 4, 1 << 63, math.MaxUint64} {
			list, err := mend.Missing(r.s, slot, number)
			margin, also := mend.Margin(r.s, slot, number)
			if wrong := r.p.wrong(slot, number); wrong != api.OK {
				if err != wrong || also != wrong || len(list) != 0 || margin != 0 {
					t.Fatalf("Missing, Margin(%d, %d): %v %v, %d %v, not %v", slot, number, list, err, margin, also, wrong)
				}
				continue
			}
			haves, _, wanting := r.p.sort(slot, number)
			if err != api.OK || also != api.OK || !slices.Equal(list, wanting) || margin != len(haves)-r.k {
				t.Fatalf("Missing, Margin(%d, %d): %v %v, %d %v, not %v, %d", slot, number, list, err, margin, also, wanting, len(haves)-r.k)
			}
		}
	}
}

// TestRows: rows of calls, with losses, disks that are replaced, crashes and fuses
// among them, tell what the plain ones tell, and leave the same disks.
func TestRows(t *testing.T) {
	all := shapes()
	for seed := range 300 {
		next := dice(seed)
		shape := all[seed%len(all)]
		r := newRow(t, shape[0], shape[1], 1+next(3), [4]int{0, 1, 8, 48}[next(4)], next)
		for step := range 90 {
			r.step(t)
			if step%10 == 9 {
				r.looks(t)
				r.same(t, r.p.bench)
			}
		}
	}
}
