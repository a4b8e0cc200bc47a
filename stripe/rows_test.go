package stripe_test

import (
	"math"
	"testing"

	"hayrick/api"
	"hayrick/array"
)

// row is a row of calls as the dice say.
type row struct {
	*pair
	next func(below int) int
}

// place is a disk's or a slot's number, now and then of one that is not there.
func (r *row) place(count int) int {
	if r.next(12) == 0 {
		return [4]int{-1, count, math.MinInt, math.MaxInt}[r.next(4)]
	}
	return r.next(count)
}

// number is a stamp: one of few, so that the same one comes again.
func (r *row) number() uint64 {
	if r.next(12) == 0 {
		return 0
	}
	return [6]uint64{1, 2, 3, 1 << 63, math.MaxUint64 - 1, math.MaxUint64}[r.next(6)]
}

// bytes are as many as asked for, now and then one more or less.
func (r *row) bytes(length int) []byte {
	if r.next(12) == 0 {
		length += r.next(3) - 1
	}
	return sample(length, r.next(1000))
}

// step does one thing to both.
func (r *row) step(t *testing.T) {
	t.Helper()
	disk, slot, number := r.place(r.p.n), r.place(r.p.segs), r.number()
	switch deed := r.next(30); {
	case deed < 10:
		r.write(t, slot, number, r.bytes(448*r.p.k))
	case deed < 15:
		r.putSome(t, disk, slot, number)
	case deed < 18:
		at, b := r.next(r.a.Sectors()), sectorsOf(number, sample(448, r.next(1000)))[0]
		r.both(func(a *array.Array) { a.Write(disk, at, b) })
	case deed < 21:
		r.both(func(a *array.Array) { a.Barrier() })
	case deed < 23:
		r.both(func(a *array.Array) { a.Lose(disk) })
	case deed < 26:
		r.both(func(a *array.Array) { a.Replace(disk) })
	case deed < 28:
		fuse := r.next(8*r.p.n + 10)
		r.both(func(a *array.Array) { a.Fuse(fuse) })
	default:
		picks := picksOf(r.next, r.a.Flight())
		r.both(func(a *array.Array) { a.Crash(picks) })
	}
}

// putSome puts any part, or the chunk of a segment that can be read.
func (r *row) putSome(t *testing.T, disk, slot int, number uint64) {
	t.Helper()
	data, err := r.s.Read(slot, number)
	if err != api.OK || disk < 0 || disk >= r.p.n || r.next(3) == 0 {
		r.put(t, disk, slot, number, r.bytes(448))
		return
	}
	r.put(t, disk, slot, number, coded(r.p.k, r.p.n, data)[disk])
}

// all fails, if any look does not tell what the plain one does.
func (r *row) all(t *testing.T) {
	t.Helper()
	for slot := -1; slot <= r.p.segs; slot++ {
		r.tells(t, slot)
		for _, number := range []uint64{0, 1, 2, 3, 4, 1 << 63, math.MaxUint64 - 1, math.MaxUint64} {
			r.reads(t, slot, number)
			r.has(t, r.place(r.p.n), slot, number)
		}
	}
}

// TestRows: rows of calls, with losses, disks that are replaced, crashes and fuses
// among them, tell what the plain Stripes tell, and leave the same disks.
func TestRows(t *testing.T) {
	all := shapes()
	for seed := range 240 {
		next := dice(seed)
		shape := all[seed%len(all)]
		r := &row{newPair(t, shape[0], shape[1], 1+next(3), [4]int{0, 1, 8, 48}[next(4)]), next}
		for step := range 60 {
			r.step(t)
			if step%6 == 5 {
				r.all(t)
				r.same(t)
			}
		}
	}
}

// TestRowsLong: a long row over one array, looked at in full at its end and in parts
// between.
func TestRowsLong(t *testing.T) {
	for _, shape := range [][2]int{{1, 3}, {2, 4}, {3, 5}} {
		r := &row{newPair(t, shape[0], shape[1], 2, 3), dice(shape[1])}
		for step := range 1500 {
			r.step(t)
			slot := r.next(2)
			r.tells(t, slot)
			r.reads(t, slot, r.number())
			if step%100 == 99 {
				r.same(t)
			}
		}
		r.all(t)
		r.same(t)
	}
}
