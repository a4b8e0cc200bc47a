package stripe_test

import (
	"bytes"
	"math"
	"testing"

	"hayrick/api"
	"hayrick/array"
	"hayrick/stripe"
)

// call is one call of Stripes; an argument that it has not is passed over.
type call struct {
	name string
	disk bool // whether a disk is asked for
	does func(s *stripe.Stripes, disk, slot int, number uint64, b []byte) (bool, api.Errno)
}

// calls are all that tell errors; each tells, too, whether there is anything beside
// the error.
func calls() []call {
	return []call{
		{"Write", false, func(s *stripe.Stripes, _, slot int, number uint64, b []byte) (bool, api.Errno) {
			return false, s.Write(slot, number, b)
		}},
		{"Read", false, func(s *stripe.Stripes, _, slot int, number uint64, _ []byte) (bool, api.Errno) {
			got, err := s.Read(slot, number)
			return len(got) > 0, err
		}},
		{"Put", true, func(s *stripe.Stripes, disk, slot int, number uint64, b []byte) (bool, api.Errno) {
			return false, s.Put(disk, slot, number, b)
		}},
		{"Has", true, func(s *stripe.Stripes, disk, slot int, number uint64, _ []byte) (bool, api.Errno) {
			return s.Has(disk, slot, number)
		}},
		{"Whole", false, func(s *stripe.Stripes, _, slot int, _ uint64, _ []byte) (bool, api.Errno) {
			got, err := s.Whole(slot)
			return got != 0, err
		}},
		{"Highest", false, func(s *stripe.Stripes, _, slot int, _ uint64, _ []byte) (bool, api.Errno) {
			got, err := s.Highest(slot)
			return got != 0, err
		}},
	}
}

// refused fails, if a call does not tell that error and nothing beside it.
func (c call) refused(t *testing.T, s *stripe.Stripes, disk, slot int, number uint64, b []byte, want api.Errno) {
	t.Helper()
	if beside, err := c.does(s, disk, slot, number, b); err != want || beside {
		t.Fatalf("%s of the disk %d, the slot %d, %d and %d bytes: %v, not %v, anything beside it: %v", c.name, disk, slot, number, len(b), err, want, beside)
	}
}

// outside are numbers that are not there, if there are n.
func outside(n int) []int {
	return []int{-1, n, n + 1, -n, 256, 1 << 32, -1 << 32, 1 << 60, 1 << 61, math.MinInt, math.MaxInt}
}

// lengths are those that neither a part nor a segment of K up to 4 has.
func lengths() []int {
	return []int{0, 1, 56, 64, 112, 447, 449, 512, 895, 897, 1343, 1345, 1791, 1793, 2240, 1 << 16}
}

// TestNone: Stripes that New did not make, and none, tell ErrNil, whatever else is
// wrong.
func TestNone(t *testing.T) {
	var none *stripe.Stripes
	made, _ := stripe.New(nil, api.Geometry{K: 1, N: 2, Segs: 1}, 0)
	for _, s := range []*stripe.Stripes{none, {}, new(stripe.Stripes), made} {
		if s.Array() != nil || s.Geometry() != (api.Geometry{}) {
			t.Fatalf("none: %v %v", s.Array(), s.Geometry())
		}
		for _, c := range calls() {
			for _, at := range []int{-1, 0, 1, math.MaxInt} {
				for _, number := range []uint64{0, 5} {
					c.refused(t, s, at, 0, number, sample(448, 1), api.ErrNil)
					c.refused(t, s, 0, at, number, nil, api.ErrNil)
				}
			}
		}
	}
}

// TestOff: with the power off each call tells ErrOff, whatever else is wrong, and
// nothing changes; behind the crash all is as it was.
func TestOff(t *testing.T) {
	a := disks(t, 3, 17)
	s := over(t, a, 2, 2, 1)
	data := sample(896, 1)
	told(t, "Write", s.Write(1, 5, data), api.OK)
	told(t, "Barrier", a.Barrier(), api.OK)
	told(t, "Put", s.Put(2, 0, 8, sample(448, 2)), api.OK)
	for _, lost := range []int{-1, 1, 0} {
		if lost >= 0 {
			told(t, "Lose", a.Lose(lost), api.OK)
		}
		a.Fuse(1)
		told(t, "Barrier", a.Barrier(), api.ErrOff)
		before := look(a)
		for _, c := range calls() {
			for _, at := range []int{-1, 0, 1, 2, 3} {
				for _, number := range []uint64{0, 5} {
					c.refused(t, s, at, 1, number, sample(448, 1), api.ErrOff)
					c.refused(t, s, 0, at, number, data, api.ErrOff)
					c.refused(t, s, 1, 0, number, nil, api.ErrOff)
				}
			}
		}
		if s.Array() != a || s.Geometry() != (api.Geometry{K: 2, N: 3, Segs: 2}) {
			t.Fatal("with the power off it is another array, or another geometry")
		}
		if look(a) != before {
			t.Fatal("something changed with the power off")
		}
		a.Crash(bytes.Repeat([]byte{1}, a.Flight()))
		if a.Ons() >= 2 {
			segment(t, s, 1, 5, data)
		}
		is(t, s, 0, 0, 8)
	}
}

// TestPlaces: slots and disks that are not there, ahead of the stamps and the bytes
// that may not be, and of lost disks; the first and the last that are.
func TestPlaces(t *testing.T) {
	for _, shape := range [][3]int{{1, 2, 1}, {2, 3, 2}, {2, 5, 16}, {3, 4, 128}, {1, 255, 1}, {254, 255, 1}} {
		k, n, segs := shape[0], shape[1], shape[2]
		a := disks(t, n, 5+8*segs+2)
		s := over(t, a, k, segs, 5)
		data := sample(448*k, 1)
		for _, slot := range []int{0, segs - 1} {
			told(t, "Write", s.Write(slot, 5, data), api.OK)
			segment(t, s, slot, 5, data)
			for _, disk := range []int{0, n - 1} {
				told(t, "Put", s.Put(disk, slot, 6, sample(448, 1)), api.OK)
				has(t, s, disk, slot, 6, true)
				has(t, s, disk, slot, 5, false)
			}
		}
		told(t, "Lose", a.Lose(n/2), api.OK)
		before, flight := sectors(a), a.Flight()
		for _, c := range calls() {
			for _, number := range []uint64{0, 5, math.MaxUint64} {
				for _, b := range [][]byte{data, sample(448, 1), nil} {
					for _, slot := range outside(segs) {
						if slot >= 0 && slot < segs {
							continue
						}
						for _, disk := range []int{-1, 0, n / 2, n - 1, n} {
							c.refused(t, s, disk, slot, number, b, api.ErrNone)
						}
					}
					for _, disk := range outside(n) {
						if c.disk && (disk < 0 || disk >= n) {
							c.refused(t, s, disk, 0, number, b, api.ErrNone)
							c.refused(t, s, disk, segs-1, number, b, api.ErrNone)
						}
					}
				}
			}
		}
		if sectors(a) != before || a.Flight() != flight {
			t.Fatalf("%v: what was refused changed the disks", shape)
		}
	}
}

// TestArguments: a stamp of 0, and bytes that are too few or too many, ahead of lost
// disks and of too few that are on; nothing is written, and no fuse burns.
func TestArguments(t *testing.T) {
	for k := 1; k <= 4; k++ {
		n := k + 2
		d := newPair(t, k, n, 2, 3)
		data := sample(448*k, 1)
		told(t, "Write", d.write(t, 1, 5, data), api.OK)
		d.both(func(a *array.Array) { a.Fuse(9) })
		for lost := range n + 1 {
			if lost > 0 {
				d.both(func(a *array.Array) { told(t, "Lose", a.Lose(lost-1), api.OK) })
			}
			told(t, "Write", d.write(t, 1, 0, data), api.ErrArg)
			told(t, "Write", d.write(t, 1, 0, nil), api.ErrArg)
			noSegment(t, d.s, 1, 0, api.ErrArg)
			noSegment(t, d.s, 0, 0, api.ErrArg)
			for disk := range n {
				told(t, "Put", d.put(t, disk, 1, 0, data[:448]), api.ErrArg)
				told(t, "Put", d.put(t, disk, 1, 0, nil), api.ErrArg)
				if got, err := d.s.Has(disk, 1, 0); err != api.ErrArg || got {
					t.Fatalf("Has(%d, 1, 0): %v %v", disk, got, err)
				}
			}
			for _, number := range []uint64{1, 5, 1 << 63, math.MaxUint64} {
				for _, length := range append(lengths(), 448*k-1, 448*k+1, 448*(k-1), 448*(k+1), 448*n) {
					told(t, "Write", d.write(t, 1, number, sample(length, 1)), api.ErrArg)
				}
				for _, length := range append(lengths(), 896, 1344) {
					for disk := range n {
						told(t, "Put", d.put(t, disk, 1, number, sample(length, 1)), api.ErrArg)
					}
				}
			}
			told(t, "Write", d.write(t, 1, 5, nil), api.ErrArg)
			told(t, "Put", d.put(t, 0, 1, 5, nil), api.ErrArg)
			if got := fuseOf(d.a); got != 9 {
				t.Fatalf("what was refused made the fuse %d", got)
			}
			d.same(t)
		}
	}
}

// TestLost: a Put to a lost disk is ErrLost, whatever else is on; a Has of it is
// false. Neither tells of too few chunks.
func TestLost(t *testing.T) {
	for _, shape := range shapes() {
		k, n := shape[0], shape[1]
		d := newPair(t, k, n, 2, 3)
		told(t, "Write", d.write(t, 1, 5, sample(448*k, 1)), api.OK)
		d.both(func(a *array.Array) { told(t, "Barrier", a.Barrier(), api.OK); a.Fuse(9) })
		for lost := range n {
			d.both(func(a *array.Array) { told(t, "Lose", a.Lose(lost), api.OK) })
			for disk := range n {
				if disk <= lost {
					told(t, "Put", d.put(t, disk, 1, 5, sample(448, 1)), api.ErrLost)
				}
				has(t, d.s, disk, 1, 5, disk > lost)
			}
		}
		if got := fuseOf(d.a); got != 9 || d.a.Flight() != 0 {
			t.Fatalf("what was refused made the fuse %d; %d are in flight", got, d.a.Flight())
		}
		d.same(t)
	}
}

// TestTooFew: with K - 1 disks on Write and Read tell ErrIO, behind all that is wrong
// with their arguments; with K they tell OK. The disks may be any.
func TestTooFew(t *testing.T) {
	for _, shape := range shapes() {
		k, n := shape[0], shape[1]
		data := sample(448*k, 1)
		for turn := range n {
			d := newPair(t, k, n, 2, 3)
			told(t, "Write", d.write(t, 1, 5, data), api.OK)
			for j := range n - k {
				d.both(func(a *array.Array) { told(t, "Lose", a.Lose((turn+j)%n), api.OK) })
			}
			told(t, "Write", d.write(t, 0, 6, data), api.OK)
			segment(t, d.s, 0, 6, data)
			segment(t, d.s, 1, 5, data)
			d.both(func(a *array.Array) { told(t, "Lose", a.Lose((turn+n-k)%n), api.OK); a.Fuse(1) })
			told(t, "Write", d.write(t, 1, 7, data), api.ErrIO)
			told(t, "Write", d.write(t, 2, 7, data), api.ErrNone)
			told(t, "Write", d.write(t, 1, 0, data), api.ErrArg)
			told(t, "Write", d.write(t, 1, 7, data[1:]), api.ErrArg)
			noSegment(t, d.s, 1, 5, api.ErrIO)
			noSegment(t, d.s, 2, 5, api.ErrNone)
			noSegment(t, d.s, 1, 0, api.ErrArg)
			if d.a.Off() {
				t.Fatal("a Write that was refused burnt the fuse")
			}
			d.both(func(a *array.Array) { told(t, "Replace", a.Replace((turn+n-k)%n), api.OK); a.Fuse(0) })
			noSegment(t, d.s, 1, 5, api.ErrIO)
			told(t, "Write", d.write(t, 1, 7, data), api.OK)
			segment(t, d.s, 1, 7, data)
			d.same(t)
		}
	}
}

// spoil changes each byte of a list, and of the room behind it.
func spoil(list []byte) {
	list = list[:cap(list)]
	for i := range list {
		list[i] ^= 0xa5
	}
}

// TestUnchanged: no call changes or keeps what is handed in, nor looks at or changes
// the room behind it.
func TestUnchanged(t *testing.T) {
	for k := 1; k <= 4; k++ {
		d := newPair(t, k, k+2, 2, 1)
		for _, length := range []int{448 * k, 448, 447, 449, 448*k - 1, 448*k + 1, 0} {
			room := sample(length+2000, length)
			were := bytes.Clone(room)
			d.write(t, 1, 5, room[:length])
			d.write(t, 1, 0, room[:length])
			d.write(t, 9, 5, room[:length])
			d.put(t, k, 0, 6, room[:length])
			d.put(t, k, 0, 0, room[:length])
			d.put(t, k+2, 0, 6, room[:length])
			if !bytes.Equal(room, were) {
				t.Fatalf("K %d: %d bytes, or the room behind them, were changed", k, length)
			}
			spoil(room)
			d.same(t)
		}
		segment(t, d.s, 1, 5, sample(448*k+2000, 448*k)[:448*k])
		has(t, d.s, k, 0, 6, true)
	}
}

// TestNewMemory: what Read answers shares its memory with nothing: not with the
// disks, nor with another answer.
func TestNewMemory(t *testing.T) {
	for _, shape := range shapes() {
		k, n := shape[0], shape[1]
		for lost := range n - k + 1 {
			a := disks(t, n, 9)
			s := over(t, a, k, 1, 1)
			data := sample(448*k, 1)
			told(t, "Write", s.Write(0, 5, data), api.OK)
			for disk := range lost {
				told(t, "Lose", a.Lose(disk), api.OK)
			}
			before := sectors(a)
			first, _ := s.Read(0, 5)
			second, _ := s.Read(0, 5)
			spoil(first)
			if !bytes.Equal(second, data) || sectors(a) != before {
				t.Fatalf("K %d of %d: a Read shares its answer's memory", k, n)
			}
			segment(t, s, 0, 5, data)
			told(t, "Write", s.Write(0, 6, sample(448*k, 2)), api.OK)
			a.Crash(nil)
			if !bytes.Equal(second, data) {
				t.Fatalf("K %d of %d: what a Read told was changed", k, n)
			}
		}
	}
}

// TestLooks: what only looks changes nothing: no sector, nothing in flight, no fuse.
func TestLooks(t *testing.T) {
	d := newPair(t, 2, 4, 2, 1)
	told(t, "Write", d.write(t, 0, 5, sample(896, 1)), api.OK)
	told(t, "Put", d.put(t, 1, 0, 6, sample(448, 1)), api.OK)
	d.both(func(a *array.Array) { told(t, "Lose", a.Lose(3), api.OK); a.Fuse(5) })
	for slot := -1; slot <= 2; slot++ {
		for _, number := range []uint64{0, 4, 5, 6, 7} {
			d.reads(t, slot, number)
			for disk := -1; disk <= 4; disk++ {
				d.has(t, disk, slot, number)
			}
		}
		d.tells(t, slot)
	}
	d.same(t)
	if fuseOf(d.a) != 5 {
		t.Fatal("a look burnt the fuse")
	}
}

// TestApart: two Stripes over one array, from different sectors on, and of another K,
// see what the other one writes where their slots are the same, and nothing else.
func TestApart(t *testing.T) {
	a := disks(t, 4, 40)
	one, two := over(t, a, 2, 2, 0), over(t, a, 2, 2, 16)
	same := over(t, a, 3, 3, 8)
	told(t, "Write", one.Write(1, 5, sample(896, 1)), api.OK)
	told(t, "Write", two.Write(0, 6, sample(896, 2)), api.OK)
	segment(t, one, 1, 5, sample(896, 1))
	segment(t, two, 0, 6, sample(896, 2))
	is(t, one, 0, 0, 0)
	is(t, two, 1, 0, 0)
	is(t, same, 0, 5, 5)
	is(t, same, 1, 6, 6)
	is(t, same, 2, 0, 0)
	noSegment(t, one, 1, 6, api.ErrIO)
	told(t, "Write", same.Write(1, 9, sample(1344, 3)), api.OK)
	noSegment(t, two, 0, 6, api.ErrIO)
	is(t, two, 0, 9, 9)
	segment(t, one, 1, 5, sample(896, 1))
}
