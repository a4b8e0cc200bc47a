package stripe_test

import (
	"bytes"
	"math"
	"testing"

	"hayrick/api"
	"hayrick/array"
	"hayrick/stripe"
)

// shapes are K and N: few, and with K at its edges by N.
func shapes() [][2]int {
	return [][2]int{{1, 2}, {1, 3}, {1, 5}, {2, 3}, {2, 4}, {2, 6}, {3, 4}, {3, 5}, {3, 7}, {4, 5}, {4, 6}, {4, 9}}
}

// stamps are the edges of those that a chunk may have.
func stamps() []uint64 {
	return []uint64{1, 2, 255, 256, 1<<32 - 1, 1 << 32, 0x0102030405060708, 1<<63 - 1, 1 << 63, 1<<63 + 1, math.MaxUint64 - 1, math.MaxUint64}
}

// TestLimits: the tests write these numbers out.
func TestLimits(t *testing.T) {
	if api.Sector != 64 || api.Load != 56 || api.Sectors != 8 || api.Chunk != 448 || api.MaxSegs != 128 || api.MaxDisks != 255 {
		t.Fatal(api.Sector, api.Load, api.Sectors, api.Chunk, api.MaxSegs, api.MaxDisks)
	}
}

// isNew fails, if New does not make Stripes that are all over their slots.
func isNew(t *testing.T, a *array.Array, g api.Geometry, from int) {
	t.Helper()
	before := look(a)
	s, err := stripe.New(a, g, from)
	if err != api.OK || s == nil {
		t.Fatalf("New of %d disks of %d, %v, %d: %v", a.Disks(), a.Sectors(), g, from, err)
	}
	if s.Array() != a || s.Geometry() != g {
		t.Fatalf("New of %v: %v, another array: %v", g, s.Geometry(), s.Array() != a)
	}
	if look(a) != before {
		t.Fatalf("New of %v changed the array", g)
	}
}

// notNew fails, if New does not tell that error.
func notNew(t *testing.T, a *array.Array, g api.Geometry, from int, want api.Errno) {
	t.Helper()
	if s, err := stripe.New(a, g, from); err != want || s != nil {
		t.Fatalf("New of %d disks of %d, %v, %d: %v %v, not %v", a.Disks(), a.Sectors(), g, from, s, err, want)
	}
}

func TestNew(t *testing.T) {
	for _, shape := range append(shapes(), [][2]int{{1, 255}, {128, 255}, {254, 255}, {253, 254}}...) {
		k, n := shape[0], shape[1]
		for _, segs := range []int{1, 2, 16, 127, 128} {
			if n > 100 && segs > 2 {
				continue
			}
			for _, from := range []int{0, 1, 7, 48} {
				isNew(t, disks(t, n, from+8*segs), api.Geometry{K: k, N: n, Segs: segs}, from)
			}
		}
	}
	isNew(t, disks(t, 2, 4096), api.Geometry{K: 1, N: 2, Segs: 128}, 3072)
	isNew(t, disks(t, 2, 4096), api.Geometry{K: 1, N: 2, Segs: 1}, 4088)
	isNew(t, disks(t, 2, 4096), api.Geometry{K: 1, N: 2, Segs: 1}, 0)
}

// TestNewWhatever: of an array's disks New asks but how many there are: some may be
// lost, and the power may be off.
func TestNewWhatever(t *testing.T) {
	a := disks(t, 3, 20)
	g := api.Geometry{K: 2, N: 3, Segs: 2}
	told(t, "Write", a.Write(1, 5, sample(64, 1)), api.OK)
	a.Fuse(7)
	isNew(t, a, g, 4)
	for disk := range 3 {
		told(t, "Lose", a.Lose(disk), api.OK)
		isNew(t, a, g, 4)
	}
	a.Fuse(1)
	told(t, "Barrier", a.Barrier(), api.ErrOff)
	isNew(t, a, g, 4)
	s := over(t, a, 2, 2, 4)
	noSegment(t, s, 0, 5, api.ErrOff)
	a.Crash(nil)
	noSegment(t, s, 0, 5, api.ErrIO)
}

// TestNewSize: a disk, or a sector, too few or too many.
func TestNewSize(t *testing.T) {
	for _, shape := range shapes() {
		k, n := shape[0], shape[1]
		for _, segs := range []int{1, 2, 127, 128} {
			for _, from := range []int{0, 1, 48} {
				g := api.Geometry{K: k, N: n, Segs: segs}
				just := from + 8*segs
				notNew(t, disks(t, n-1, just), g, from, api.ErrArg)
				notNew(t, disks(t, n+1, just), g, from, api.ErrArg)
				notNew(t, disks(t, n, just-1), g, from, api.ErrArg)
				notNew(t, disks(t, n, just-7), g, from, api.ErrArg)
				notNew(t, disks(t, n, 1), g, from, api.ErrArg)
				isNew(t, disks(t, n, just), g, from)
				isNew(t, disks(t, n, just+1), g, from)
			}
		}
	}
	notNew(t, disks(t, 254, 8), api.Geometry{K: 1, N: 255, Segs: 1}, 0, api.ErrArg)
	notNew(t, disks(t, 255, 8), api.Geometry{K: 1, N: 254, Segs: 1}, 0, api.ErrArg)
}

func TestNewRefuses(t *testing.T) {
	ends := []int{math.MinInt, math.MinInt + 1, -256, -1, 0, 256, 1 << 32, 1<<32 + 2, math.MaxInt - 1, math.MaxInt}
	for _, n := range []int{1, 2, 3, 4, 255} {
		a := disks(t, n, 1200)
		for _, k := range append(ends, n, n+1) {
			notNew(t, a, api.Geometry{K: k, N: n, Segs: 2}, 0, api.ErrArg)
		}
		for _, other := range append(ends, 1) {
			notNew(t, a, api.Geometry{K: 1, N: other, Segs: 2}, 0, api.ErrArg)
			notNew(t, a, api.Geometry{K: other, N: other, Segs: 2}, 0, api.ErrArg)
		}
	}
	a := disks(t, 3, 4096)
	for _, segs := range append(ends, 129, 130, 512, 1<<61, 1<<61+1, 1<<60, -1<<60) {
		for _, from := range []int{-1, 0, 1, 4096} {
			notNew(t, a, api.Geometry{K: 2, N: 3, Segs: segs}, from, api.ErrArg)
		}
	}
	for _, from := range []int{-1, -8, -1024, math.MinInt, math.MinInt + 8, 4096 - 7, 4096, 1 << 32, math.MaxInt - 8, math.MaxInt - 7, math.MaxInt} {
		notNew(t, a, api.Geometry{K: 2, N: 3, Segs: 1}, from, api.ErrArg)
		notNew(t, a, api.Geometry{K: 2, N: 3, Segs: 128}, from, api.ErrArg)
	}
	notNew(t, a, api.Geometry{K: 2, N: 3, Segs: 128}, 3073, api.ErrArg)
	notNew(t, a, api.Geometry{}, 0, api.ErrArg)
	notNew(t, a, api.Geometry{K: 3, N: 2, Segs: 1}, 0, api.ErrArg)
}

// TestNewNone: no array is told ahead of all else; one that New did not make has no
// disks.
func TestNewNone(t *testing.T) {
	for _, g := range []api.Geometry{{K: 1, N: 2, Segs: 1}, {K: 2, N: 2, Segs: 1}, {}, {K: 1, N: 2, Segs: 129}, {K: -1, N: -2, Segs: -3}} {
		for _, from := range []int{0, -1, math.MaxInt} {
			notNew(t, nil, g, from, api.ErrNil)
			notNew(t, &array.Array{}, g, from, api.ErrArg)
		}
	}
}

// TestArray: Stripes keep the very array: what is done to it is seen, and what they
// write stands there.
func TestArray(t *testing.T) {
	a := disks(t, 3, 11)
	s := over(t, a, 2, 1, 2)
	data := sample(896, 1)
	told(t, "Write", s.Write(0, 5, data), api.OK)
	if s.Array() != a || a.Flight() != 24 {
		t.Fatal("another array, or not as much in flight", a.Flight())
	}
	a.Crash(nil)
	noSegment(t, s, 0, 5, api.ErrIO)
	told(t, "Write", s.Write(0, 5, data), api.OK)
	told(t, "Barrier", s.Array().Barrier(), api.OK)
	a.Crash(nil)
	segment(t, s, 0, 5, data)
	apart := over(t, a.Copy(), 2, 1, 2)
	told(t, "Lose", a.Lose(0), api.OK)
	told(t, "Lose", a.Lose(1), api.OK)
	noSegment(t, s, 0, 5, api.ErrIO)
	segment(t, apart, 0, 5, data)
	g := s.Geometry()
	g.K = 1
	if s.Geometry().K != 2 {
		t.Fatal("the geometry is changed from outside")
	}
}

// TestWrite: what stands on the disks behind a Write, sector by sector: nothing
// ahead of the slots, behind them, or in another one.
func TestWrite(t *testing.T) {
	for at, shape := range shapes() {
		for _, from := range []int{0, 5, 48} {
			d := newPair(t, shape[0], shape[1], 3, from)
			for i, number := range []uint64{1, 1 << 63, math.MaxUint64, 7, 3} {
				for _, slot := range []int{0, 2, 1} {
					data := sample(448*shape[0], 100*at+10*i+slot)
					told(t, "Write", d.write(t, slot, number, data), api.OK)
					segment(t, d.s, slot, number, data)
					is(t, d.s, slot, number, number)
				}
				d.same(t)
				d.both(func(a *array.Array) { told(t, "Barrier", a.Barrier(), api.OK) })
			}
			d.same(t)
		}
	}
}

// TestWriteByHand: one Write's sectors, from the chapter's words alone.
func TestWriteByHand(t *testing.T) {
	a := disks(t, 3, 4+8*2)
	s := over(t, a, 2, 2, 4)
	data := sample(896, 9)
	told(t, "Write", s.Write(1, 0x0102030405060708, data), api.OK)
	if a.Flight() != 24 {
		t.Fatalf("%d in flight", a.Flight())
	}
	for disk := range 3 {
		for at := range 20 {
			want := make([]byte, 64)
			if at >= 12 {
				copy(want, []byte{1, 2, 3, 4, 5, 6, 7, 8})
				for i := range 56 {
					place := 56*(at-12) + i
					x, y := data[place], data[448+place]
					want[8+i] = [3]byte{x, y, byte(product(142, int(x)) ^ product(244, int(y)))}[disk]
				}
			}
			if b, err := a.Read(disk, at); err != api.OK || !bytes.Equal(b, want) {
				t.Fatalf("the sector %d of the disk %d: %v %v, not %v", at, disk, b, err, want)
			}
		}
	}
}

// TestWriteSlots: each of the most slots there are.
func TestWriteSlots(t *testing.T) {
	d := newPair(t, 1, 2, 128, 1)
	for slot := range 128 {
		told(t, "Write", d.write(t, slot, uint64(1000-slot), sample(448, slot)), api.OK)
	}
	d.same(t)
	for slot := range 128 {
		segment(t, d.s, slot, uint64(1000-slot), sample(448, slot))
		noSegment(t, d.s, slot, uint64(1001-slot), api.ErrIO)
		is(t, d.s, slot, uint64(1000-slot), uint64(1000-slot))
	}
}

// TestWriteOns: disks that are lost are passed over; fewer than K are ErrIO, and
// nothing is written.
func TestWriteOns(t *testing.T) {
	for _, shape := range shapes() {
		k, n := shape[0], shape[1]
		for turn := range n {
			d := newPair(t, k, n, 2, 3)
			for left := n; left >= 0; left-- {
				data := sample(448*k, left)
				want := api.OK
				if left < k {
					want = api.ErrIO
				}
				flight := d.a.Flight()
				told(t, "Write", d.write(t, 1, uint64(100-left), data), want)
				if want == api.OK {
					segment(t, d.s, 1, uint64(100-left), data)
					flight += 8 * left
				}
				if d.a.Flight() != flight {
					t.Fatalf("K %d, %d of %d on: %d in flight, not %d", k, left, n, d.a.Flight(), flight)
				}
				if left > 0 {
					d.both(func(a *array.Array) { told(t, "Lose", a.Lose((turn+left)%n), api.OK) })
				}
			}
			d.same(t)
		}
	}
}

// TestWriteFuse: the power goes with each of a Write's sectors: those ahead of it are
// in flight, disk by disk, and nothing else.
func TestWriteFuse(t *testing.T) {
	for _, shape := range [][2]int{{1, 2}, {2, 3}, {3, 5}, {4, 6}} {
		k, n := shape[0], shape[1]
		for _, lost := range []int{-1, 0, n - 1} {
			ons := n
			if lost >= 0 {
				ons--
			}
			for fuse := 1; fuse <= 8*ons+1; fuse++ {
				d := newPair(t, k, n, 2, 1)
				if lost >= 0 {
					d.both(func(a *array.Array) { told(t, "Lose", a.Lose(lost), api.OK) })
				}
				told(t, "Write", d.write(t, 1, 4, sample(448*k, 1)), api.OK)
				d.both(func(a *array.Array) { told(t, "Barrier", a.Barrier(), api.OK); a.Fuse(fuse) })
				want, flight := api.ErrOff, fuse-1
				if fuse > 8*ons {
					want = api.OK
				}
				told(t, "Write", d.write(t, 1, 9, sample(448*k, 2)), want)
				if d.a.Flight() != flight || d.a.Off() != (want == api.ErrOff) {
					t.Fatalf("a fuse of %d: %d in flight, off: %v", fuse, d.a.Flight(), d.a.Off())
				}
				d.same(t)
			}
		}
	}
}

// TestRead: whichever K disks, or more, are left: their chunks tell the segment.
func TestRead(t *testing.T) {
	for at, shape := range shapes() {
		k, n := shape[0], shape[1]
		whole := newPair(t, k, n, 3, 2)
		datas := [][]byte{sample(448*k, at), sample(448*k, at+50), make([]byte, 448*k)}
		for slot, data := range datas {
			told(t, "Write", whole.write(t, slot, uint64(slot+7), data), api.OK)
		}
		for left := range 1 << n {
			a := whole.a.Copy()
			s := over(t, a, k, 3, 2)
			ons := 0
			for disk := range n {
				if left>>disk&1 == 1 {
					ons++
				} else {
					told(t, "Lose", a.Lose(disk), api.OK)
				}
			}
			for slot, data := range datas {
				number := uint64(slot + 7)
				noSegment(t, s, slot, number+1, api.ErrIO)
				switch {
				case ons >= k:
					segment(t, s, slot, number, data)
					is(t, s, slot, number, number)
				case ons > 0:
					noSegment(t, s, slot, number, api.ErrIO)
					is(t, s, slot, 0, number)
				default:
					noSegment(t, s, slot, number, api.ErrIO)
					is(t, s, slot, 0, 0)
				}
			}
		}
	}
}

// TestReadAsked: several segments in one slot, on disks of their own: Read tells the
// one that was asked for, Whole the one with the greatest stamp.
func TestReadAsked(t *testing.T) {
	numbers := []uint64{5, 1 << 63, 3}
	for _, k := range []int{1, 2, 3} {
		n := 3*k + 2
		d := newPair(t, k, n, 2, 4)
		for turn := range n {
			for i, number := range numbers {
				code := coded(k, n, sample(448*k, turn*3+i))
				for j := range k {
					disk := (turn + i*k + j) % n
					told(t, "Put", d.put(t, disk, 1, number, code[disk]), api.OK)
				}
			}
			for _, disk := range []int{(turn + n - 1) % n, (turn + n - 2) % n} {
				told(t, "Put", d.put(t, disk, 1, math.MaxUint64, sample(448, turn)), api.OK)
			}
			for i, number := range numbers {
				segment(t, d.s, 1, number, sample(448*k, turn*3+i))
			}
			if k <= 2 {
				is(t, d.s, 1, math.MaxUint64, math.MaxUint64)
			} else {
				is(t, d.s, 1, 1<<63, math.MaxUint64)
			}
			for _, number := range []uint64{1, 2, 4, 6, 1<<63 - 1, 1<<63 + 1, math.MaxUint64 - 1} {
				noSegment(t, d.s, 1, number, api.ErrIO)
			}
			noSegment(t, d.s, 0, 5, api.ErrIO)
		}
		d.same(t)
	}
}

// TestReadFirst: of more than K chunks that count the first K are the segment's, by
// the disks' numbers, whatever the others have.
func TestReadFirst(t *testing.T) {
	for _, shape := range shapes() {
		k, n := shape[0], shape[1]
		for skip := range n - k + 1 {
			d := newPair(t, k, n, 1, 0)
			data := sample(448*k, skip)
			code := coded(k, n, data)
			for disk := range n {
				switch {
				case disk < skip:
					told(t, "Put", d.put(t, disk, 0, 8, code[disk]), api.OK)
				case disk < skip+k:
					told(t, "Put", d.put(t, disk, 0, 9, code[disk]), api.OK)
				default:
					told(t, "Put", d.put(t, disk, 0, 9, sample(448, disk)), api.OK)
				}
			}
			segment(t, d.s, 0, 9, data)
			d.reads(t, 0, 8)
			d.tells(t, 0)
		}
	}
}

// TestPut: a part's sectors stand on that disk, in that slot, alone; no other disk
// needs to be on.
func TestPut(t *testing.T) {
	for _, shape := range shapes() {
		k, n := shape[0], shape[1]
		d := newPair(t, k, n, 3, 6)
		for i, number := range stamps() {
			disk, slot := i%n, i%3
			told(t, "Put", d.put(t, disk, slot, number, sample(448, i)), api.OK)
			for other := range n {
				d.has(t, other, slot, number)
			}
			d.tells(t, slot)
			d.reads(t, slot, number)
		}
		d.same(t)
		for disk := range n - 1 {
			d.both(func(a *array.Array) { told(t, "Lose", a.Lose(disk), api.OK) })
			told(t, "Put", d.put(t, disk, 0, 9, sample(448, 1)), api.ErrLost)
			told(t, "Put", d.put(t, n-1, 0, uint64(disk+1), sample(448, disk)), api.OK)
			d.has(t, n-1, 0, uint64(disk+1))
		}
		d.same(t)
		d.both(func(a *array.Array) { told(t, "Lose", a.Lose(n-1), api.OK) })
		told(t, "Put", d.put(t, n-1, 0, 9, sample(448, 1)), api.ErrLost)
	}
}

// TestPutFuse: the power goes with each of a Put's eight sectors.
func TestPutFuse(t *testing.T) {
	for fuse := 1; fuse <= 9; fuse++ {
		d := newPair(t, 2, 3, 2, 1)
		d.both(func(a *array.Array) { a.Fuse(fuse) })
		want := api.ErrOff
		if fuse == 9 {
			want = api.OK
		}
		told(t, "Put", d.put(t, 1, 1, 4, sample(448, 3)), want)
		if d.a.Flight() != fuse-1 {
			t.Fatalf("a fuse of %d: %d in flight", fuse, d.a.Flight())
		}
		d.same(t)
	}
}

// TestPutBack: chunks that are put where disks were replaced are read.
func TestPutBack(t *testing.T) {
	for _, shape := range shapes() {
		k, n := shape[0], shape[1]
		a := disks(t, n, 8)
		s := over(t, a, k, 1, 0)
		data := sample(448*k, n)
		code := coded(k, n, data)
		told(t, "Write", s.Write(0, 6, data), api.OK)
		for disk := range n {
			told(t, "Lose", a.Lose(disk), api.OK)
			told(t, "Replace", a.Replace(disk), api.OK)
			has(t, s, disk, 0, 6, false)
			segment(t, s, 0, 6, data)
			told(t, "Put", s.Put(disk, 0, 6, code[disk]), api.OK)
			has(t, s, disk, 0, 6, true)
		}
		segment(t, s, 0, 6, data)
	}
}

// has fails, if Has does not tell so.
func has(t *testing.T, s *stripe.Stripes, disk, slot int, number uint64, want bool) {
	t.Helper()
	if got, err := s.Has(disk, slot, number); err != api.OK || got != want {
		t.Fatalf("Has(%d, %d, %d): %v %v, not %v", disk, slot, number, got, err, want)
	}
}

func TestHas(t *testing.T) {
	for _, shape := range shapes() {
		k, n := shape[0], shape[1]
		for _, number := range stamps() {
			a := disks(t, n, 17)
			s := over(t, a, k, 2, 1)
			told(t, "Write", s.Write(1, number, sample(448*k, 1)), api.OK)
			for disk := range n {
				has(t, s, disk, 0, number, false)
				has(t, s, disk, 1, number, true)
				for _, other := range stamps() {
					has(t, s, disk, 1, other, other == number)
				}
				for bit := range 64 {
					if other := number ^ 1<<bit; other != 0 {
						has(t, s, disk, 1, other, false)
					}
				}
				told(t, "Lose", a.Lose(disk), api.OK)
				has(t, s, disk, 1, number, false)
				told(t, "Replace", a.Replace(disk), api.OK)
				has(t, s, disk, 1, number, false)
			}
		}
	}
}

// TestOneSectorOfAnother: a chunk one sector of which has another stamp does not
// count; Highest looks at that one, too.
func TestOneSectorOfAnother(t *testing.T) {
	for _, shape := range shapes() {
		k, n := shape[0], shape[1]
		for _, place := range []int{0, 3, 4, 7} {
			for _, other := range []uint64{0, 1, 1<<63 - 1, 1<<63 + 1, math.MaxUint64} {
				d := newPair(t, k, n, 2, 5)
				data := sample(448*k, place)
				told(t, "Write", d.write(t, 1, 1<<63, data), api.OK)
				for broken := range n {
					b := sectorsOf(other, sample(448, broken))[place]
					d.both(func(a *array.Array) { told(t, "Write", a.Write(broken, 13+place, b), api.OK) })
					has(t, d.s, broken, 1, 1<<63, false)
					if other != 0 {
						has(t, d.s, broken, 1, other, false)
						noSegment(t, d.s, 1, other, api.ErrIO)
					}
					if n-broken-1 >= k {
						segment(t, d.s, 1, 1<<63, data)
						is(t, d.s, 1, 1<<63, max(1<<63, other))
					} else {
						noSegment(t, d.s, 1, 1<<63, api.ErrIO)
						is(t, d.s, 1, 0, max(1<<63, other))
					}
				}
			}
		}
	}
}

// TestLostStamps: what stood on a lost disk is told by no call, and not by the blank
// one in its place.
func TestLostStamps(t *testing.T) {
	a := disks(t, 3, 16)
	s := over(t, a, 1, 2, 0)
	for disk, number := range []uint64{7, 9, 8} {
		told(t, "Put", s.Put(disk, 1, number, sample(448, disk)), api.OK)
	}
	is(t, s, 1, 9, 9)
	told(t, "Lose", a.Lose(1), api.OK)
	is(t, s, 1, 8, 8)
	noSegment(t, s, 1, 9, api.ErrIO)
	has(t, s, 1, 1, 9, false)
	told(t, "Replace", a.Replace(1), api.OK)
	is(t, s, 1, 8, 8)
	noSegment(t, s, 1, 9, api.ErrIO)
	has(t, s, 1, 1, 9, false)
	told(t, "Lose", a.Lose(2), api.OK)
	is(t, s, 1, 7, 7)
	told(t, "Lose", a.Lose(0), api.OK)
	is(t, s, 1, 0, 0)
	told(t, "Lose", a.Lose(1), api.OK)
	is(t, s, 1, 0, 0)
	is(t, s, 0, 0, 0)
}

// TestWhole: K - 1, K and more chunks of stamps that come in any order by the disks.
func TestWhole(t *testing.T) {
	for _, k := range []int{1, 2, 3, 4} {
		n := 2*k + 1
		for turn := range n {
			for most := range n + 1 {
				d := newPair(t, k, n, 2, 0)
				for j := range n {
					number := uint64(1 << 63)
					if j >= most {
						number = 77
					}
					told(t, "Put", d.put(t, (turn+j)%n, 1, number, sample(448, j)), api.OK)
				}
				want := uint64(1 << 63)
				if most < k {
					want = 77
				}
				highest := want
				if most > 0 {
					highest = 1 << 63
				}
				is(t, d.s, 1, want, highest)
				is(t, d.s, 0, 0, 0)
				d.tells(t, 1)
			}
		}
		d := newPair(t, k, n, 1, 0)
		for j := range n {
			told(t, "Put", d.put(t, j, 0, uint64(n-j), sample(448, j)), api.OK)
		}
		if k == 1 {
			is(t, d.s, 0, uint64(n), uint64(n))
		} else {
			is(t, d.s, 0, 0, uint64(n))
		}
	}
}

// TestHighest: one sector alone has the greatest stamp, on each disk and at each of
// a slot's places, with any bytes behind it; the sectors beside the slot are none of
// it.
func TestHighest(t *testing.T) {
	for disk := range 3 {
		for at := range 19 {
			for _, number := range []uint64{1, 1 << 63, math.MaxUint64} {
				for _, load := range [][]byte{make([]byte, 448), sample(448, at)} {
					a := disks(t, 3, 19)
					s := over(t, a, 2, 2, 1)
					told(t, "Write", a.Write(disk, at, sectorsOf(number, load)[1]), api.OK)
					for slot := range 2 {
						var want uint64
						if at >= 1+8*slot && at < 9+8*slot {
							want = number
						}
						is(t, s, slot, 0, want)
					}
				}
			}
		}
	}
	a := disks(t, 3, 8)
	s := over(t, a, 2, 1, 0)
	for at := range 8 {
		for disk := range 3 {
			number := uint64(at*3+disk+1) * 0x0101010101010101
			told(t, "Write", a.Write(disk, at, sectorsOf(number, sample(448, at))[0]), api.OK)
			is(t, s, 0, 0, number)
		}
	}
}

// TestNoughts: on blank disks nothing counts: 0 is no stamp.
func TestNoughts(t *testing.T) {
	for _, shape := range shapes() {
		d := newPair(t, shape[0], shape[1], 2, 1)
		for slot := range 2 {
			is(t, d.s, slot, 0, 0)
			for _, number := range stamps() {
				noSegment(t, d.s, slot, number, api.ErrIO)
				has(t, d.s, 0, slot, number, false)
			}
			noSegment(t, d.s, slot, 0, api.ErrArg)
		}
		d.same(t)
	}
}

// TestLarge: the most disks that there are.
func TestLarge(t *testing.T) {
	for _, k := range []int{1, 2, 128, 254} {
		d := newPair(t, k, 255, 1, 2)
		data := sample(448*k, k)
		told(t, "Write", d.write(t, 0, 5, data), api.OK)
		if sectors(d.a) != sectors(d.p.a) {
			t.Fatalf("K %d of 255: the disks are not as the document tells", k)
		}
		segment(t, d.s, 0, 5, data)
		for disk := range 255 - k {
			told(t, "Lose", d.a.Lose(disk), api.OK)
		}
		segment(t, d.s, 0, 5, data)
		is(t, d.s, 0, 5, 5)
		told(t, "Lose", d.a.Lose(254), api.OK)
		noSegment(t, d.s, 0, 5, api.ErrIO)
		told(t, "Write", d.s.Write(0, 6, data), api.ErrIO)
	}
}

func TestExamples(t *testing.T) {
	a := disks(t, 3, 16)
	s := over(t, a, 2, 1, 0)
	data := sample(896, 4)
	told(t, "Write", s.Write(0, 5, data), api.OK)
	told(t, "Lose", a.Lose(1), api.OK)
	segment(t, s, 0, 5, data)
	whole := a.Copy()
	told(t, "Lose", a.Lose(2), api.OK)
	noSegment(t, s, 0, 5, api.ErrIO)
	is(t, s, 0, 0, 5)
	s = over(t, whole, 2, 1, 0)
	noSegment(t, s, 0, 4, api.ErrIO)
	noSegment(t, s, 0, 0, api.ErrArg)
	noSegment(t, s, -1, 5, api.ErrNone)
}
