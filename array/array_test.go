package array_test

import (
	"bytes"
	"math"
	"testing"

	"hayrick/api"
	"hayrick/array"
)

// full is a sector that has one byte all over.
func full(x byte) []byte { return bytes.Repeat([]byte{x}, 64) }

// sample is a list of bytes that have no order to be seen.
func sample(length, seed int) []byte {
	next := dice(seed)
	made := make([]byte, length)
	for i := range made {
		made[i] = byte(next(256))
	}
	return made
}

// fresh is an array that New made.
func fresh(t *testing.T, disks, sectors int) *array.Array {
	t.Helper()
	a, err := array.New(disks, sectors)
	if err != api.OK || a == nil {
		t.Fatalf("New(%d, %d): %v", disks, sectors, err)
	}
	return a
}

// told fails, if a call did not tell that error.
func told(t *testing.T, what string, got, want api.Errno) {
	t.Helper()
	if got != want {
		t.Fatalf("%s: %v, not %v", what, got, want)
	}
}

// write is a Write that must be OK.
func write(t *testing.T, a *array.Array, disk, at int, b []byte) {
	t.Helper()
	told(t, "Write", a.Write(disk, at, b), api.OK)
}

// reads fails, if a sector does not have these bytes.
func reads(t *testing.T, a *array.Array, disk, at int, want []byte) {
	t.Helper()
	got, err := a.Read(disk, at)
	if err != api.OK || !bytes.Equal(got, want) {
		t.Fatalf("Read(%d, %d): %v %v, not %v", disk, at, got, err, want)
	}
}

// unread fails, if a Read does not tell that error, or tells bytes beside it.
func unread(t *testing.T, a *array.Array, disk, at int, want api.Errno) {
	t.Helper()
	if got, err := a.Read(disk, at); err != want || len(got) != 0 {
		t.Fatalf("Read(%d, %d): %v %v, not %v", disk, at, got, err, want)
	}
}

// flies fails, if not as many writes are in flight.
func flies(t *testing.T, a *array.Array, want int) {
	t.Helper()
	if got := a.Flight(); got != want {
		t.Fatalf("Flight: %d, not %d", got, want)
	}
}

// looks is all that an array tells, but for its fuse. Of one whose power is off
// the sectors are those of a Copy that crashed, once with all that is in flight
// and once with nothing of it.
type looks struct {
	disks, sectors, ons, flight int
	off                         bool
	all, none                   string
}

func look(a *array.Array) looks {
	return looks{
		disks: a.Disks(), sectors: a.Sectors(), ons: a.Ons(), flight: a.Flight(), off: a.Off(),
		all: crashed(a, bytes.Repeat([]byte{1}, a.Flight())), none: crashed(a, nil),
	}
}

// crashed is what the sectors of an array's Copy are behind a crash.
func crashed(a *array.Array, picks []byte) string {
	a = a.Copy()
	a.Crash(picks)
	return sectors(a)
}

// sectors has all sectors of an array, and "lost" in the place of a disk's that is.
func sectors(a *array.Array) string {
	var all []byte
	for disk := range a.Disks() {
		for at := range a.Sectors() {
			b, err := a.Read(disk, at)
			if err == api.ErrLost {
				all = append(all, "lost"...)
			}
			all = append(all, b...)
		}
	}
	return string(all)
}

// fuseOf is how many calls a fuse has left, by what Copies of the array do; 0: none.
func fuseOf(a *array.Array) int {
	a = a.Copy()
	for calls := 1; calls < 100; calls++ {
		if a.Barrier() == api.ErrOff {
			return calls
		}
	}
	return 0
}

// TestLimits: the tests write these numbers out.
func TestLimits(t *testing.T) {
	if api.Sector != 64 || api.MaxDisks != 255 {
		t.Fatal(api.Sector, api.MaxDisks)
	}
}

func TestNew(t *testing.T) {
	for _, disks := range []int{1, 2, 3, 254, 255} {
		for _, count := range []int{1, 2, 48, 4095, 4096} {
			if disks > 3 && count > 48 && disks*count != 255*4096 {
				continue
			}
			a := fresh(t, disks, count)
			if a.Disks() != disks || a.Sectors() != count || a.Ons() != disks || a.Off() || a.Flight() != 0 {
				t.Fatalf("New(%d, %d): %d %d %d %v %d", disks, count, a.Disks(), a.Sectors(), a.Ons(), a.Off(), a.Flight())
			}
			for _, disk := range []int{0, disks / 2, disks - 1} {
				if !a.On(disk) {
					t.Fatalf("New(%d, %d): the disk %d is not on", disks, count, disk)
				}
				for _, at := range []int{0, count / 2, count - 1} {
					reads(t, a, disk, at, full(0))
				}
			}
		}
	}
}

// TestNewNoughts: each sector is noughts at first, and there is no fuse.
func TestNewNoughts(t *testing.T) {
	a := fresh(t, 3, 20)
	if sectors(a) != string(make([]byte, 3*20*64)) {
		t.Error("a new array has bytes")
	}
	for range 1000 {
		told(t, "Barrier", a.Barrier(), api.OK)
		write(t, a, 1, 1, full(0))
	}
}

func TestNewRefuses(t *testing.T) {
	wrong := [][2]int{
		{0, 1}, {0, 0}, {-1, 1}, {256, 1}, {257, 1}, {1, 0}, {1, -1}, {1, 4097}, {255, 4097}, {256, 4096}, {0, 4096}, {255, 0},
		{math.MinInt, 1}, {math.MaxInt, 1}, {1, math.MinInt}, {1, math.MaxInt}, {math.MaxInt, math.MaxInt}, {1 << 32, 1}, {1, 1 << 32}, {1<<32 + 1, 1<<32 + 1},
	}
	for _, w := range wrong {
		if a, err := array.New(w[0], w[1]); err != api.ErrArg || a != nil {
			t.Errorf("New(%d, %d): %v %v", w[0], w[1], a, err)
		}
	}
}

// outside are numbers of disks or sectors that are not there, if there are n.
func outside(n int) []int {
	return []int{-1, n, n + 1, -n, 255, 256, 4096, 4097, 1 << 32, -1 << 32, math.MinInt, math.MaxInt}
}

func TestOn(t *testing.T) {
	for _, disks := range []int{1, 2, 5, 255} {
		a := fresh(t, disks, 1)
		for _, disk := range outside(disks) {
			if a.On(disk) {
				t.Errorf("of %d disks %d is on", disks, disk)
			}
		}
		for disk := range disks {
			if !a.On(disk) || a.Ons() != disks-disk {
				t.Errorf("of %d disks %d: %v, %d are on", disks, disk, a.On(disk), a.Ons())
			}
			told(t, "Lose", a.Lose(disk), api.OK)
			if a.On(disk) || a.Ons() != disks-disk-1 {
				t.Errorf("of %d disks %d that is lost: %v, %d are on", disks, disk, a.On(disk), a.Ons())
			}
		}
		told(t, "Replace", a.Replace(disks-1), api.OK)
		if !a.On(disks-1) || a.Ons() != 1 || a.Disks() != disks || a.Sectors() != 1 {
			t.Errorf("of %d disks: %d are on", disks, a.Ons())
		}
	}
}

// TestWriteRead: the first and the last disk and sector, and those within.
func TestWriteRead(t *testing.T) {
	for _, shape := range [][2]int{{1, 1}, {1, 4096}, {255, 1}, {255, 9}, {3, 40}, {2, 4096}} {
		a := fresh(t, shape[0], shape[1])
		count := 0
		for _, last := range []bool{false, true} {
			for disk := 0; disk < shape[0]; disk += 1 + shape[0]/3 {
				for at := 0; at < shape[1]; at += 1 + shape[1]/7 {
					d, s := disk, at
					if last {
						d, s = shape[0]-1-disk, shape[1]-1-at
					}
					b := sample(64, count)
					write(t, a, d, s, b)
					count++
					flies(t, a, count)
					reads(t, a, d, s, b)
				}
			}
		}
		before := sectors(a)
		told(t, "Barrier", a.Barrier(), api.OK)
		flies(t, a, 0)
		if sectors(a) != before {
			t.Errorf("%v: a Barrier changed what is read", shape)
		}
		a.Crash(nil)
		if sectors(a) != before {
			t.Errorf("%v: what was ahead of a Barrier is gone", shape)
		}
	}
}

// TestReadLast: what was written last is read: in flight, behind a barrier, and
// in flight again.
func TestReadLast(t *testing.T) {
	a := fresh(t, 2, 3)
	for x := byte(1); x < 200; x++ {
		write(t, a, 1, 2, full(x))
		reads(t, a, 1, 2, full(x))
		if x%3 == 0 {
			told(t, "Barrier", a.Barrier(), api.OK)
			reads(t, a, 1, 2, full(x))
		}
		reads(t, a, 1, 1, full(0))
		reads(t, a, 0, 2, full(0))
	}
	flies(t, a, 1)
}

// TestBarrierOrder: of two writes of one sector the later one lasts.
func TestBarrierOrder(t *testing.T) {
	a := fresh(t, 2, 2)
	write(t, a, 0, 1, full(1))
	write(t, a, 1, 1, full(2))
	write(t, a, 0, 1, full(3))
	told(t, "Barrier", a.Barrier(), api.OK)
	reads(t, a, 0, 1, full(3))
	a.Crash([]byte{1, 1, 1})
	reads(t, a, 0, 1, full(3))
	reads(t, a, 1, 1, full(2))
	told(t, "Barrier of nothing", a.Barrier(), api.OK)
	flies(t, a, 0)
}

func TestWriteRefusesLengths(t *testing.T) {
	a := fresh(t, 2, 3)
	write(t, a, 1, 1, full(9))
	room := sample(200, 1)
	wrong := [][]byte{nil, {}, {1}, full(1)[:63], append(full(1), 1), make([]byte, 56), make([]byte, 128), make([]byte, 4096), room[:63], room[:65]}
	before := look(a)
	for _, b := range wrong {
		told(t, "Write", a.Write(1, 1, b), api.ErrArg)
		if look(a) != before {
			t.Errorf("a Write of %d bytes changed something", len(b))
		}
	}
	write(t, a, 1, 1, room[:64])
	reads(t, a, 1, 1, room[:64])
}

func TestRefusesPlaces(t *testing.T) {
	for _, shape := range [][2]int{{1, 1}, {3, 5}, {255, 2}, {2, 4096}} {
		a := fresh(t, shape[0], shape[1])
		write(t, a, 0, 0, full(7))
		a.Fuse(9)
		before := sectors(a)
		for _, disk := range outside(shape[0]) {
			if disk >= 0 && disk < shape[0] {
				continue
			}
			told(t, "Write", a.Write(disk, 0, full(1)), api.ErrNone)
			unread(t, a, disk, 0, api.ErrNone)
			told(t, "Lose", a.Lose(disk), api.ErrNone)
			told(t, "Replace", a.Replace(disk), api.ErrNone)
		}
		for _, at := range outside(shape[1]) {
			if at >= 0 && at < shape[1] {
				continue
			}
			told(t, "Write", a.Write(shape[0]-1, at, full(1)), api.ErrNone)
			unread(t, a, shape[0]-1, at, api.ErrNone)
		}
		if a.Ons() != shape[0] || a.Flight() != 1 || a.Off() || fuseOf(a) != 9 || sectors(a) != before {
			t.Errorf("%v: what was refused changed something", shape)
		}
	}
}

// TestKept: no call keeps or changes what is handed in; a Read is new memory.
func TestKept(t *testing.T) {
	a := fresh(t, 1, 2)
	room := sample(200, 4)
	were := bytes.Clone(room)
	write(t, a, 0, 0, room[:64])
	a.Write(0, 1, room[:65])
	picks := room[64:]
	if !bytes.Equal(room, were) {
		t.Fatal("a Write changed what was handed in")
	}
	clear(room[:64])
	reads(t, a, 0, 0, were[:64])
	for range 2 {
		got, _ := a.Read(0, 0)
		got = got[:cap(got)]
		clear(got)
		reads(t, a, 0, 0, were[:64])
		told(t, "Barrier", a.Barrier(), api.OK)
		reads(t, a, 0, 0, were[:64])
	}
	write(t, a, 0, 0, full(1))
	got, _ := a.Read(0, 0)
	told(t, "Write", a.Write(0, 0, got), api.OK)
	clear(got)
	reads(t, a, 0, 0, full(1))
	picks[1] = 1
	were[65] = 1
	a.Crash(picks)
	reads(t, a, 0, 0, full(1))
	if !bytes.Equal(picks, were[64:]) {
		t.Error("a Crash changed its picks")
	}
}

// TestReadKept: what a Read told stays, whatever is done behind it.
func TestReadKept(t *testing.T) {
	a := fresh(t, 1, 1)
	write(t, a, 0, 0, full(1))
	got, _ := a.Read(0, 0)
	write(t, a, 0, 0, full(2))
	a.Crash(nil)
	a.Lose(0)
	a.Replace(0)
	if !bytes.Equal(got, full(1)) {
		t.Error("what a Read told was changed")
	}
}

func TestExamples(t *testing.T) {
	a := fresh(t, 2, 4)
	write(t, a, 0, 1, full(1))
	write(t, a, 1, 1, full(2))
	flies(t, a, 2)
	a.Crash([]byte{1, 0})
	reads(t, a, 0, 1, full(1))
	reads(t, a, 1, 1, full(0))
	told(t, "Lose", a.Lose(0), api.OK)
	unread(t, a, 0, 1, api.ErrLost)
	told(t, "Write", a.Write(0, 1, full(1)), api.ErrLost)
	if a.Ons() != 1 {
		t.Error(a.Ons())
	}
	told(t, "Replace", a.Replace(0), api.OK)
	reads(t, a, 0, 1, full(0))
	told(t, "Replace", a.Replace(0), api.ErrArg)
	a.Fuse(2)
	told(t, "Write", a.Write(1, 0, full(3)), api.OK)
	told(t, "Barrier", a.Barrier(), api.ErrOff)
	if !a.Off() {
		t.Error("the power is on")
	}
}
