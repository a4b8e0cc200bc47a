package array_test

import (
	"math"
	"testing"

	"hayrick/api"
	"hayrick/array"
)

// TestFuseNone: a fuse below 1 is none, in the place of another one, too.
func TestFuseNone(t *testing.T) {
	for _, n := range []int{0, -1, -2, math.MinInt} {
		a := fresh(t, 1, 1)
		a.Fuse(n)
		if fuseOf(a) != 0 {
			t.Errorf("Fuse(%d): there is one", n)
		}
		a.Fuse(2)
		a.Fuse(n)
		if fuseOf(a) != 0 || a.Off() {
			t.Errorf("Fuse(%d) behind Fuse(2): there is one", n)
		}
	}
}

// TestFuseCounts: Write and Barrier count alike, and the one that is the n-th is
// not done.
func TestFuseCounts(t *testing.T) {
	for n := 1; n <= 9; n++ {
		for mask := range 1 << n {
			a := fresh(t, 2, 3)
			a.Fuse(n)
			flight := 0
			for call := range n - 1 {
				if mask>>call&1 == 1 {
					told(t, "Barrier", a.Barrier(), api.OK)
					flight = 0
				} else {
					write(t, a, call%2, 1, full(byte(call+1)))
					flight++
				}
				if a.Off() {
					t.Fatalf("Fuse(%d): the power is off behind %d calls", n, call+1)
				}
			}
			kept, _ := a.Read(1, 1)
			if mask>>(n-1)&1 == 1 {
				told(t, "the last Barrier", a.Barrier(), api.ErrOff)
			} else {
				told(t, "the last Write", a.Write(1, 1, full(99)), api.ErrOff)
			}
			if !a.Off() {
				t.Fatalf("Fuse(%d): the power is on behind as many calls", n)
			}
			flies(t, a, flight)
			a.Crash([]byte{1, 1, 1, 1, 1, 1, 1, 1, 1, 1})
			reads(t, a, 1, 1, kept)
		}
	}
}

// TestFuseBarrier: the Barrier with which the fuse is 0 makes nothing last.
func TestFuseBarrier(t *testing.T) {
	a := fresh(t, 1, 2)
	write(t, a, 0, 0, full(1))
	told(t, "Barrier", a.Barrier(), api.OK)
	write(t, a, 0, 0, full(2))
	write(t, a, 0, 1, full(3))
	a.Fuse(1)
	told(t, "Barrier", a.Barrier(), api.ErrOff)
	flies(t, a, 2)
	a.Crash([]byte{0, 1})
	reads(t, a, 0, 0, full(1))
	reads(t, a, 0, 1, full(3))
}

// TestFuseGone: behind the power's going, and behind a crash, there is none.
func TestFuseGone(t *testing.T) {
	a := fresh(t, 1, 1)
	a.Fuse(1)
	told(t, "Write", a.Write(0, 0, full(1)), api.ErrOff)
	a.Crash(nil)
	if a.Off() || fuseOf(a) != 0 {
		t.Error("behind the power's going there is a fuse")
	}
	reads(t, a, 0, 0, full(0))
	a.Fuse(3)
	a.Crash(nil)
	if fuseOf(a) != 0 {
		t.Error("behind a crash there is a fuse")
	}
	a.Fuse(1)
	told(t, "Barrier", a.Barrier(), api.ErrOff)
	a.Fuse(2)
	if !a.Off() {
		t.Error("a fuse brings the power back")
	}
	a.Crash(nil)
	if a.Off() || fuseOf(a) != 0 {
		t.Error("behind a crash there is a fuse that was put in with the power off")
	}
}

// TestFuseAnew: a fuse takes the place of the one that there was.
func TestFuseAnew(t *testing.T) {
	a := fresh(t, 1, 1)
	a.Fuse(2)
	write(t, a, 0, 0, full(1))
	a.Fuse(2)
	write(t, a, 0, 0, full(2))
	a.Fuse(math.MaxInt)
	for range 50 {
		told(t, "Barrier", a.Barrier(), api.OK)
	}
	a.Fuse(1)
	told(t, "Barrier", a.Barrier(), api.ErrOff)
}

// TestFuseOthers: what is refused, and all but Write and Barrier, leaves it.
func TestFuseOthers(t *testing.T) {
	a := fresh(t, 3, 2)
	told(t, "Lose", a.Lose(2), api.OK)
	write(t, a, 0, 0, full(1))
	a.Fuse(2)
	for range 5 {
		told(t, "Write", a.Write(-1, 0, full(1)), api.ErrNone)
		told(t, "Write", a.Write(3, 0, full(1)), api.ErrNone)
		told(t, "Write", a.Write(0, -1, full(1)), api.ErrNone)
		told(t, "Write", a.Write(0, 2, full(1)), api.ErrNone)
		told(t, "Write", a.Write(2, 0, full(1)), api.ErrLost)
		told(t, "Write", a.Write(0, 0, full(1)[:63]), api.ErrArg)
		reads(t, a, 0, 0, full(1))
		unread(t, a, 2, 0, api.ErrLost)
		told(t, "Lose", a.Lose(2), api.ErrLost)
		told(t, "Replace", a.Replace(0), api.ErrArg)
		told(t, "Replace", a.Replace(2), api.OK)
		told(t, "Lose", a.Lose(2), api.OK)
		a.Disks()
		a.Sectors()
		a.On(0)
		a.Ons()
		a.Flight()
		a.Off()
		a.Copy()
	}
	if fuseOf(a) != 2 || a.Off() {
		t.Errorf("the fuse is %d", fuseOf(a))
	}
}

// TestOff: with the power off nothing is read or written, and nothing changes;
// what is in flight stays there till the crash.
func TestOff(t *testing.T) {
	a := fresh(t, 3, 2)
	told(t, "Lose", a.Lose(2), api.OK)
	write(t, a, 0, 0, full(1))
	told(t, "Barrier", a.Barrier(), api.OK)
	write(t, a, 0, 0, full(2))
	write(t, a, 1, 1, full(3))
	a.Fuse(1)
	told(t, "Write", a.Write(1, 0, full(4)), api.ErrOff)
	before := look(a)
	for _, disk := range []int{-1, 0, 1, 2, 3} {
		for _, at := range []int{-1, 0, 1, 2} {
			told(t, "Write", a.Write(disk, at, full(5)), api.ErrOff)
			told(t, "Write", a.Write(disk, at, nil), api.ErrOff)
			unread(t, a, disk, at, api.ErrOff)
		}
	}
	told(t, "Barrier", a.Barrier(), api.ErrOff)
	if !a.Off() || look(a) != before || a.Flight() != 2 || a.Ons() != 2 || !a.On(0) || a.On(2) {
		t.Error("something changed with the power off")
	}
	a.Crash([]byte{0, 1})
	reads(t, a, 0, 0, full(1))
	reads(t, a, 1, 1, full(3))
	reads(t, a, 1, 0, full(0))
}

// TestOffDisks: disks are lost and replaced with the power off, too.
func TestOffDisks(t *testing.T) {
	a := fresh(t, 3, 2)
	told(t, "Lose", a.Lose(2), api.OK)
	write(t, a, 0, 0, full(1))
	write(t, a, 1, 0, full(2))
	write(t, a, 0, 1, full(3))
	write(t, a, 1, 1, full(4))
	a.Fuse(1)
	told(t, "Barrier", a.Barrier(), api.ErrOff)
	told(t, "Lose", a.Lose(-1), api.ErrNone)
	told(t, "Lose", a.Lose(3), api.ErrNone)
	told(t, "Replace", a.Replace(-1), api.ErrNone)
	told(t, "Replace", a.Replace(3), api.ErrNone)
	told(t, "Lose", a.Lose(2), api.ErrLost)
	told(t, "Replace", a.Replace(0), api.ErrArg)
	told(t, "Lose", a.Lose(0), api.OK)
	told(t, "Replace", a.Replace(2), api.OK)
	if a.On(0) || !a.On(2) || a.Ons() != 2 || !a.Off() {
		t.Errorf("%v %v %d %v", a.On(0), a.On(2), a.Ons(), a.Off())
	}
	flies(t, a, 2)
	a.Crash([]byte{0, 1})
	unread(t, a, 0, 0, api.ErrLost)
	reads(t, a, 1, 0, full(0))
	reads(t, a, 1, 1, full(4))
	reads(t, a, 2, 0, full(0))
}

// TestErrorsOrder: of several errors the first of ErrNone, ErrLost, ErrArg is told.
func TestErrorsOrder(t *testing.T) {
	a := fresh(t, 2, 2)
	told(t, "Lose", a.Lose(1), api.OK)
	told(t, "Write past the disks", a.Write(2, 0, nil), api.ErrNone)
	told(t, "Write past the sectors", a.Write(0, 2, nil), api.ErrNone)
	told(t, "Write past a lost disk's sectors", a.Write(1, 2, full(1)), api.ErrNone)
	told(t, "Write ahead of a lost disk's sectors", a.Write(1, -1, nil), api.ErrNone)
	told(t, "Write to a lost disk of no bytes", a.Write(1, 1, nil), api.ErrLost)
	told(t, "Write of no bytes", a.Write(0, 1, nil), api.ErrArg)
	unread(t, a, 1, 2, api.ErrNone)
	unread(t, a, 1, -1, api.ErrNone)
	unread(t, a, 1, 1, api.ErrLost)
	flies(t, a, 0)
	a.Fuse(1)
	told(t, "Write with the last of the fuse, of no bytes", a.Write(0, 1, nil), api.ErrArg)
	told(t, "Write with the last of the fuse", a.Write(0, 1, full(1)), api.ErrOff)
	told(t, "Write past the disks with the power off", a.Write(2, 0, nil), api.ErrOff)
}

// TestLose: what a disk had is gone for good, and what was in flight for it.
func TestLose(t *testing.T) {
	a := fresh(t, 3, 2)
	for disk := range 3 {
		write(t, a, disk, 0, full(byte(10+disk)))
	}
	told(t, "Barrier", a.Barrier(), api.OK)
	for round := range 2 {
		for disk := range 3 {
			write(t, a, disk, 1, full(byte(20+10*round+disk)))
		}
	}
	flies(t, a, 6)
	told(t, "Lose", a.Lose(1), api.OK)
	flies(t, a, 4)
	before := look(a)
	told(t, "Lose", a.Lose(1), api.ErrLost)
	if look(a) != before {
		t.Error("a Lose that was refused changed something")
	}
	told(t, "Replace", a.Replace(1), api.OK)
	flies(t, a, 4)
	for at := range 2 {
		reads(t, a, 1, at, full(0))
	}
	reads(t, a, 0, 0, full(10))
	reads(t, a, 0, 1, full(30))
	reads(t, a, 2, 0, full(12))
	reads(t, a, 2, 1, full(32))
	a.Crash([]byte{1, 1, 1, 0, 1, 1})
	reads(t, a, 0, 1, full(30))
	reads(t, a, 1, 0, full(0))
	reads(t, a, 1, 1, full(0))
	reads(t, a, 2, 1, full(22))
}

// TestLoseOrder: what is in flight for other disks keeps its order, wherever the
// writes of the lost one stood.
func TestLoseOrder(t *testing.T) {
	for keep := range 4 {
		a := fresh(t, 2, 4)
		for at := range 4 {
			write(t, a, 1, at, full(9))
			write(t, a, 0, at, full(byte(at+1)))
			write(t, a, 1, 3-at, full(8))
		}
		told(t, "Lose", a.Lose(1), api.OK)
		flies(t, a, 4)
		picks := make([]byte, 4)
		picks[keep] = 1
		a.Crash(picks)
		for at := range 4 {
			want := byte(0)
			if at == keep {
				want = byte(at + 1)
			}
			reads(t, a, 0, at, full(want))
		}
	}
}

// TestLoseReplaceWrite: a blank disk's writes are in flight behind the others.
func TestLoseReplaceWrite(t *testing.T) {
	a := fresh(t, 2, 2)
	write(t, a, 0, 0, full(1))
	write(t, a, 1, 0, full(2))
	told(t, "Lose", a.Lose(0), api.OK)
	told(t, "Replace", a.Replace(0), api.OK)
	write(t, a, 0, 1, full(3))
	flies(t, a, 2)
	a.Crash([]byte{0, 1})
	reads(t, a, 0, 0, full(0))
	reads(t, a, 0, 1, full(3))
	reads(t, a, 1, 0, full(0))
}

func TestReplaceRefuses(t *testing.T) {
	a := fresh(t, 2, 2)
	write(t, a, 0, 0, full(1))
	before := look(a)
	told(t, "Replace", a.Replace(0), api.ErrArg)
	told(t, "Replace", a.Replace(1), api.ErrArg)
	if look(a) != before {
		t.Error("a Replace that was refused changed something")
	}
}

// TestLoseAll: an array of which no disk is on answers still.
func TestLoseAll(t *testing.T) {
	a := fresh(t, 3, 1)
	for disk := range 3 {
		write(t, a, disk, 0, full(1))
	}
	for disk := range 3 {
		told(t, "Lose", a.Lose(disk), api.OK)
	}
	if a.Ons() != 0 || a.Disks() != 3 || a.Sectors() != 1 || a.Off() {
		t.Error(a.Ons(), a.Disks(), a.Sectors(), a.Off())
	}
	flies(t, a, 0)
	told(t, "Barrier", a.Barrier(), api.OK)
	a.Crash([]byte{1, 1})
	if a.Copy().Ons() != 0 {
		t.Error("a Copy has disks that are on")
	}
	told(t, "Replace", a.Replace(1), api.OK)
	reads(t, a, 1, 0, full(0))
}

// TestCrashPicks: each row of four picks, of odd and even numbers, of too few and
// too many of them.
func TestCrashPicks(t *testing.T) {
	odd, even := []byte{1, 3, 255, 127}, []byte{0, 2, 254, 128}
	for mask := range 16 {
		for length := range 7 {
			a := fresh(t, 2, 2)
			write(t, a, 0, 0, full(1))
			write(t, a, 1, 1, full(2))
			told(t, "Barrier", a.Barrier(), api.OK)
			lasts := map[[2]int]byte{{0, 0}: 1, {1, 1}: 2}
			picks := make([]byte, length)
			for k := range length {
				picks[k] = even[k%4]
				if k >= 4 || mask>>k&1 == 1 {
					picks[k] = odd[k%4]
				}
			}
			for k, place := range [][2]int{{0, 0}, {0, 1}, {1, 1}, {0, 0}} {
				write(t, a, place[0], place[1], full(byte(10+k)))
				if k < length && mask>>k&1 == 1 {
					lasts[place] = byte(10 + k)
				}
			}
			a.Crash(picks)
			flies(t, a, 0)
			for _, place := range [][2]int{{0, 0}, {0, 1}, {1, 0}, {1, 1}} {
				reads(t, a, place[0], place[1], full(lasts[place]))
			}
		}
	}
}

// TestCrashNothing: with nothing in flight a crash takes nothing, whatever is picked.
func TestCrashNothing(t *testing.T) {
	a := fresh(t, 1, 2)
	write(t, a, 0, 0, full(1))
	told(t, "Barrier", a.Barrier(), api.OK)
	for _, picks := range [][]byte{nil, {}, {0}, {1}, {1, 1, 1}} {
		a.Crash(picks)
		reads(t, a, 0, 0, full(1))
		reads(t, a, 0, 1, full(0))
	}
	write(t, a, 0, 1, full(2))
	a.Crash(nil)
	reads(t, a, 0, 1, full(0))
	write(t, a, 0, 1, full(2))
	a.Crash([]byte{1})
	a.Crash(nil)
	reads(t, a, 0, 1, full(2))
}

// TestCopySame: a Copy has what is in flight, the fuse, the power, lost disks.
func TestCopySame(t *testing.T) {
	a := fresh(t, 3, 2)
	write(t, a, 0, 0, full(1))
	told(t, "Barrier", a.Barrier(), api.OK)
	write(t, a, 0, 0, full(2))
	write(t, a, 1, 1, full(3))
	write(t, a, 0, 0, full(4))
	told(t, "Lose", a.Lose(2), api.OK)
	a.Fuse(2)
	b := a.Copy()
	if b == a || look(b) != look(a) || b.On(2) || !b.On(0) || b.Flight() != 3 {
		t.Fatal("a Copy is not the same")
	}
	told(t, "the Copy's Barrier", b.Copy().Barrier(), api.OK)
	if sectors(a) != sectors(b) || fuseOf(b) != 2 {
		t.Error("a Copy is not the same")
	}
	write(t, a, 0, 1, full(5))
	told(t, "Barrier", a.Barrier(), api.ErrOff)
	c := a.Copy()
	if !c.Off() || look(c) != look(a) || b.Off() {
		t.Error("a Copy has not the same power")
	}
	unread(t, c, 0, 0, api.ErrOff)
	c.Crash([]byte{1, 0, 0})
	reads(t, c, 0, 0, full(2))
	b.Crash([]byte{0, 1, 1})
	reads(t, b, 0, 0, full(4))
	reads(t, b, 1, 1, full(3))
	reads(t, b, 0, 1, full(0))
	a.Crash(nil)
	reads(t, a, 0, 0, full(1))
}

// TestCopyApart: what is done to one of both changes nothing of the other one.
func TestCopyApart(t *testing.T) {
	deeds := []func(a *array.Array){
		func(a *array.Array) { a.Write(0, 0, full(50)) },
		func(a *array.Array) { a.Write(1, 1, full(51)); a.Write(1, 1, full(52)) },
		func(a *array.Array) { a.Barrier() },
		func(a *array.Array) { a.Lose(0) },
		func(a *array.Array) { a.Lose(1); a.Replace(1) },
		func(a *array.Array) { a.Replace(2) },
		func(a *array.Array) { a.Lose(0); a.Replace(0); a.Write(0, 0, full(53)) },
		func(a *array.Array) { a.Fuse(1); a.Barrier() },
		func(a *array.Array) { a.Fuse(1) },
		func(a *array.Array) { a.Fuse(0) },
		func(a *array.Array) { a.Crash(nil) },
		func(a *array.Array) { a.Crash([]byte{1, 1, 1, 1}); a.Write(0, 0, full(54)) },
	}
	for i, deed := range deeds {
		for _, other := range []bool{false, true} {
			a := fresh(t, 3, 2)
			write(t, a, 0, 1, full(6))
			told(t, "Barrier", a.Barrier(), api.OK)
			write(t, a, 0, 0, full(1))
			write(t, a, 1, 0, full(2))
			write(t, a, 0, 0, full(3))
			told(t, "Lose", a.Lose(2), api.OK)
			a.Fuse(7)
			b := a.Copy()
			if other {
				a, b = b, a
			}
			before, fuse := look(b), fuseOf(b)
			deed(a)
			if look(b) != before || fuseOf(b) != fuse {
				t.Errorf("deed %d, to the Copy: %v: the other one was changed", i, other)
			}
			deed(b)
			if look(b) != look(a) || fuseOf(b) != fuseOf(a) {
				t.Errorf("deed %d, to the Copy: %v: done to both, they are not the same", i, other)
			}
		}
	}
}

// TestCopyAppends: writes behind a Copy do not stand in each other's places.
func TestCopyAppends(t *testing.T) {
	for count := range 20 {
		a := fresh(t, 2, 2)
		for range count {
			write(t, a, 0, 0, full(1))
		}
		b := a.Copy()
		write(t, a, 0, 1, full(2))
		write(t, b, 1, 1, full(3))
		all := make([]byte, count+1)
		all[count] = 1
		a.Crash(all)
		b.Crash(all)
		reads(t, a, 0, 1, full(2))
		reads(t, a, 1, 1, full(0))
		reads(t, b, 0, 1, full(0))
		reads(t, b, 1, 1, full(3))
	}
}

// TestNil: an array that is none, and one that New did not make.
func TestNil(t *testing.T) {
	for _, a := range []*array.Array{nil, {}, new(array.Array)} {
		for range 2 {
			if a.Disks() != 0 || a.Sectors() != 0 || a.Ons() != 0 || a.Flight() != 0 || !a.Off() || a.Copy() != nil {
				t.Error(a.Disks(), a.Sectors(), a.Ons(), a.Flight(), a.Off(), a.Copy())
			}
			for _, disk := range []int{-1, 0, 1, math.MinInt, math.MaxInt} {
				if a.On(disk) {
					t.Errorf("the disk %d is on", disk)
				}
				for _, b := range [][]byte{nil, full(1)} {
					told(t, "Write", a.Write(disk, 0, b), api.ErrNil)
				}
				unread(t, a, disk, 0, api.ErrNil)
				told(t, "Lose", a.Lose(disk), api.ErrNil)
				told(t, "Replace", a.Replace(disk), api.ErrNil)
			}
			told(t, "Barrier", a.Barrier(), api.ErrNil)
			a.Fuse(1)
			a.Crash(nil)
			a.Crash([]byte{1})
			a.Fuse(-1)
		}
	}
}
