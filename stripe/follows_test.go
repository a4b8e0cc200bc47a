package stripe_test

import (
	"bytes"
	"testing"

	"hayrick/api"
	"hayrick/array"
	"hayrick/stripe"
)

// TestAnyK: P8.5. What was written and lasts on any K disks is read, whichever others
// are lost, or lost and replaced by blank ones, behind a crash of which nothing in
// flight lasts.
func TestAnyK(t *testing.T) {
	for at, shape := range shapes() {
		k, n := shape[0], shape[1]
		data := sample(448*k, at)
		for left := range 1 << n {
			a := disks(t, n, 2+8)
			s := over(t, a, k, 1, 2)
			told(t, "Write", s.Write(0, 5, data), api.OK)
			var picks []byte
			ons := 0
			for disk := range n {
				lasts := byte(left >> disk & 1)
				picks = append(picks, bytes.Repeat([]byte{lasts}, 8)...)
				ons += int(lasts)
			}
			if ons < k {
				continue
			}
			a.Crash(picks)
			segment(t, s, 0, 5, data)
			is(t, s, 0, 5, 5)
			for disk := range n {
				if left>>disk&1 == 0 {
					told(t, "Lose", a.Lose(disk), api.OK)
					if (left+disk)%3 == 0 {
						told(t, "Replace", a.Replace(disk), api.OK)
					}
				}
			}
			segment(t, s, 0, 5, data)
			is(t, s, 0, 5, 5)
		}
	}
}

// TestAnyKWritten: P8.5. What is written while disks are out is read when they are
// back, and K others are on.
func TestAnyKWritten(t *testing.T) {
	for at, shape := range shapes() {
		k, n := shape[0], shape[1]
		for turn := range n {
			a := disks(t, n, 8)
			s := over(t, a, k, 1, 0)
			for j := range n - k {
				told(t, "Lose", a.Lose((turn+j)%n), api.OK)
			}
			data := sample(448*k, at+turn)
			told(t, "Write", s.Write(0, 5, data), api.OK)
			told(t, "Barrier", a.Barrier(), api.OK)
			for j := range n - k {
				told(t, "Replace", a.Replace((turn+j)%n), api.OK)
			}
			a.Crash(nil)
			segment(t, s, 0, 5, data)
			for disk := range n {
				has(t, s, disk, 0, 5, (disk-turn+n)%n >= n-k)
			}
			told(t, "Lose", a.Lose((turn+n-1)%n), api.OK)
			noSegment(t, s, 0, 5, api.ErrIO)
		}
	}
}

// torn is a Write in whose midst the power went: old lasts, and young was on its way.
type torn struct {
	k, n                   int
	oldNumber, number      uint64
	old, young             []byte
	oldChunks, youngChunks [][]byte
}

func newTorn(k, n int, oldNumber, number uint64, seed int) torn {
	w := torn{k: k, n: n, oldNumber: oldNumber, number: number}
	w.old, w.young = sample(448*k, seed), sample(448*k, seed+1000)
	w.oldChunks, w.youngChunks = coded(k, n, w.old), coded(k, n, w.young)
	return w
}

// crash writes old, and behind a barrier young, till the fuse burns, and picks what
// lasts of it; some disks may be lost ahead.
func (w torn) crash(t *testing.T, fuse int, picks []byte, lost []int) *stripe.Stripes {
	t.Helper()
	a := disks(t, w.n, 1+16)
	s := over(t, a, w.k, 2, 1)
	told(t, "Write", s.Write(1, w.oldNumber, w.old), api.OK)
	told(t, "Barrier", a.Barrier(), api.OK)
	for _, disk := range lost {
		told(t, "Lose", a.Lose(disk), api.OK)
	}
	a.Fuse(fuse)
	want := api.ErrOff
	if fuse == 0 || fuse > 8*a.Ons() {
		want = api.OK
	}
	told(t, "Write", s.Write(1, w.number, w.young), want)
	a.Crash(picks)
	return s
}

// part is a disk's eight sectors without their stamps.
func part(a *array.Array, disk int) []byte {
	var made []byte
	for i := range 8 {
		b, _ := a.Read(disk, 9+i)
		made = append(made, b[8:]...)
	}
	return made
}

// check fails, if a disk's chunk is of both, or Read tells anything but one of both,
// whole; a stamp of which K chunks are there must be read.
func (w torn) check(t *testing.T, s *stripe.Stripes) {
	t.Helper()
	a := s.Array()
	olds, youngs := 0, 0
	for disk := range w.n {
		if !a.On(disk) {
			continue
		}
		isOld, _ := s.Has(disk, 1, w.oldNumber)
		isYoung, _ := s.Has(disk, 1, w.number)
		switch got := part(a, disk); {
		case isOld && isYoung:
			t.Fatalf("the chunk of the disk %d is of both", disk)
		case isOld && !bytes.Equal(got, w.oldChunks[disk]), isYoung && !bytes.Equal(got, w.youngChunks[disk]):
			t.Fatalf("the chunk of the disk %d is none of both", disk)
		case isOld:
			olds++
		case isYoung:
			youngs++
		}
	}
	var whole uint64
	for _, one := range []struct {
		number uint64
		count  int
		data   []byte
	}{{w.oldNumber, olds, w.old}, {w.number, youngs, w.young}} {
		if one.count < w.k {
			noSegment(t, s, 1, one.number, api.ErrIO)
			continue
		}
		segment(t, s, 1, one.number, one.data)
		whole = max(whole, one.number)
	}
	if got, err := s.Whole(1); err != api.OK || got != whole {
		t.Fatalf("Whole: %d %v, not %d", got, err, whole)
	}
	noSegment(t, s, 1, w.number+w.oldNumber, api.ErrIO)
	is(t, s, 0, 0, 0)
}

// torns are of stamps that rise and of others: P8.6 asks but for one that is new.
func torns(k, n int) []torn {
	return []torn{newTorn(k, n, 5, 6, k), newTorn(k, n, 6, 5, n), newTorn(k, n, 1<<63, 1, k+n), newTorn(k, n, 1, 1<<64-2, 3)}
}

// TestTornSmall: P8.6, what may last of a Write over two disks: each mix of one disk with
// all or nothing of the other, and a seventh of all others.
func TestTornSmall(t *testing.T) {
	w := newTorn(1, 2, 5, 6, 1)
	for lasts := range 1 << 16 {
		if lasts%7 != 0 && lasts&0xff != 0xff && lasts>>8 != 0xff && lasts&0xff != 0 && lasts>>8 != 0 {
			continue
		}
		picks := make([]byte, 16)
		for i := range picks {
			picks[i] = byte(lasts >> i & 1)
		}
		s := w.crash(t, 0, picks, nil)
		w.check(t, s)
		has(t, s, 0, 1, 6, lasts&0xff == 0xff)
		has(t, s, 1, 1, 6, lasts>>8 == 0xff)
		has(t, s, 0, 1, 5, lasts&0xff == 0)
		has(t, s, 1, 1, 5, lasts>>8 == 0)
	}
}

// TestTorn: P8.6, the power going with each sector, and what lasts being all, nothing,
// a beginning, an end, or any.
func TestTorn(t *testing.T) {
	for _, shape := range [][2]int{{1, 2}, {1, 3}, {2, 3}, {2, 4}, {3, 4}, {3, 6}, {4, 5}} {
		k, n := shape[0], shape[1]
		for at, w := range torns(k, n) {
			for fuse := 1; fuse <= 8*n+1; fuse++ {
				all := bytes.Repeat([]byte{1}, fuse)
				end := endOf(fuse, fuse/2)
				for seed, picks := range [][]byte{all, nil, all[:fuse/2], end, sample(fuse, fuse), nearly(fuse, at+fuse)} {
					var lost []int
					if (fuse+seed)%3 == 0 {
						lost = []int{(fuse + seed) % n}
					}
					w.check(t, w.crash(t, fuse, picks, lost))
				}
			}
		}
	}
}

// endOf are picks of which those from that one on last.
func endOf(length, from int) []byte {
	made := make([]byte, length)
	for i := from; i < length; i++ {
		made[i] = 1
	}
	return made
}

// nearly are picks of all but one.
func nearly(length, seed int) []byte {
	made := bytes.Repeat([]byte{1}, length)
	made[seed%length] = 0
	return made
}

// TestTornChunks: P8.6, chunk by chunk: each disk's is old, new, or none, in all mixes
// of four disks; a disk is lost behind it.
func TestTornChunks(t *testing.T) {
	for _, k := range []int{1, 2, 3} {
		for at, w := range torns(k, 4) {
			for mix := range 3 * 3 * 3 * 3 {
				var picks []byte
				for disk, rest := 0, mix; disk < 4; disk, rest = disk+1, rest/3 {
					picks = append(picks, [3][]byte{make([]byte, 8), bytes.Repeat([]byte{1}, 8), nearly(8, mix+disk)}[rest%3]...)
				}
				s := w.crash(t, 0, picks, nil)
				w.check(t, s)
				for disk, rest := 0, mix; disk < 4; disk, rest = disk+1, rest/3 {
					has(t, s, disk, 1, w.oldNumber, rest%3 == 0)
					has(t, s, disk, 1, w.number, rest%3 == 1)
				}
				told(t, "Lose", s.Array().Lose((mix+at)%4), api.OK)
				w.check(t, s)
				told(t, "Write", s.Write(1, 77, w.young), api.OK)
				segment(t, s, 1, 77, w.young)
			}
		}
	}
}

// TestTornTwice: P8.6, two Writes on their way in one crash: the later one may tear
// the one ahead of it, too, and no Read tells of both.
func TestTornTwice(t *testing.T) {
	for seed := range 600 {
		next := dice(seed)
		k := 1 + next(3)
		n := k + 1 + next(3)
		a := disks(t, n, 8)
		s := over(t, a, k, 1, 0)
		datas := map[uint64][]byte{}
		for number := uint64(1); number <= 12; number++ {
			datas[number] = sample(448*k, seed*20+int(number))
			if next(3) == 0 {
				a.Fuse(1 + next(8*n))
			}
			s.Write(0, number, datas[number])
			if next(3) == 0 {
				a.Barrier()
			}
			if a.Off() || next(3) == 0 {
				a.Crash(picksOf(next, a.Flight()))
			}
			for asked := uint64(1); asked <= 13; asked++ {
				got, err := s.Read(0, asked)
				if err == api.OK && bytes.Equal(got, datas[asked]) && asked <= number {
					continue
				}
				toldBytes(t, "Read", got, err, api.ErrIO)
			}
		}
	}
}

// picksOf are picks by which each eight in a row mostly last, or do not, together.
func picksOf(next func(below int) int, length int) []byte {
	made := make([]byte, length)
	lasts := byte(0)
	for i := range made {
		if i%8 == 0 || next(20) == 0 {
			lasts = byte(next(2))
		}
		made[i] = lasts
	}
	return made
}
