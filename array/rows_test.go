package array_test

import (
	"bytes"
	"testing"

	"hayrick/api"
	"hayrick/array"
)

// place is a sector's disk and number.
type place struct{ disk, at int }

// sent is a write in flight.
type sent struct {
	where place
	b     []byte
}

// plain is an array by the document's words: what lasts, and what is in flight, all
// of which each read looks through.
type plain struct {
	sectors int
	on      []bool
	lasts   map[place][]byte
	flight  []sent
	fuse    int
	off     bool
}

func newPlain(disks, sectors int) *plain {
	p := &plain{sectors: sectors, on: make([]bool, disks), lasts: map[place][]byte{}}
	for disk := range p.on {
		p.on[disk] = true
	}
	return p
}

func (p *plain) wrong(disk, at int) api.Errno {
	switch {
	case p.off:
		return api.ErrOff
	case disk < 0 || disk >= len(p.on) || at < 0 || at >= p.sectors:
		return api.ErrNone
	case !p.on[disk]:
		return api.ErrLost
	}
	return api.OK
}

// goes: whether the power goes with this call.
func (p *plain) goes() bool {
	if p.fuse == 1 {
		p.fuse, p.off = 0, true
		return true
	}
	if p.fuse > 1 {
		p.fuse--
	}
	return false
}

func (p *plain) write(disk, at int, b []byte) api.Errno {
	if err := p.wrong(disk, at); err != api.OK {
		return err
	}
	if len(b) != 64 {
		return api.ErrArg
	}
	if p.goes() {
		return api.ErrOff
	}
	p.flight = append(p.flight, sent{place{disk, at}, bytes.Clone(b)})
	return api.OK
}

func (p *plain) read(disk, at int) ([]byte, api.Errno) {
	if err := p.wrong(disk, at); err != api.OK {
		return nil, err
	}
	b := p.lasting(place{disk, at})
	for _, s := range p.flight {
		if s.where == (place{disk, at}) {
			b = s.b
		}
	}
	return b, api.OK
}

func (p *plain) lasting(where place) []byte {
	if b := p.lasts[where]; b != nil {
		return b
	}
	return make([]byte, 64)
}

func (p *plain) barrier() api.Errno {
	if p.off || p.goes() {
		return api.ErrOff
	}
	p.land(func(int) bool { return true })
	return api.OK
}

// land makes those last of which lasts says it; nothing is in flight any more.
func (p *plain) land(lasts func(k int) bool) {
	for k, s := range p.flight {
		if lasts(k) {
			p.lasts[s.where] = s.b
		}
	}
	p.flight = nil
}

func (p *plain) lose(disk int) api.Errno {
	if disk < 0 || disk >= len(p.on) {
		return api.ErrNone
	}
	if !p.on[disk] {
		return api.ErrLost
	}
	p.on[disk] = false
	for at := range p.sectors {
		delete(p.lasts, place{disk, at})
	}
	var others []sent
	for _, s := range p.flight {
		if s.where.disk != disk {
			others = append(others, s)
		}
	}
	p.flight = others
	return api.OK
}

func (p *plain) replace(disk int) api.Errno {
	if disk < 0 || disk >= len(p.on) {
		return api.ErrNone
	}
	if p.on[disk] {
		return api.ErrArg
	}
	p.on[disk] = true
	return api.OK
}

func (p *plain) crash(picks []byte) {
	p.land(func(k int) bool { return k < len(picks) && picks[k]&1 == 1 })
	p.fuse, p.off = 0, false
}

// same fails, if an array does not tell what the plain one does.
func same(t *testing.T, a *array.Array, p *plain) {
	t.Helper()
	ons := 0
	for disk := -1; disk <= len(p.on); disk++ {
		on := disk >= 0 && disk < len(p.on) && p.on[disk]
		if on {
			ons++
		}
		if a.On(disk) != on {
			t.Fatalf("On(%d): %v", disk, a.On(disk))
		}
		for at := -1; at <= p.sectors; at++ {
			want, wrong := p.read(disk, at)
			if wrong != api.OK {
				unread(t, a, disk, at, wrong)
			} else {
				reads(t, a, disk, at, want)
			}
		}
	}
	if a.Ons() != ons || a.Disks() != len(p.on) || a.Sectors() != p.sectors || a.Off() != p.off {
		t.Fatalf("%d of %d disks, %d sectors, off: %v", a.Ons(), a.Disks(), a.Sectors(), a.Off())
	}
	flies(t, a, len(p.flight))
}

// step does one thing to both, as the dice say.
func step(t *testing.T, a *array.Array, p *plain, dice func(below int) int) {
	t.Helper()
	disk, at := dice(len(p.on)+2)-1, dice(p.sectors+2)-1
	if dice(4) > 0 {
		disk, at = dice(len(p.on)), dice(p.sectors)
	}
	switch deed := dice(40); {
	case deed < 24:
		b := sample(64, dice(1000))
		if dice(10) == 0 {
			b = sample(62+dice(4), 1)
		}
		told(t, "Write", a.Write(disk, at, b), p.write(disk, at, b))
	case deed < 29:
		told(t, "Barrier", a.Barrier(), p.barrier())
	case deed < 32:
		told(t, "Lose", a.Lose(disk), p.lose(disk))
	case deed < 35:
		told(t, "Replace", a.Replace(disk), p.replace(disk))
	case deed < 37:
		p.fuse = dice(8)
		a.Fuse(p.fuse)
	default:
		picks := sample(dice(len(p.flight)+3), dice(1000))
		a.Crash(picks)
		p.crash(picks)
	}
}

// dice answers numbers that have no order to be seen; another seed, another row.
func dice(seed int) func(below int) int {
	state := uint32(seed)*2654435761 + 12345
	return func(below int) int {
		state = state*1664525 + 1013904223
		return int(state>>16) % below
	}
}

// TestRows: rows of calls tell what the plain array tells, a Copy going on in the
// place of the array now and then.
func TestRows(t *testing.T) {
	shapes := [][2]int{{1, 1}, {1, 3}, {2, 2}, {3, 4}, {5, 2}}
	for seed := range 400 {
		shape := shapes[seed%len(shapes)]
		next := dice(seed)
		a, p := fresh(t, shape[0], shape[1]), newPlain(shape[0], shape[1])
		for range 120 {
			step(t, a, p, next)
			if next(15) == 0 {
				left := a
				a = a.Copy()
				left.Write(0, 0, full(77))
				left.Crash(nil)
			}
			same(t, a, p)
		}
	}
}

// TestWhole: P6.6. Behind a crash each sector is what it was behind the last
// Barrier, or one of its writes since, as a whole.
func TestWhole(t *testing.T) {
	for seed := range 200 {
		next := dice(seed)
		a := fresh(t, 2, 3)
		may := map[place][]string{}
		for round := range 30 {
			for disk := range 2 {
				for at := range 3 {
					b, _ := a.Read(disk, at)
					may[place{disk, at}] = []string{string(b)}
				}
			}
			for count := range next(12) {
				where := place{next(2), next(3)}
				b := sample(64, seed*10000+round*20+count)
				write(t, a, where.disk, where.at, b)
				may[where] = append(may[where], string(b))
			}
			if next(3) == 0 {
				told(t, "Barrier", a.Barrier(), api.OK)
				for where, all := range may {
					may[where] = all[len(all)-1:]
				}
			}
			a.Crash(sample(next(14), round))
			for where, all := range may {
				b, _ := a.Read(where.disk, where.at)
				if !has(all, string(b)) {
					t.Fatalf("the sector %v has what was not written there", where)
				}
			}
		}
	}
}

func has(all []string, one string) bool {
	for _, s := range all {
		if s == one {
			return true
		}
	}
	return false
}

// TestLasts: P6.6. What was ahead of a Barrier stays behind any number of crashes,
// where it was not written since, with other disks lost and replaced.
func TestLasts(t *testing.T) {
	a := fresh(t, 4, 3)
	for disk := range 4 {
		for at := range 3 {
			write(t, a, disk, at, full(byte(1+disk*3+at)))
		}
	}
	told(t, "Barrier", a.Barrier(), api.OK)
	for round := range 50 {
		write(t, a, 0, 0, full(byte(100+round)))
		write(t, a, 3, 1, full(byte(100+round)))
		switch round % 4 {
		case 0:
			told(t, "Lose", a.Lose(3), api.OK)
		case 1:
			a.Fuse(1)
			told(t, "Barrier", a.Barrier(), api.ErrOff)
		}
		a.Crash([]byte{byte(round), byte(round >> 1)})
		if !a.On(3) {
			told(t, "Replace", a.Replace(3), api.OK)
		}
		for disk := range 3 {
			for at := range 3 {
				if disk+at > 0 {
					reads(t, a, disk, at, full(byte(1+disk*3+at)))
				}
			}
		}
	}
}

// TestApart: P6.7. What is done to one disk changes nothing on another one: the
// others tell what they tell without it.
func TestApart(t *testing.T) {
	for seed := range 60 {
		next := dice(seed)
		a, alone := fresh(t, 3, 2), fresh(t, 3, 2)
		for range 80 {
			disk, at := next(3), next(2)
			switch deed := next(10); {
			case deed < 7:
				b := sample(64, next(1000))
				err := a.Write(disk, at, b)
				if disk != 1 {
					told(t, "Write", alone.Write(disk, at, b), err)
				}
			case deed < 8:
				told(t, "Barrier", a.Barrier(), alone.Barrier())
			case deed < 9:
				told(t, "Lose", a.Lose(1), api.OK)
				if next(2) == 0 {
					told(t, "Barrier", a.Barrier(), alone.Barrier())
				}
				told(t, "Replace", a.Replace(1), api.OK)
			default:
				lasts := byte(next(2))
				a.Crash(bytes.Repeat([]byte{lasts}, a.Flight()))
				alone.Crash(bytes.Repeat([]byte{lasts}, alone.Flight()))
			}
			for _, disk := range []int{0, 2} {
				for at := range 2 {
					want, _ := alone.Read(disk, at)
					reads(t, a, disk, at, want)
				}
			}
		}
	}
}

// TestMany: a row of many writes in flight is read, lost and crashed in good time.
func TestMany(t *testing.T) {
	a := fresh(t, 4, 4096)
	for round := range 3 {
		for disk := range 4 {
			for at := range 4096 {
				write(t, a, disk, at, full(byte(round*4+disk+1)))
			}
		}
	}
	flies(t, a, 3*4*4096)
	for disk := range 4 {
		for at := range 4096 {
			reads(t, a, disk, at, full(byte(2*4+disk+1)))
		}
	}
	told(t, "Lose", a.Lose(2), api.OK)
	flies(t, a, 3*3*4096)
	a.Crash(bytes.Repeat([]byte{1}, 3*4096))
	for _, disk := range []int{0, 1, 3} {
		for at := range 4096 {
			reads(t, a, disk, at, full(byte(disk+1)))
		}
	}
}
