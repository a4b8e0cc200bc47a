package mend_test

import (
	"bytes"
	"encoding/binary"
	"math"
	"slices"
	"strconv"
	"testing"

	"hayrick/api"
	"hayrick/array"
	"hayrick/code"
	"hayrick/mend"
	"hayrick/stripe"
)

// dice answers numbers that have no order to be seen; another seed, another row.
func dice(seed int) func(below int) int {
	state := uint32(seed)*2654435761 + 12345
	return func(below int) int {
		state = state*1664525 + 1013904223
		return int(state>>16) % below
	}
}

// sample is a list of bytes of that seed, none of them 0.
func sample(length, seed int) []byte {
	next := dice(seed)
	made := make([]byte, length)
	for i := range made {
		made[i] = byte(next(255)) + 1
	}
	return made
}

// shapes are K and N: K of 1 to 4, with N one above it and more.
func shapes() [][2]int {
	return [][2]int{{1, 2}, {1, 3}, {1, 4}, {2, 3}, {2, 4}, {2, 5}, {3, 4}, {3, 5}, {4, 5}, {4, 6}}
}

// numberOf is the stamp of a slot's segment in the tests: edges, mostly.
func numberOf(slot int) uint64 {
	return [4]uint64{1, 1 << 63, math.MaxUint64, 5}[slot%4]
}

// numbersOf are those of so many slots, rising.
func numbersOf(segs int) []uint64 {
	var made []uint64
	for slot := range segs {
		made = append(made, numberOf(slot))
	}
	return made
}

// bench is Stripes over an array of their own.
type bench struct {
	a                *array.Array
	s                *stripe.Stripes
	k, n, segs, from int
}

// blank is a bench with nothing written, and a sector behind the last slot.
func blank(t *testing.T, k, n, segs, from int) *bench {
	t.Helper()
	a, err := array.New(n, from+8*segs+1)
	told(t, "array.New", err, api.OK)
	return over(t, a, k, n, segs, from)
}

// over is a bench over an array that is there.
func over(t *testing.T, a *array.Array, k, n, segs, from int) *bench {
	t.Helper()
	s, err := stripe.New(a, api.Geometry{K: k, N: n, Segs: segs}, from)
	told(t, "stripe.New", err, api.OK)
	return &bench{a: a, s: s, k: k, n: n, segs: segs, from: from}
}

// filled is a bench with a segment in each slot, which lasts on all disks.
func filled(t *testing.T, k, n, segs, from int) *bench {
	t.Helper()
	b := blank(t, k, n, segs, from)
	for slot := range segs {
		told(t, "Write", b.s.Write(slot, numberOf(slot), b.data(slot)), api.OK)
	}
	told(t, "Barrier", b.a.Barrier(), api.OK)
	return b
}

// data are those of a slot's segment in a bench that is filled.
func (b *bench) data(slot int) []byte { return sample(448*b.k, 31*slot+b.n) }

// copied is a bench that has all the same, and lives apart.
func (b *bench) copied(t *testing.T) *bench {
	t.Helper()
	return over(t, b.a.Copy(), b.k, b.n, b.segs, b.from)
}

// lose takes disks.
func (b *bench) lose(t *testing.T, disks ...int) {
	t.Helper()
	for _, disk := range disks {
		told(t, "Lose", b.a.Lose(disk), api.OK)
	}
}

// blanks takes disks, and puts blank ones in their places.
func (b *bench) blanks(t *testing.T, disks ...int) {
	t.Helper()
	for _, disk := range disks {
		b.lose(t, disk)
		told(t, "Replace", b.a.Replace(disk), api.OK)
	}
}

// first is a slot's first sector.
func (b *bench) first(slot int) int { return b.from + 8*slot }

// relay writes what a whole bench has in a slot to disks, in their order: what is to
// be in flight behind a Slot.
func (b *bench) relay(t *testing.T, whole *bench, slot int, disks ...int) {
	t.Helper()
	for _, disk := range disks {
		for at := b.first(slot); at < b.first(slot)+8; at++ {
			sector, err := whole.a.Read(disk, at)
			told(t, "array.Read", err, api.OK)
			told(t, "array.Write", b.a.Write(disk, at, sector), api.OK)
		}
	}
}

// sectors has all of an array's, and "lost" in the place of a disk's that is.
func sectors(a *array.Array) string {
	var all []byte
	for disk := range a.Disks() {
		if !a.On(disk) {
			all = append(all, "lost"...)
			continue
		}
		for at := range a.Sectors() {
			sector, _ := a.Read(disk, at)
			all = append(all, sector...)
		}
	}
	return string(all)
}

// look tells all of an array, the fuse apart: each sector of Copies that crashed with
// all, nothing, the first half and every other one of what is in flight.
func look(a *array.Array) string {
	flight := a.Flight()
	told := strconv.Itoa(flight) + strconv.FormatBool(a.Off())
	for _, picks := range [][]byte{ones(flight), nil, ones(flight / 2), bytes.Repeat([]byte{0, 1}, flight)} {
		crashed := a.Copy()
		crashed.Crash(picks)
		told += sectors(crashed)
		if flight == 0 {
			break // all four are alike
		}
	}
	return told
}

// ones are picks by which so many last.
func ones(count int) []byte { return bytes.Repeat([]byte{1}, count) }

// fuseOf is how many calls a fuse has left, by what Copies do; 0: none, or many.
func fuseOf(a *array.Array) int {
	a = a.Copy()
	for calls := 1; calls < 100; calls++ {
		if a.Barrier() == api.ErrOff {
			return calls
		}
	}
	return 0
}

// same fails, if two benches' disks are not alike, sector by sector, or not as much is
// in flight.
func (b *bench) same(t *testing.T, want *bench) {
	t.Helper()
	if look(b.a) != look(want.a) {
		t.Fatalf("K %d of %d: the disks are not as they must be; %d are in flight, and %d must be", b.k, b.n, b.a.Flight(), want.a.Flight())
	}
}

// told fails, if a call did not tell that error.
func told(t *testing.T, what string, got, want api.Errno) {
	t.Helper()
	if got != want {
		t.Fatalf("%s: %v, not %v", what, got, want)
	}
}

// missing fails, if Missing does not tell these.
func (b *bench) missing(t *testing.T, slot int, number uint64, want ...int) {
	t.Helper()
	got, err := mend.Missing(b.s, slot, number)
	if err != api.OK || !slices.Equal(got, want) {
		t.Fatalf("K %d of %d, Missing(%d, %d): %v %v, not %v", b.k, b.n, slot, number, got, err, want)
	}
}

// margin fails, if Margin does not tell that.
func (b *bench) margin(t *testing.T, slot int, number uint64, want int) {
	t.Helper()
	got, err := mend.Margin(b.s, slot, number)
	if err != api.OK || got != want {
		t.Fatalf("K %d of %d, Margin(%d, %d): %d %v, not %d", b.k, b.n, slot, number, got, err, want)
	}
}

// slot fails, if Slot does not tell that many, and that error.
func (b *bench) slot(t *testing.T, slot int, number uint64, want int, wrong api.Errno) {
	t.Helper()
	got, err := mend.Slot(b.s, slot, number)
	if err != wrong || got != want {
		t.Fatalf("K %d of %d, Slot(%d, %d): %d %v, not %d %v", b.k, b.n, slot, number, got, err, want, wrong)
	}
}

// all fails, if All does not tell that many, and that error.
func (b *bench) all(t *testing.T, numbers []uint64, want int, wrong api.Errno) {
	t.Helper()
	got, err := mend.All(b.s, numbers)
	if err != wrong || got != want {
		t.Fatalf("K %d of %d, All(%v): %d %v, not %d %v", b.k, b.n, numbers, got, err, want, wrong)
	}
}

// reads fails, if a slot's segment is not what it was.
func (b *bench) reads(t *testing.T, slot int) {
	t.Helper()
	got, err := b.s.Read(slot, numberOf(slot))
	if err != api.OK || !bytes.Equal(got, b.data(slot)) {
		t.Fatalf("K %d of %d, Read of slot %d: %d bytes, %v", b.k, b.n, slot, len(got), err)
	}
}

// plain mends by the document's words, sector by sector.
type plain struct{ *bench }

// wrong is what is wrong with a slot and a stamp.
func (p plain) wrong(slot int, number uint64) api.Errno {
	switch {
	case p.a.Off():
		return api.ErrOff
	case slot < 0 || slot >= p.segs:
		return api.ErrNone
	case number == 0:
		return api.ErrArg
	}
	return api.OK
}

// part is a disk's eight sectors without their stamps, and whether all of these are
// that number.
func (p plain) part(disk, slot int, number uint64) ([]byte, bool) {
	var part []byte
	counts := true
	for at := p.first(slot); at < p.first(slot)+8; at++ {
		sector, _ := p.a.Read(disk, at)
		counts = counts && binary.BigEndian.Uint64(sector) == number
		part = append(part, sector[8:]...)
	}
	return part, counts
}

// sort tells which disks that are on have a chunk that counts, those chunks, and which
// of the disks want one.
func (p plain) sort(slot int, number uint64) (having []int, parts [][]byte, wanting []int) {
	for disk := range p.n {
		if !p.a.On(disk) {
			continue
		}
		if part, counts := p.part(disk, slot, number); counts {
			having, parts = append(having, disk), append(parts, part)
		} else {
			wanting = append(wanting, disk)
		}
	}
	return having, parts, wanting
}

// mends is Slot.
func (p plain) mends(slot int, number uint64) (int, api.Errno) {
	if wrong := p.wrong(slot, number); wrong != api.OK {
		return 0, wrong
	}
	having, parts, wanting := p.sort(slot, number)
	if len(having) < p.k {
		return 0, api.ErrIO
	}
	data, _ := code.Decode(p.k, p.n, having[:p.k], parts[:p.k])
	all, _ := code.Encode(p.k, p.n, data)
	for _, disk := range wanting {
		for i := range 8 {
			sector := binary.BigEndian.AppendUint64(nil, number)
			sector = append(sector, all[disk][56*i:56*i+56]...)
			if err := p.a.Write(disk, p.first(slot)+i, sector); err != api.OK {
				return 0, err
			}
		}
	}
	return len(wanting), api.OK
}

// mendsAll is All.
func (p plain) mendsAll(numbers []uint64) (int, api.Errno) {
	if p.a.Off() {
		return 0, api.ErrOff
	}
	if len(numbers) != p.segs {
		return 0, api.ErrArg
	}
	sum := 0
	for slot, number := range numbers {
		if number == 0 {
			continue
		}
		count, err := p.mends(slot, number)
		if err != api.OK {
			return 0, err
		}
		sum += count
	}
	return sum, api.OK
}
