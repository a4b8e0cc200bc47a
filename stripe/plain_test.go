package stripe_test

import (
	"bytes"
	"encoding/binary"
	"slices"
	"testing"

	"hayrick/api"
	"hayrick/array"
	"hayrick/stripe"
)

// sample is a list of bytes that have no order to be seen, none of them 0.
func sample(length, seed int) []byte {
	next := dice(seed)
	made := make([]byte, length)
	for i := range made {
		made[i] = byte(next(255)) + 1
	}
	return made
}

// dice answers numbers that have no order to be seen; another seed, another row.
func dice(seed int) func(below int) int {
	state := uint32(seed)*2654435761 + 12345
	return func(below int) int {
		state = state*1664525 + 1013904223
		return int(state>>16) % below
	}
}

// product is the field's, as on paper.
func product(a, b int) int {
	sum := 0
	for ; b > 0; b >>= 1 {
		if b&1 == 1 {
			sum ^= a
		}
		if a <<= 1; a > 255 {
			a ^= 0x11d
		}
	}
	return sum
}

// inverse is found by trying.
func inverse(a int) int {
	for b := range 256 {
		if product(a, b) == 1 {
			return b
		}
	}
	return 0
}

// coded is a segment's code by the document's words: chunk i is disk i's.
func coded(k, n int, data []byte) [][]byte {
	made := make([][]byte, n)
	for i := range made {
		if i < k {
			made[i] = bytes.Clone(data[448*i : 448*i+448])
			continue
		}
		made[i] = make([]byte, 448)
		for j := range k {
			number := inverse(i ^ j)
			var products [256]byte
			for b := range products {
				products[b] = byte(product(number, b))
			}
			for at, b := range data[448*j : 448*j+448] {
				made[i][at] ^= products[b]
			}
		}
	}
	return made
}

// sectorsOf are a chunk's sectors by the document's words.
func sectorsOf(number uint64, part []byte) [][]byte {
	var made [][]byte
	for at := 0; at < 448; at += 56 {
		sector := binary.BigEndian.AppendUint64(nil, number)
		made = append(made, append(sector, part[at:at+56]...))
	}
	return made
}

// plain is Stripes by the document's words, written out sector by sector.
type plain struct {
	a          *array.Array
	k, n       int
	segs, from int
}

func (p *plain) wrongSlot(slot int) api.Errno {
	if p.a.Off() {
		return api.ErrOff
	}
	if slot < 0 || slot >= p.segs {
		return api.ErrNone
	}
	return api.OK
}

func (p *plain) wrongDisk(disk, slot int) api.Errno {
	if err := p.wrongSlot(slot); err != api.OK {
		return err
	}
	if disk < 0 || disk >= p.n {
		return api.ErrNone
	}
	return api.OK
}

// lay writes a chunk's sectors till one is refused.
func (p *plain) lay(disk, slot int, number uint64, part []byte) api.Errno {
	for i, sector := range sectorsOf(number, part) {
		if err := p.a.Write(disk, p.from+8*slot+i, sector); err != api.OK {
			return err
		}
	}
	return api.OK
}

func (p *plain) write(slot int, number uint64, data []byte) api.Errno {
	if err := p.wrongSlot(slot); err != api.OK {
		return err
	}
	if number == 0 || len(data) != 448*p.k {
		return api.ErrArg
	}
	if p.a.Ons() < p.k {
		return api.ErrIO
	}
	for disk, part := range coded(p.k, p.n, data) {
		if p.a.On(disk) {
			if err := p.lay(disk, slot, number, part); err != api.OK {
				return err
			}
		}
	}
	return api.OK
}

func (p *plain) put(disk, slot int, number uint64, part []byte) api.Errno {
	if err := p.wrongDisk(disk, slot); err != api.OK {
		return err
	}
	if number == 0 || len(part) != 448 {
		return api.ErrArg
	}
	if !p.a.On(disk) {
		return api.ErrLost
	}
	return p.lay(disk, slot, number, part)
}

// ahead are the stamps of a disk's eight sectors; none of a lost disk. The power
// must be on.
func (p *plain) ahead(disk, slot int) []uint64 {
	if !p.a.On(disk) {
		return nil
	}
	var all []uint64
	for i := range 8 {
		b, _ := p.a.Read(disk, p.from+8*slot+i)
		all = append(all, binary.BigEndian.Uint64(b))
	}
	return all
}

// counts: whether a disk's chunk counts.
func (p *plain) counts(disk, slot int, number uint64) bool {
	all := p.ahead(disk, slot)
	return number != 0 && all != nil && slices.Min(all) == number && slices.Max(all) == number
}

// part is what a disk's eight sectors have behind their stamps.
func (p *plain) part(disk, slot int) []byte {
	var made []byte
	for i := range 8 {
		b, _ := p.a.Read(disk, p.from+8*slot+i)
		made = append(made, b[8:]...)
	}
	return made
}

// counting are the disks whose chunks count, rising.
func (p *plain) counting(slot int, number uint64) []int {
	var made []int
	for disk := range p.n {
		if p.counts(disk, slot, number) {
			made = append(made, disk)
		}
	}
	return made
}

// whole and highest are found by asking each stamp that stands anywhere.
func (p *plain) whole(slot int) uint64 {
	var best uint64
	for disk := range p.n {
		for _, number := range p.ahead(disk, slot) {
			if number > best && len(p.counting(slot, number)) >= p.k {
				best = number
			}
		}
	}
	return best
}

func (p *plain) highest(slot int) uint64 {
	var best uint64
	for disk := range p.n {
		for _, number := range p.ahead(disk, slot) {
			best = max(best, number)
		}
	}
	return best
}

// pair is Stripes and plain ones, each over an array of its own; what is done to one
// is done to the other.
type pair struct {
	a *array.Array
	s *stripe.Stripes
	p *plain
}

// newPair has sectors ahead of the slots, and some behind them.
func newPair(t *testing.T, k, n, segs, from int) *pair {
	t.Helper()
	a := disks(t, n, from+8*segs+3)
	return &pair{a, over(t, a, k, segs, from), &plain{a: a.Copy(), k: k, n: n, segs: segs, from: from}}
}

// disks is a new array.
func disks(t *testing.T, n, sectors int) *array.Array {
	t.Helper()
	a, err := array.New(n, sectors)
	if err != api.OK {
		t.Fatalf("array.New(%d, %d): %v", n, sectors, err)
	}
	return a
}

// over is Stripes over all disks of an array.
func over(t *testing.T, a *array.Array, k, segs, from int) *stripe.Stripes {
	t.Helper()
	s, err := stripe.New(a, api.Geometry{K: k, N: a.Disks(), Segs: segs}, from)
	if err != api.OK || s == nil {
		t.Fatalf("New of %d of %d disks, %d slots from %d: %v", k, a.Disks(), segs, from, err)
	}
	return s
}

// both does one thing to both arrays.
func (d *pair) both(deed func(a *array.Array)) {
	deed(d.a)
	deed(d.p.a)
}

func (d *pair) write(t *testing.T, slot int, number uint64, data []byte) api.Errno {
	t.Helper()
	err := d.s.Write(slot, number, data)
	told(t, "Write", err, d.p.write(slot, number, data))
	return err
}

func (d *pair) put(t *testing.T, disk, slot int, number uint64, part []byte) api.Errno {
	t.Helper()
	err := d.s.Put(disk, slot, number, part)
	told(t, "Put", err, d.p.put(disk, slot, number, part))
	return err
}

// reads fails, if Read does not tell the segment whose code has the first k of what
// counts: there is but one of which that is so.
func (d *pair) reads(t *testing.T, slot int, number uint64) {
	t.Helper()
	got, err := d.s.Read(slot, number)
	want := d.p.wrongSlot(slot)
	if want == api.OK && number == 0 {
		want = api.ErrArg
	}
	if want != api.OK {
		toldBytes(t, "Read", got, err, want)
		return
	}
	from := d.p.counting(slot, number)
	if len(from) < d.p.k {
		toldBytes(t, "Read", got, err, api.ErrIO)
		return
	}
	if err != api.OK || len(got) != 448*d.p.k {
		t.Fatalf("Read(%d, %d), %v counting: %d bytes, %v", slot, number, from, len(got), err)
	}
	code := coded(d.p.k, d.p.n, got)
	for _, disk := range from[:d.p.k] {
		if !bytes.Equal(code[disk], d.p.part(disk, slot)) {
			t.Fatalf("Read(%d, %d), %v counting: not the segment that disk %d has a chunk of", slot, number, from, disk)
		}
	}
}

// has fails, if Has does not tell whether a disk's chunk counts.
func (d *pair) has(t *testing.T, disk, slot int, number uint64) {
	t.Helper()
	got, err := d.s.Has(disk, slot, number)
	want := d.p.wrongDisk(disk, slot)
	if want == api.OK && number == 0 {
		want = api.ErrArg
	}
	if want != api.OK {
		if err != want || got {
			t.Fatalf("Has(%d, %d, %d): %v %v, not %v", disk, slot, number, got, err, want)
		}
		return
	}
	if err != api.OK || got != d.p.counts(disk, slot, number) {
		t.Fatalf("Has(%d, %d, %d): %v %v", disk, slot, number, got, err)
	}
}

// tells fails, if Whole and Highest of a slot are not the plain ones'.
func (d *pair) tells(t *testing.T, slot int) {
	t.Helper()
	whole, wrong := d.s.Whole(slot)
	highest, also := d.s.Highest(slot)
	if want := d.p.wrongSlot(slot); want != api.OK {
		if whole != 0 || wrong != want || highest != 0 || also != want {
			t.Fatalf("Whole, Highest(%d): %d %v, %d %v, not %v", slot, whole, wrong, highest, also, want)
		}
		return
	}
	if whole != d.p.whole(slot) || wrong != api.OK {
		t.Fatalf("Whole(%d): %d %v, not %d", slot, whole, wrong, d.p.whole(slot))
	}
	if highest != d.p.highest(slot) || also != api.OK {
		t.Fatalf("Highest(%d): %d %v, not %d", slot, highest, also, d.p.highest(slot))
	}
}

// same fails, if the two arrays are not alike: each sector as it is read, what is in
// flight, in its order, and the fuse.
func (d *pair) same(t *testing.T) {
	t.Helper()
	if got, want := look(d.a), look(d.p.a); got != want {
		t.Fatalf("the disks are not as the document tells: on %d %d, off %v %v, in flight %d %d, fuse %d %d",
			got.ons, want.ons, got.off, want.off, got.flight, want.flight, got.fuse, want.fuse)
	}
}

// looks is all that is to be told of an array.
type looks struct {
	ons, flight, fuse int
	off               bool
	sectors           string
}

// look reads each sector of Copies that crashed with all, nothing, the first half
// and every other one of what is in flight.
func look(a *array.Array) looks {
	made := looks{ons: a.Ons(), flight: a.Flight(), fuse: fuseOf(a), off: a.Off()}
	half := bytes.Repeat([]byte{1}, made.flight/2)
	other := bytes.Repeat([]byte{0, 1}, made.flight)
	for _, picks := range [][]byte{bytes.Repeat([]byte{1}, made.flight), nil, half, other} {
		crashed := a.Copy()
		crashed.Crash(picks)
		made.sectors += sectors(crashed)
	}
	return made
}

// sectors has all of an array's, and "lost" in the place of a disk's that is.
func sectors(a *array.Array) string {
	var all []byte
	for disk := range a.Disks() {
		for at := range a.Sectors() {
			b, err := a.Read(disk, at)
			if err != api.OK {
				all = append(all, "lost"...)
			}
			all = append(all, b...)
		}
	}
	return string(all)
}

// fuseOf is how many calls a fuse has left, by what Copies do; 0: none, or many.
func fuseOf(a *array.Array) int {
	a = a.Copy()
	for calls := 1; calls < 80; calls++ {
		if a.Barrier() == api.ErrOff {
			return calls
		}
	}
	return 0
}

// told fails, if a call did not tell that error.
func told(t *testing.T, what string, got, want api.Errno) {
	t.Helper()
	if got != want {
		t.Fatalf("%s: %v, not %v", what, got, want)
	}
}

// toldBytes fails, if a call did not tell that error, or tells bytes beside it.
func toldBytes(t *testing.T, what string, b []byte, got, want api.Errno) {
	t.Helper()
	if got != want || len(b) != 0 {
		t.Fatalf("%s: %d bytes, %v, not %v", what, len(b), got, want)
	}
}

// segment fails, if Read does not tell these data.
func segment(t *testing.T, s *stripe.Stripes, slot int, number uint64, data []byte) {
	t.Helper()
	if got, err := s.Read(slot, number); err != api.OK || !bytes.Equal(got, data) {
		t.Fatalf("Read(%d, %d): %d bytes, %v", slot, number, len(got), err)
	}
}

// noSegment fails, if Read does not tell that error.
func noSegment(t *testing.T, s *stripe.Stripes, slot int, number uint64, want api.Errno) {
	t.Helper()
	got, err := s.Read(slot, number)
	toldBytes(t, "Read", got, err, want)
}

// is fails, if Whole and Highest do not tell these.
func is(t *testing.T, s *stripe.Stripes, slot int, whole, highest uint64) {
	t.Helper()
	if got, err := s.Whole(slot); err != api.OK || got != whole {
		t.Fatalf("Whole(%d): %d %v, not %d", slot, got, err, whole)
	}
	if got, err := s.Highest(slot); err != api.OK || got != highest {
		t.Fatalf("Highest(%d): %d %v, not %d", slot, got, err, highest)
	}
}
