package inode_test

import (
	"bytes"
	"encoding/binary"
	"math"
	"testing"

	"hayrick/api"
	"hayrick/inode"
)

// dice are numbers that have no order to be seen.
type dice uint64

func (d *dice) roll(sides int) int {
	*d = *d*6364136223846793005 + 1442695040888963407
	return int(uint64(*d>>33) % uint64(sides))
}

// pointer is 0 now and then, low, or of all four bytes.
func (d *dice) pointer() uint32 {
	switch d.roll(4) {
	case 0:
		return 0
	case 1:
		return uint32(d.roll(300))
	}
	return uint32(d.roll(1<<16))<<16 | uint32(d.roll(1<<16))
}

// inode is one that may be.
func (d *dice) inode() api.Inode {
	i := api.Inode{Ino: 1 + d.roll(64), Kind: 1 + d.roll(2), Links: 1}
	if i.Kind == 1 {
		i.Size, i.Links = d.roll(3809), 1+d.roll(64)
	} else {
		i.Size = 28 * d.roll(65)
	}
	for place := range min(6, counted(i.Size)) {
		i.Direct[place] = d.pointer()
	}
	if counted(i.Size) > 6 {
		i.Points = d.pointer()
	}
	return i
}

// many are inodes that may be: of all numbers, links and sizes, and others.
func many() []api.Inode {
	made := bases()
	for n := 1; n <= 64; n++ {
		i := filled(file(n * 59))
		i.Ino, i.Links = n, 65-n
		made = append(made, i, filled(directory(28*n)))
	}
	for size := range 3809 {
		made = append(made, filled(file(size)))
	}
	all := file(3808)
	for place := range all.Direct {
		all.Direct[place] = math.MaxUint32
	}
	all.Points = math.MaxUint32
	d := dice(11)
	for range 3000 {
		made = append(made, d.inode())
	}
	return append(made, all)
}

// byHand is an inode's block, written out by the document's words.
func byHand(i api.Inode) []byte {
	made := binary.BigEndian.AppendUint16(nil, uint16(i.Ino))
	made = append(made, byte(i.Kind), byte(i.Links))
	made = binary.BigEndian.AppendUint16(made, uint16(i.Size))
	for _, pointer := range i.Direct {
		made = binary.BigEndian.AppendUint32(made, pointer)
	}
	made = binary.BigEndian.AppendUint32(made, i.Points)
	return append(made, make([]byte, 112-34)...)
}

// read is what a block says, by the document's words, and whether that may be.
func read(b []byte) (api.Inode, bool) {
	i := api.Inode{
		Ino:   int(binary.BigEndian.Uint16(b)),
		Kind:  int(b[2]),
		Links: int(b[3]),
		Size:  int(binary.BigEndian.Uint16(b[4:])),
	}
	for place := range i.Direct {
		i.Direct[place] = binary.BigEndian.Uint32(b[6+4*place:])
	}
	i.Points = binary.BigEndian.Uint32(b[30:])
	may := i.Ino >= 1 && i.Ino <= 64 && i.Size <= 3808 && i.Links >= 1 && i.Links <= 64 && (i.Kind == 1 || i.Kind == 2)
	if i.Kind == 2 {
		may = may && i.Size%28 == 0 && i.Size <= 1792 && i.Links == 1
	}
	for place := counted(i.Size); place < 6; place++ {
		may = may && i.Direct[place] == 0
	}
	if counted(i.Size) <= 6 {
		may = may && i.Points == 0
	}
	return i, may && bytes.Equal(b[34:], make([]byte, 78))
}

// tryTake holds Take against that reading.
func tryTake(t *testing.T, b []byte) {
	t.Helper()
	want, may := read(b)
	got, err := inode.Take(b)
	if may && (err != api.OK || got != want) || !may && (err != api.ErrForm || got != (api.Inode{})) {
		t.Fatalf("Take of %v: %+v %v", b, got, err)
	}
}

func TestPut(t *testing.T) {
	for _, i := range many() {
		if got, err := inode.Put(i); err != api.OK || !bytes.Equal(got, byHand(i)) {
			t.Fatalf("Put of %+v: %v %v", i, got, err)
		}
	}
}

// TestPutPlaces: each field's bytes stand at their places, the highest first.
func TestPutPlaces(t *testing.T) {
	i := api.Inode{Ino: 0x21, Kind: 1, Links: 0x32, Size: 0x0e43, Points: 0xa1a2a3a4}
	for place := range i.Direct {
		i.Direct[place] = uint32(place+1)*0x10000000 + 0x010203
	}
	want := []byte{0, 0x21, 1, 0x32, 0x0e, 0x43,
		0x10, 1, 2, 3, 0x20, 1, 2, 3, 0x30, 1, 2, 3, 0x40, 1, 2, 3, 0x50, 1, 2, 3, 0x60, 1, 2, 3,
		0xa1, 0xa2, 0xa3, 0xa4}
	got, err := inode.Put(i)
	if err != api.OK || len(got) != 112 || !bytes.Equal(got[:34], want) {
		t.Fatal(got, err)
	}
	for at, b := range got[34:] {
		if b != 0 {
			t.Errorf("byte %d is %d", 34+at, b)
		}
	}
}

func TestTake(t *testing.T) {
	for _, i := range many() {
		if got, err := inode.Take(byHand(i)); err != api.OK || got != i {
			t.Fatalf("Take of the block of %+v: %+v %v", i, got, err)
		}
	}
}

func TestTakeLength(t *testing.T) {
	d := dice(5)
	for length := range 300 {
		noise := make([]byte, length)
		for at := range noise {
			noise[at] = byte(d.roll(256))
		}
		good := byHand(filled(file(3808)))
		good = append(good, make([]byte, 200)...)[:length]
		want := api.ErrShort
		if length > 112 {
			want = api.ErrLong
		}
		for _, b := range [][]byte{make([]byte, length), noise, good} {
			got, err := inode.Take(b)
			if length == 112 {
				tryTake(t, b)
			} else if err != want || got != (api.Inode{}) {
				t.Errorf("Take of %d bytes: %+v %v", length, got, err)
			}
		}
	}
	for _, b := range [][]byte{nil, {}} {
		if got, err := inode.Take(b); err != api.ErrShort || got != (api.Inode{}) {
			t.Errorf("Take of none: %+v %v", got, err)
		}
	}
	if _, err := inode.Take(make([]byte, 1<<16)); err != api.ErrLong {
		t.Error(err)
	}
}

// TestTakeRoom: bytes behind a list's end are not looked at.
func TestTakeRoom(t *testing.T) {
	i := filled(file(3808))
	room := append(byHand(i), bytes.Repeat([]byte{255}, 50)...)
	if got, err := inode.Take(room[:112]); err != api.OK || got != i {
		t.Error(got, err)
	}
	if _, err := inode.Take(room[:111]); err != api.ErrShort {
		t.Error(err)
	}
}

// TestTakeTurned: blocks with one byte that is any other.
func TestTakeTurned(t *testing.T) {
	for _, i := range bases() {
		b := byHand(i)
		for at := range b {
			were := b[at]
			for turned := range 256 {
				b[at] = byte(turned)
				tryTake(t, b)
			}
			b[at] = were
		}
	}
}

// TestTakeBehind: no byte behind Points is other than 0.
func TestTakeBehind(t *testing.T) {
	for _, i := range bases() {
		for at := 34; at < 112; at++ {
			for bit := range 8 {
				b := byHand(i)
				b[at] = 1 << bit
				if got, err := inode.Take(b); err != api.ErrForm || got != (api.Inode{}) {
					t.Errorf("byte %d is %d: %+v %v", at, b[at], got, err)
				}
			}
		}
	}
}

// TestTakeTwo: blocks with two bytes turned among the numbers.
func TestTakeTwo(t *testing.T) {
	d := dice(3)
	for _, i := range bases() {
		for at := range 34 {
			for other := range at {
				b := byHand(i)
				b[at], b[other] = byte(d.roll(256)), byte(d.roll(66))
				tryTake(t, b)
			}
		}
	}
}

// TestTakeAny: any bytes, and such as are near to a block.
func TestTakeAny(t *testing.T) {
	tryTake(t, make([]byte, 112))
	tryTake(t, bytes.Repeat([]byte{255}, 112))
	d := dice(7)
	for range 20000 {
		b := make([]byte, 112)
		for at := range b {
			b[at] = byte(d.roll(256))
		}
		tryTake(t, b)
		clear(b[34:])
		tryTake(t, b)
		b[0], b[1], b[2], b[3] = 0, byte(d.roll(66)), byte(d.roll(4)), byte(d.roll(66))
		tryTake(t, b)
		b[3], b[4] = 1, byte(d.roll(16))
		tryTake(t, b)
		clear(b[6+4*d.roll(7) : 34])
		tryTake(t, b)
	}
}

// TestThereAndBack: P11.3, from inodes to blocks and from there.
func TestThereAndBack(t *testing.T) {
	for _, i := range many() {
		b, err := inode.Put(i)
		if err != api.OK {
			t.Fatal(i, err)
		}
		if got, err := inode.Take(b); err != api.OK || got != i {
			t.Fatalf("Take of Put of %+v: %+v %v", i, got, err)
		}
	}
}

// TestBackAndThere: P11.3, of blocks that no Put made.
func TestBackAndThere(t *testing.T) {
	d := dice(13)
	told := 0
	for range 20000 {
		b := byHand(d.inode())
		for range d.roll(3) {
			b[d.roll(36)] ^= 1 << d.roll(8)
		}
		were := bytes.Clone(b)
		i, err := inode.Take(b)
		if err != api.OK {
			continue
		}
		told++
		if got, err := inode.Put(i); err != api.OK || !bytes.Equal(got, were) {
			t.Fatalf("Put of Take of %v: %v %v", were, got, err)
		}
	}
	if told < 5000 {
		t.Error("too few blocks are told:", told)
	}
}

// TestUnchanged: Take changes nothing of what is handed in, nor the room behind it.
func TestUnchanged(t *testing.T) {
	d := dice(17)
	for length := range 150 {
		for _, room := range [][]byte{append(byHand(d.inode()), byHand(d.inode())...), bytes.Repeat([]byte{0xa5}, 224)} {
			were := bytes.Clone(room)
			inode.Take(room[:length])
			if !bytes.Equal(room, were) {
				t.Fatalf("a list of %d bytes was changed", length)
			}
		}
	}
}

// TestNewMemory: no answer shares memory with another, or with what was handed in.
func TestNewMemory(t *testing.T) {
	i := filled(file(3808))
	first, _ := inode.Put(i)
	second, _ := inode.Put(i)
	for at := range first {
		first[at] = 0xa5
	}
	if !bytes.Equal(second, byHand(i)) {
		t.Error("Put shares its answers' memory")
	}
	if again, _ := inode.Put(i); !bytes.Equal(again, byHand(i)) {
		t.Error("Put keeps its answer")
	}
	told, other := inode.Pointers(i), inode.Pointers(i)
	for at := range told {
		told[at] = 99
	}
	if other[0] != 1 || other[6] != 7 || len(other) != 7 || i != filled(file(3808)) {
		t.Error("Pointers shares its answers' memory")
	}
	if again := inode.Pointers(i); again[0] != 1 || again[6] != 7 {
		t.Error("Pointers keeps its answer")
	}
}
