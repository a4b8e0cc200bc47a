package stamp_test

import (
	"bytes"
	"encoding/binary"
	"math"
	"testing"

	"hayrick/api"
	"hayrick/stamp"
)

// sample is a list of bytes that have no order to be seen, none of them 0: a
// nought that was not asked for is to be seen among them.
func sample(length, seed int) []byte {
	state := uint32(seed)*2654435761 + 12345
	made := make([]byte, length)
	for i := range made {
		state = state*1664525 + 1013904223
		made[i] = byte((state>>16)%255) + 1
	}
	return made
}

// stamps are the edges: the ends, each of the eight bytes alone at its least and
// its greatest, and those beside them.
func stamps() []uint64 {
	made := []uint64{0, 2, 127, 128, 257, 258, 0x0102030405060708, 0x8070605040302010, math.MaxUint64 - 1, math.MaxUint64}
	for place := range 8 {
		low := uint64(1) << (8 * place)
		made = append(made, low-1, low, low+1, low*255-1, low*255, low*255+1)
	}
	return made
}

// loads are of lengths from none to Load.
func loads() [][]byte {
	made := [][]byte{nil, {}, {0}, {255}, make([]byte, 55), make([]byte, 56), bytes.Repeat([]byte{255}, 56)}
	for length := range 57 {
		made = append(made, sample(length, length))
	}
	return made
}

// byHand is a sector that is written out by the document's words.
func byHand(number uint64, load []byte) []byte {
	made := binary.BigEndian.AppendUint64(nil, number)
	made = append(made, load...)
	for len(made) < 64 {
		made = append(made, 0)
	}
	return made
}

// withNoughts is a load of 56 bytes.
func withNoughts(load []byte) []byte { return byHand(0, load)[8:] }

// TestLimits: the tests write these numbers out.
func TestLimits(t *testing.T) {
	if api.Sector != 64 || api.Load != 56 {
		t.Fatal(api.Sector, api.Load)
	}
}

func TestPut(t *testing.T) {
	for _, number := range stamps() {
		for _, load := range loads() {
			got, err := stamp.Put(number, load)
			if err != api.OK || !bytes.Equal(got, byHand(number, load)) {
				t.Fatalf("Put(%d, %v): %v %v", number, load, got, err)
			}
		}
	}
}

// TestPutBytes: each of a stamp's eight bytes stands at its own place alone.
func TestPutBytes(t *testing.T) {
	for place := range 8 {
		for b := range 256 {
			got, err := stamp.Put(uint64(b)<<(8*(7-place)), nil)
			want := make([]byte, 64)
			want[place] = byte(b)
			if err != api.OK || !bytes.Equal(got, want) {
				t.Fatalf("byte %d is %d: %v %v", place, b, got, err)
			}
		}
	}
}

func TestPutRefuses(t *testing.T) {
	for _, number := range stamps() {
		for _, length := range []int{57, 58, 63, 64, 65, 112, 448, 1 << 16} {
			for _, load := range [][]byte{make([]byte, length), sample(length, length)} {
				if got, err := stamp.Put(number, load); err != api.ErrLong || len(got) != 0 {
					t.Errorf("Put(%d, %d bytes): %v %v", number, length, got, err)
				}
			}
		}
	}
}

func TestTake(t *testing.T) {
	for _, number := range stamps() {
		for _, load := range loads() {
			got, told, err := stamp.Take(byHand(number, load))
			if err != api.OK || got != number || !bytes.Equal(told, withNoughts(load)) {
				t.Fatalf("Take of %d, %v: %d %v %v", number, load, got, told, err)
			}
		}
	}
}

func TestTakeRefuses(t *testing.T) {
	short := [][]byte{nil, {}, {1}, sample(7, 1), sample(8, 1), sample(9, 1), sample(56, 1), sample(63, 1), make([]byte, 63)}
	for _, sector := range short {
		if number, load, err := stamp.Take(sector); err != api.ErrShort || number != 0 || len(load) != 0 {
			t.Errorf("Take of %d bytes: %d %v %v", len(sector), number, load, err)
		}
	}
	long := [][]byte{sample(65, 1), make([]byte, 65), sample(66, 1), sample(128, 1), sample(1<<16, 1)}
	for _, sector := range long {
		if number, load, err := stamp.Take(sector); err != api.ErrLong || number != 0 || len(load) != 0 {
			t.Errorf("Take of %d bytes: %d %v %v", len(sector), number, load, err)
		}
	}
}

// TestTakeRoom: a sector's room behind its end is not looked at.
func TestTakeRoom(t *testing.T) {
	room := sample(128, 5)
	number, load, err := stamp.Take(room[:64])
	if err != api.OK || number != binary.BigEndian.Uint64(room) || !bytes.Equal(load, room[8:64]) {
		t.Errorf("Take of 64 of 128 bytes: %d %v %v", number, load, err)
	}
	if _, _, err := stamp.Take(room[:63]); err != api.ErrShort {
		t.Errorf("Take of 63 of 128 bytes: %v", err)
	}
	if stamp.Is(room[:63], number) || !stamp.Is(room[:64], number) {
		t.Error("Is of 63, of 64 of 128 bytes")
	}
}

func TestIs(t *testing.T) {
	all := stamps()
	for _, number := range all {
		for _, load := range [][]byte{nil, sample(56, 1), bytes.Repeat([]byte{255}, 56)} {
			sector := byHand(number, load)
			for _, asked := range all {
				if got := stamp.Is(sector, asked); got != (asked == number) {
					t.Fatalf("Is of a sector of %d, %d: %v", number, asked, got)
				}
			}
			for bit := range 64 {
				if stamp.Is(sector, number^1<<bit) {
					t.Fatalf("Is of a sector of %d, without its bit %d", number, bit)
				}
			}
		}
	}
}

// TestIsLength: a sector has neither fewer nor more bytes, whatever the stamp.
func TestIsLength(t *testing.T) {
	if stamp.Is(nil, 0) || stamp.Is([]byte{}, 0) {
		t.Error("Is of no bytes")
	}
	for length := range 200 {
		for _, sector := range [][]byte{make([]byte, length), sample(length, 3)} {
			asked := uint64(0)
			if length >= 8 {
				asked = binary.BigEndian.Uint64(sector)
			}
			if got := stamp.Is(sector, asked); got != (length == 64) {
				t.Errorf("Is of %d bytes, %d: %v", length, asked, got)
			}
		}
	}
}

// TestThereAndBack: P5.3, from stamps and loads to sectors and from there.
func TestThereAndBack(t *testing.T) {
	for _, number := range stamps() {
		for _, load := range loads() {
			sector, err := stamp.Put(number, load)
			if err != api.OK {
				t.Fatal(err)
			}
			got, told, err := stamp.Take(sector)
			if err != api.OK || got != number || !bytes.Equal(told, withNoughts(load)) {
				t.Fatalf("Take of Put(%d, %v): %d %v %v", number, load, got, told, err)
			}
			if !stamp.Is(sector, number) || stamp.Is(sector, number+1) {
				t.Fatalf("Is of Put(%d, %v)", number, load)
			}
		}
	}
}

// TestBackAndThere: P5.3, of sectors that no Put made.
func TestBackAndThere(t *testing.T) {
	sectors := [][]byte{make([]byte, 64), bytes.Repeat([]byte{255}, 64)}
	for seed := range 300 {
		sectors = append(sectors, sample(64, seed))
	}
	for at := range 64 {
		alone := make([]byte, 64)
		alone[at] = 129
		sectors = append(sectors, alone)
	}
	for _, sector := range sectors {
		number, load, err := stamp.Take(sector)
		if err != api.OK {
			t.Fatal(err)
		}
		got, err := stamp.Put(number, load)
		if err != api.OK || !bytes.Equal(got, sector) {
			t.Fatalf("Put of Take of %v: %v %v", sector, got, err)
		}
	}
}

// TestOrder: P5.4, of each two stamps at the edges.
func TestOrder(t *testing.T) {
	all := stamps()
	for _, load := range [][]byte{nil, sample(1, 1), sample(56, 1), bytes.Repeat([]byte{255}, 56)} {
		sectors := make([][]byte, len(all))
		for i, number := range all {
			sectors[i], _ = stamp.Put(number, load)
		}
		for i, a := range all {
			for j, b := range all {
				want := 0
				if a < b {
					want = -1
				} else if a > b {
					want = 1
				}
				if got := bytes.Compare(sectors[i], sectors[j]); got != want {
					t.Fatalf("the sectors of %d and %d: %d", a, b, got)
				}
			}
		}
	}
}

// TestUnchanged: no call changes what is handed in, nor the room behind it.
func TestUnchanged(t *testing.T) {
	for length := range 129 {
		room := sample(200, length)
		were := bytes.Clone(room)
		stamp.Put(0x0102030405060708, room[:length])
		stamp.Take(room[:length])
		stamp.Is(room[:length], 0x0102030405060708)
		if !bytes.Equal(room, were) {
			t.Fatalf("a list of %d bytes was changed", length)
		}
	}
}

// spoil changes each byte of a list, and of the room behind it.
func spoil(list []byte) {
	list = list[:cap(list)]
	for i := range list {
		list[i] ^= 0xa5
	}
}

// TestNewMemory: an answer shares none with what was handed in, nor with another.
func TestNewMemory(t *testing.T) {
	for _, length := range []int{0, 1, 55, 56} {
		load := sample(length, 7)
		were := bytes.Clone(load)
		first, _ := stamp.Put(9, load)
		second, _ := stamp.Put(9, load)
		spoil(first)
		if !bytes.Equal(load, were) || !bytes.Equal(second, byHand(9, were)) {
			t.Errorf("Put of %d bytes shares its answer's memory", length)
		}
		spoil(load)
		if !bytes.Equal(second, byHand(9, were)) {
			t.Errorf("Put of %d bytes keeps its load", length)
		}
	}
	sector := byHand(9, sample(56, 8))
	were := bytes.Clone(sector)
	_, first, _ := stamp.Take(sector)
	_, second, _ := stamp.Take(sector)
	spoil(first)
	if !bytes.Equal(sector, were) || !bytes.Equal(second, were[8:]) {
		t.Error("Take shares its answer's memory")
	}
	spoil(sector)
	if !bytes.Equal(second, were[8:]) {
		t.Error("Take keeps its sector")
	}
}

func TestExamples(t *testing.T) {
	sector, err := stamp.Put(258, []byte("ab"))
	if err != api.OK || len(sector) != 64 || !bytes.Equal(sector[6:11], []byte{1, 2, 'a', 'b', 0}) {
		t.Errorf("Put(258, ab): %v %v", sector, err)
	}
	if sector, err := stamp.Put(1, make([]byte, 57)); err != api.ErrLong || len(sector) != 0 {
		t.Errorf("Put(1, 57 bytes): %v %v", sector, err)
	}
	if number, load, err := stamp.Take(make([]byte, 63)); err != api.ErrShort || number != 0 || len(load) != 0 {
		t.Errorf("Take of 63 bytes: %d %v %v", number, load, err)
	}
	if number, load, err := stamp.Take(make([]byte, 65)); err != api.ErrLong || number != 0 || len(load) != 0 {
		t.Errorf("Take of 65 bytes: %d %v %v", number, load, err)
	}
	if !stamp.Is(make([]byte, 64), 0) || stamp.Is(make([]byte, 65), 0) {
		t.Error("Is of 64, of 65 noughts, 0")
	}
}
