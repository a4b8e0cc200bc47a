package chunk_test

import (
	"bytes"
	"encoding/binary"
	"math"
	"slices"
	"testing"

	"hayrick/api"
	"hayrick/chunk"
)

// sample is a list of bytes that have no order to be seen, none of them 0: a
// nought that was not asked for is to be seen among them.
func sample(length, seed int) []byte {
	state := uint32(seed)*2654435761 + 12345
	made := make([]byte, length)
	for i := range made {
		state = state*1664525 + 1013904223
		made[i] = byte((state>>16)%255) + 1
	}
	return made
}

// stamps are the edges of those that a chunk may have.
func stamps() []uint64 {
	made := []uint64{3, 257, 0x0102030405060708, 1<<63 - 1, 1<<63 + 1, math.MaxUint64 - 1, math.MaxUint64}
	for bit := range 64 {
		made = append(made, 1<<bit)
	}
	return made
}

// counts are the edges of how many sectors a chunk has.
func counts() []int { return []int{1, 2, 3, 7, 8, 9, 32, 62, 63, 64} }

// datas are of that many sectors.
func datas(count int) [][]byte {
	length := 56 * count
	return [][]byte{make([]byte, length), bytes.Repeat([]byte{255}, length), sample(length, count), sample(length, count+100)}
}

// places are the first, the middle and the last of that many.
func places(count int) []int { return []int{0, count / 2, count - 1} }

// byHand is a chunk's sectors, written out by the document's words.
func byHand(number uint64, data []byte) [][]byte {
	var made [][]byte
	for at := 0; at < len(data); at += 56 {
		sector := binary.BigEndian.AppendUint64(nil, number)
		made = append(made, append(sector, data[at:at+56]...))
	}
	return made
}

// alike: whether two lists have the same sectors, byte by byte.
func alike(a, b [][]byte) bool { return slices.EqualFunc(a, b, bytes.Equal) }

// copies is a list of sectors that lives apart.
func copies(sectors [][]byte) [][]byte {
	made := make([][]byte, len(sectors))
	for i, sector := range sectors {
		made[i] = bytes.Clone(sector)
	}
	return made
}

// isPut fails, if Put does not make these sectors.
func isPut(t *testing.T, number uint64, data []byte, want [][]byte) {
	t.Helper()
	got, err := chunk.Put(number, data)
	if err != api.OK || !alike(got, want) {
		t.Fatalf("Put(%d, %d bytes): %v %v", number, len(data), got, err)
	}
}

// notPut fails, if Put does not tell that error, or tells sectors beside it.
func notPut(t *testing.T, number uint64, data []byte, want api.Errno) {
	t.Helper()
	if got, err := chunk.Put(number, data); err != want || len(got) != 0 {
		t.Fatalf("Put(%d, %d bytes): %d sectors, %v, not %v", number, len(data), len(got), err, want)
	}
}

// isChunk fails, if sectors are not told to be that chunk, and that one alone.
func isChunk(t *testing.T, what string, sectors [][]byte, number uint64, data []byte) {
	t.Helper()
	got, told, whole := chunk.Take(sectors)
	if !whole || got != number || !bytes.Equal(told, data) {
		t.Fatalf("%s: Take of %d sectors: %d %v %v, not %d", what, len(sectors), got, told, whole, number)
	}
	if !chunk.Whole(sectors, number) || chunk.Whole(sectors, 0) || chunk.Whole(sectors, number+1) || chunk.Whole(sectors, number-1) {
		t.Fatalf("%s: Whole of %d sectors, %d and those beside it", what, len(sectors), number)
	}
}

// noChunk fails, if sectors are told to be a chunk, or anything is told of them.
func noChunk(t *testing.T, what string, sectors [][]byte) {
	t.Helper()
	if number, data, whole := chunk.Take(sectors); whole || number != 0 || len(data) != 0 {
		t.Fatalf("%s: Take of %d sectors: %d %v %v", what, len(sectors), number, data, whole)
	}
	asked := []uint64{0, 1, 3, 1 << 63, math.MaxUint64}
	for _, sector := range sectors {
		if len(sector) >= 8 {
			asked = append(asked, binary.BigEndian.Uint64(sector))
		}
	}
	slices.Sort(asked)
	for _, number := range slices.Compact(asked) {
		if chunk.Whole(sectors, number) {
			t.Fatalf("%s: Whole of %d sectors, %d", what, len(sectors), number)
		}
	}
}

// TestLimits: the tests write these numbers out.
func TestLimits(t *testing.T) {
	if api.Sector != 64 || api.Load != 56 || chunk.Most != 64 {
		t.Fatal(api.Sector, api.Load, chunk.Most)
	}
}

func TestPut(t *testing.T) {
	for _, number := range stamps() {
		for _, count := range counts() {
			for _, data := range datas(count) {
				isPut(t, number, data, byHand(number, data))
			}
		}
	}
	for count := 1; count <= 64; count++ {
		data := sample(56*count, count)
		isPut(t, 3, data, byHand(3, data))
	}
}

// TestPutRoom: what stands in data's room behind their end is no part of them.
func TestPutRoom(t *testing.T) {
	room := sample(66*56, 4)
	isPut(t, 9, room[:64*56], byHand(9, room[:64*56]))
	isPut(t, 9, room[56:112], byHand(9, room[56:112]))
	notPut(t, 9, room[:0], api.ErrShort)
	notPut(t, 9, room[:55], api.ErrShort)
}

func TestPutRefuses(t *testing.T) {
	for _, row := range []struct {
		number uint64
		length int
		want   api.Errno
	}{
		{0, 0, api.ErrArg}, {0, 1, api.ErrArg}, {0, 56, api.ErrArg}, {0, 57, api.ErrArg}, {0, 112, api.ErrArg},
		{0, 64 * 56, api.ErrArg}, {0, 64*56 + 1, api.ErrArg}, {0, 65 * 56, api.ErrArg}, {0, 65*56 + 1, api.ErrArg},
		{1, 0, api.ErrShort}, {1, 1, api.ErrShort}, {1, 8, api.ErrShort}, {1, 55, api.ErrShort}, {1, 57, api.ErrShort},
		{1, 64, api.ErrShort}, {1, 111, api.ErrShort}, {1, 113, api.ErrShort}, {1, 128, api.ErrShort},
		{1, 64*56 - 1, api.ErrShort}, {1, 64*56 + 1, api.ErrShort}, {1, 65*56 - 1, api.ErrShort},
		{1, 65*56 + 1, api.ErrShort}, {1, 128*56 + 1, api.ErrShort}, {1, 1 << 16, api.ErrShort},
		{1, 65 * 56, api.ErrLong}, {1, 66 * 56, api.ErrLong}, {1, 128 * 56, api.ErrLong}, {1, 256 * 56, api.ErrLong},
		{1, 257 * 56, api.ErrLong}, {1, (1<<16 + 1) * 56, api.ErrLong},
	} {
		notPut(t, row.number, make([]byte, row.length), row.want)
		notPut(t, row.number, sample(row.length, row.length), row.want)
	}
	for _, number := range stamps() {
		notPut(t, number, nil, api.ErrShort)
		notPut(t, number, sample(57, 1), api.ErrShort)
		notPut(t, number, sample(65*56, 1), api.ErrLong)
		notPut(t, number, sample(65*56+1, 1), api.ErrShort)
	}
	notPut(t, 0, nil, api.ErrArg)
}

// TestPutLengths: each length up to the ends, with each error in its place.
func TestPutLengths(t *testing.T) {
	data := sample(67*56, 2)
	for length := range len(data) + 1 {
		notPut(t, 0, data[:length], api.ErrArg)
		switch {
		case length == 0 || length%56 != 0:
			notPut(t, 5, data[:length], api.ErrShort)
		case length > 3584:
			notPut(t, 5, data[:length], api.ErrLong)
		default:
			isPut(t, 5, data[:length], byHand(5, data[:length]))
		}
	}
}

func TestTake(t *testing.T) {
	for _, number := range stamps() {
		for _, count := range counts() {
			for _, data := range datas(count) {
				isChunk(t, "by hand", byHand(number, data), number, data)
			}
		}
	}
	for count := 1; count <= 64; count++ {
		data := sample(56*count, count)
		isChunk(t, "by hand", byHand(3, data), 3, data)
	}
}

func TestTakeCounts(t *testing.T) {
	noChunk(t, "nil", nil)
	noChunk(t, "empty", [][]byte{})
	for _, count := range []int{65, 66, 127, 128, 129, 255, 256, 257, 320, 1<<16 + 1} {
		noChunk(t, "too many", byHand(3, sample(56*count, 1)))
		noChunk(t, "too many noughts", byHand(0, make([]byte, 56*count)))
	}
	last := byHand(3, sample(56*65, 1))
	last[64] = nil
	noChunk(t, "too many, the last one nil", last)
}

// TestTakeLengths: one sector that has not 64 bytes, at each of the places, with
// the others' stamp, as far as it has one.
func TestTakeLengths(t *testing.T) {
	for _, count := range counts() {
		data := sample(56*count, count)
		for _, length := range []int{0, 1, 7, 8, 9, 55, 56, 57, 63, 65, 66, 72, 127, 128, 1 << 16} {
			for _, place := range places(count) {
				sectors := byHand(3, data)
				sectors[place] = append(sectors[place], sample(length, 1)...)[:length]
				noChunk(t, "a sector's length", sectors)
				sectors[place] = make([]byte, length)
				noChunk(t, "noughts of a sector's length", sectors)
				sectors[place] = nil
				noChunk(t, "a nil sector", sectors)
			}
			cut := make([][]byte, count)
			for i, sector := range byHand(3, data) {
				cut[i] = append(sector, sector...)[:min(length, 128)]
			}
			noChunk(t, "all sectors' length", cut)
		}
	}
	room := append(byHand(3, sample(56, 1))[0], sample(64, 2)...)
	noChunk(t, "63 and 65 bytes", [][]byte{room[:63], room[:65]})
}

// TestTakeStamps: one sector that has another stamp than all others, at each of
// the places; the least difference is one bit.
func TestTakeStamps(t *testing.T) {
	for _, number := range []uint64{1, 3, 1<<63 - 1, 1 << 63, math.MaxUint64} {
		others := []uint64{0, number + 1, number - 1, math.MaxUint64 - number, 1, 2, 1 << 63, math.MaxUint64}
		for bit := range 64 {
			others = append(others, number^1<<bit)
		}
		for _, count := range []int{2, 3, 8, 63, 64} {
			data := sample(56*count, count)
			for _, other := range others {
				if other == number {
					continue
				}
				for _, place := range places(count) {
					sectors := byHand(number, data)
					sectors[place] = byHand(other, data[56*place:56*place+56])[0]
					noChunk(t, "one of another stamp", sectors)
				}
			}
		}
	}
}

// TestTakeNoughts: 0 is no chunk's stamp, if all sectors have it, too.
func TestTakeNoughts(t *testing.T) {
	for _, count := range counts() {
		for _, data := range datas(count) {
			noChunk(t, "stamps of 0", byHand(0, data))
		}
		for _, place := range places(count) {
			if count == 1 {
				continue
			}
			sectors := byHand(0, sample(56*count, 1))
			sectors[place] = byHand(3, sample(56, 1))[0]
			noChunk(t, "all but one of 0", sectors)
		}
	}
}

// TestTakeRoom: what stands in a list's, or a sector's, room behind its end is not
// looked at.
func TestTakeRoom(t *testing.T) {
	data := sample(56*64, 5)
	all := append(byHand(3, data), byHand(4, data)...)
	for _, count := range []int{1, 8, 64} {
		isChunk(t, "room behind a list", all[:count], 3, data[:56*count])
	}
	noChunk(t, "none of a list", all[:0])
	noChunk(t, "the end of one and the beginning of another", all[60:68])
	for i, sector := range all {
		all[i] = append(sector, sample(64, i)...)[:64]
	}
	isChunk(t, "room behind a sector", all[:64], 3, data)
}

func TestWhole(t *testing.T) {
	asked := append(stamps(), 0)
	for _, number := range stamps() {
		for _, count := range []int{1, 2, 8, 64} {
			sectors := byHand(number, sample(56*count, count))
			for _, other := range asked {
				if got := chunk.Whole(sectors, other); got != (other == number) {
					t.Fatalf("Whole of a chunk of %d, %d: %v", number, other, got)
				}
			}
			for bit := range 64 {
				if chunk.Whole(sectors, number^1<<bit) {
					t.Fatalf("Whole of a chunk of %d, without its bit %d", number, bit)
				}
			}
		}
	}
}

func TestExamples(t *testing.T) {
	data := sample(112, 1)
	three, err := chunk.Put(3, data)
	if err != api.OK || len(three) != 2 {
		t.Fatalf("Put(3, 112 bytes): %v %v", three, err)
	}
	isChunk(t, "Put(3, 112 bytes)", three, 3, data)
	notPut(t, 0, make([]byte, 56), api.ErrArg)
	notPut(t, 3, nil, api.ErrShort)
	notPut(t, 3, make([]byte, 57), api.ErrShort)
	notPut(t, 3, make([]byte, 65*56), api.ErrLong)
	four, err := chunk.Put(4, data)
	if err != api.OK {
		t.Fatal(err)
	}
	noChunk(t, "one of 3 and one of 4", [][]byte{three[0], four[1]})
	noChunk(t, "none", nil)
	noChunk(t, "64 noughts", [][]byte{make([]byte, 64)})
}
