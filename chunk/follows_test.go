package chunk_test

import (
	"bytes"
	"encoding/binary"
	"math"
	"slices"
	"testing"

	"hayrick/api"
	"hayrick/chunk"
)

// put is a Put that must be OK.
func put(t *testing.T, number uint64, data []byte) [][]byte {
	t.Helper()
	made, err := chunk.Put(number, data)
	if err != api.OK {
		t.Fatalf("Put(%d, %d bytes): %v", number, len(data), err)
	}
	return made
}

// TestThereAndBack: P7.3, from stamps and data to sectors and from there.
func TestThereAndBack(t *testing.T) {
	for _, number := range stamps() {
		for _, count := range counts() {
			for _, data := range datas(count) {
				isChunk(t, "put", put(t, number, data), number, data)
			}
		}
	}
}

// TestBackAndThere: P7.3, of sectors that no Put made.
func TestBackAndThere(t *testing.T) {
	for seed := range 200 {
		count := seed%64 + 1
		mark := sample(8, seed)
		var sectors [][]byte
		for i := range count {
			sectors = append(sectors, slices.Concat(mark, sample(56, seed*64+i)))
		}
		number, data, whole := chunk.Take(sectors)
		if !whole || number != binary.BigEndian.Uint64(mark) {
			t.Fatalf("Take of %d sectors: %d %v", count, number, whole)
		}
		isPut(t, number, data, sectors)
	}
}

// mixed has of two chunks, place by place, the second one's sector where pick tells
// so.
func mixed(a, b [][]byte, pick func(place int) bool) [][]byte {
	made := slices.Clone(a)
	for place := range made {
		if pick(place) {
			made[place] = b[place]
		}
	}
	return made
}

// pairs are two stamps of two chunks, some of them all but alike.
func pairs() [][2]uint64 {
	return [][2]uint64{{3, 4}, {4, 3}, {1, 2}, {1, math.MaxUint64}, {1, 1 << 63}, {1 << 63, 1<<63 + 1}, {1<<63 - 1, 1 << 63},
		{5, 5 + 1<<32}, {5 << 32, 6 << 32}, {7, 7 << 56}, {math.MaxUint64 - 1, math.MaxUint64}}
}

// TestMixes: P7.4, all mixes of chunks of few sectors, with the same data and with
// others.
func TestMixes(t *testing.T) {
	for _, pair := range pairs() {
		for count := 2; count <= 8; count++ {
			data := sample(56*count, count)
			a := put(t, pair[0], data)
			for _, other := range [][]byte{data, sample(56*count, count+50)} {
				b := put(t, pair[1], other)
				full := 1<<count - 1
				for picks := range full + 1 {
					sectors := mixed(a, b, func(place int) bool { return picks>>place&1 == 1 })
					switch picks {
					case 0:
						isChunk(t, "none of the other", sectors, pair[0], data)
					case full:
						isChunk(t, "all of the other", sectors, pair[1], other)
					default:
						noChunk(t, "a mix", sectors)
					}
				}
			}
		}
	}
}

// TestGreatMixes: P7.4, of chunks of many sectors: each place alone, all but it, all
// ahead of it, and every second one.
func TestGreatMixes(t *testing.T) {
	for _, pair := range pairs() {
		for _, count := range []int{9, 63, 64} {
			a, b := put(t, pair[0], sample(56*count, 1)), put(t, pair[1], sample(56*count, 2))
			for at := range count {
				noChunk(t, "one", mixed(a, b, func(place int) bool { return place == at }))
				noChunk(t, "all but one", mixed(a, b, func(place int) bool { return place != at }))
				if at > 0 {
					noChunk(t, "those ahead", mixed(a, b, func(place int) bool { return place < at }))
				}
			}
			noChunk(t, "every second", mixed(a, b, func(place int) bool { return place%2 == 1 }))
		}
	}
}

// TestOtherMixes: P7.4, of sectors that stand elsewhere than in their chunk, of
// chunks that have not as many, and of three chunks.
func TestOtherMixes(t *testing.T) {
	a, b, c := put(t, 1, sample(56*8, 1)), put(t, 2, sample(56*2, 2)), put(t, 3, sample(56*8, 3))
	noChunk(t, "one behind the other", slices.Concat(a, b))
	noChunk(t, "one behind the other", slices.Concat(b, a))
	noChunk(t, "one within the other", slices.Concat(a[:4], b, a[4:]))
	noChunk(t, "elsewhere", [][]byte{a[7], b[0]})
	noChunk(t, "elsewhere", [][]byte{b[1], b[0], a[0]})
	noChunk(t, "of three", [][]byte{a[0], b[0], c[0]})
	noChunk(t, "of three", [][]byte{a[0], b[0], c[0], a[1], b[1], c[1]})
	noChunk(t, "there and back", [][]byte{a[0], b[0], b[1], a[1]})
}

// TestSameStamp: sectors are a chunk's by their stamp alone.
func TestSameStamp(t *testing.T) {
	data, other := sample(56*8, 1), sample(56*8, 2)
	a, b := put(t, 6, data), put(t, 6, other)
	sectors := mixed(a, b, func(place int) bool { return place >= 5 })
	isChunk(t, "of one stamp", sectors, 6, slices.Concat(data[:56*5], other[56*5:]))
	isChunk(t, "in another order", [][]byte{a[2], a[0]}, 6, slices.Concat(data[112:168], data[:56]))
	isChunk(t, "a part", a[3:5], 6, data[168:280])
	isChunk(t, "thrice the same", [][]byte{a[0], a[0], a[0]}, 6, bytes.Repeat(data[:56], 3))
}

// lists are sectors, some of which are a chunk, and others none.
func lists() [][][]byte {
	three, four := byHand(3, sample(56*8, 1)), byHand(4, sample(56*8, 2))
	return [][][]byte{nil, {}, {nil}, {{}}, three, byHand(3, sample(56*64, 1)), byHand(3, sample(56*65, 1)),
		byHand(0, sample(56*8, 1)), slices.Concat(three, four), slices.Concat(three[:4], [][]byte{nil}),
		slices.Concat(three[:4], [][]byte{three[0][:63]}), slices.Concat(three[:4], [][]byte{sample(65, 1)})}
}

// TestUnchanged: no call changes what is handed in, nor the room behind it.
func TestUnchanged(t *testing.T) {
	for _, length := range []int{0, 1, 55, 56, 57, 112, 56 * 8, 56 * 64, 56*64 + 1, 56 * 65} {
		room := sample(length+200, length)
		were := bytes.Clone(room)
		for _, number := range []uint64{0, 3} {
			chunk.Put(number, room[:length])
		}
		if !bytes.Equal(room, were) {
			t.Fatalf("data of %d bytes were changed", length)
		}
	}
	for _, list := range lists() {
		behind := [][]byte{sample(64, 7), sample(1, 8)}
		room := slices.Concat(list, behind)
		for i, sector := range room {
			room[i] = slices.Concat(sector, sample(64, i))[:len(sector)]
		}
		were := slices.Clone(room)
		bytesWere := wide(room)
		chunk.Take(room[:len(list)])
		for _, number := range []uint64{0, 3, 4} {
			chunk.Whole(room[:len(list)], number)
		}
		if !alike(room, were) || !alike(wide(room), bytesWere) {
			t.Fatalf("a list of %d sectors was changed", len(list))
		}
	}
}

// wide is a copy of sectors with the room behind each.
func wide(sectors [][]byte) [][]byte {
	made := make([][]byte, len(sectors))
	for i, sector := range sectors {
		made[i] = bytes.Clone(sector[:cap(sector)])
	}
	return made
}

// spoil changes each byte of a list, and of the room behind it.
func spoil(list []byte) {
	list = list[:cap(list)]
	for i := range list {
		list[i] ^= 0xa5
	}
}

// TestPutNewMemory: Put's sectors share no memory with the data, with one another,
// nor with another answer's.
func TestPutNewMemory(t *testing.T) {
	for _, count := range counts() {
		data := sample(56*count, 7)
		want := byHand(9, data)
		first, second := put(t, 9, data), put(t, 9, data)
		for i := range first {
			spoil(first[i])
			for j := range first {
				if (j > i) != bytes.Equal(first[j], want[j]) {
					t.Fatalf("sectors %d and %d of %d share their memory", i, j, count)
				}
			}
		}
		clear(first[:cap(first)])
		if !alike(byHand(9, data), want) || !alike(second, want) {
			t.Fatalf("Put of %d sectors shares its answer's memory", count)
		}
		spoil(data)
		if !alike(second, want) {
			t.Fatalf("Put of %d sectors keeps its data", count)
		}
	}
}

// TestTakeNewMemory: Take's data share no memory with the sectors, nor with another
// answer's.
func TestTakeNewMemory(t *testing.T) {
	for _, count := range counts() {
		data := sample(56*count, 8)
		sectors := byHand(9, data)
		were := copies(sectors)
		_, first, _ := chunk.Take(sectors)
		_, second, _ := chunk.Take(sectors)
		spoil(first)
		if !alike(sectors, were) || !bytes.Equal(second, data) {
			t.Fatalf("Take of %d sectors shares its answer's memory", count)
		}
		for _, sector := range sectors {
			spoil(sector)
		}
		clear(sectors)
		if !bytes.Equal(second, data) {
			t.Fatalf("Take of %d sectors keeps them", count)
		}
	}
}

// TestNothingKept: what was refused, or answered, ahead changes no later answer.
func TestNothingKept(t *testing.T) {
	data := sample(56*8, 1)
	three := byHand(3, data)
	for _, list := range lists() {
		chunk.Take(list)
		isChunk(t, "behind another Take", three, 3, data)
		chunk.Whole(list, 4)
		isPut(t, 3, data, three)
		notPut(t, 0, data, api.ErrArg)
		isPut(t, 3, data, three)
		notPut(t, 4, data[:57], api.ErrShort)
		isChunk(t, "behind a refused Put", three, 3, data)
	}
}
