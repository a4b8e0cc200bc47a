package inode_test

import (
	"math"
	"slices"
	"testing"

	"hayrick/api"
	"hayrick/inode"
)

// TestLimits: the tests write these numbers out.
func TestLimits(t *testing.T) {
	if api.Block != 112 || api.MaxInodes != 64 || api.MaxFile != 3808 || api.MaxLinks != 64 || api.MaxEntries != 64 {
		t.Fatal(api.Block, api.MaxInodes, api.MaxFile, api.MaxLinks, api.MaxEntries)
	}
	if api.Direct != 6 || api.File != 1 || api.Dir != 2 {
		t.Fatal(api.Direct, api.File, api.Dir)
	}
}

// counted is a file's blocks, one by one.
func counted(size int) int {
	blocks := 0
	for size > 0 {
		blocks++
		size -= 112
	}
	return blocks
}

// file is a file of that size without a pointer.
func file(size int) api.Inode { return api.Inode{Ino: 1, Kind: 1, Size: size, Links: 1} }

// directory is a directory of that size without a pointer.
func directory(size int) api.Inode { return api.Inode{Ino: 1, Kind: 2, Size: size, Links: 1} }

// filled is of those blocks, and points to all of them.
func filled(i api.Inode) api.Inode {
	for place := range i.Direct {
		if place < counted(i.Size) {
			i.Direct[place] = uint32(place + 1)
		}
	}
	if counted(i.Size) > 6 {
		i.Points = 7
	}
	return i
}

func TestBlocks(t *testing.T) {
	for size := -300; size <= 4*3808; size++ {
		if got := inode.Blocks(size); got != counted(size) {
			t.Errorf("Blocks of %d: %d", size, got)
		}
	}
	if inode.Blocks(3808) != 34 || inode.Blocks(3809) != 35 {
		t.Error("Blocks of MaxFile, and of one more")
	}
}

// TestBlocksEnds: no sum with Block wraps.
func TestBlocksEnds(t *testing.T) {
	for _, size := range []int{math.MinInt, math.MinInt + 1, math.MinInt + 111, math.MinInt + 112, math.MinInt32, -3808, -113, -112, -111, -1, 0} {
		if got := inode.Blocks(size); got != 0 {
			t.Errorf("Blocks of %d: %d", size, got)
		}
	}
	for back := range 300 {
		size := math.MaxInt - back
		want := size / 112
		if size%112 != 0 {
			want++
		}
		if got := inode.Blocks(size); got != want {
			t.Errorf("Blocks of %d: %d", size, got)
		}
	}
	for bit := 12; bit < 63; bit++ {
		size := 1 << bit
		want := size/112 + 1 // no power of 2 is some times 112
		if got := inode.Blocks(size); got != want {
			t.Errorf("Blocks of %d: %d", size, got)
		}
	}
}

// try holds May, and Put by it, against what is asked.
func try(t *testing.T, i api.Inode, want bool) {
	t.Helper()
	if inode.May(i) != want {
		t.Errorf("May of %+v: %v", i, !want)
	}
	b, err := inode.Put(i)
	if want && (err != api.OK || len(b) != 112) || !want && (err != api.ErrArg || len(b) != 0) {
		t.Errorf("Put of %+v: %v %v", i, b, err)
	}
}

// beyond are numbers that no field may be, at the ends of what an int may be, and such
// that their lowest bytes alone would be low.
func beyond(low int) []int {
	made := []int{math.MinInt, math.MinInt + low, math.MaxInt, -1, -low, -1 << 8, -1<<8 + low, -1<<16 + low, -1<<32 + low, -1<<48 + low}
	for bit := 16; bit < 63; bit++ {
		made = append(made, 1<<bit, 1<<bit+low)
	}
	return made
}

// bases are a file and a directory, with pointers and without.
func bases() []api.Inode {
	return []api.Inode{file(0), file(113), filled(file(113)), filled(file(3808)), directory(0), directory(28), filled(directory(28)), filled(directory(1792))}
}

func TestMayIno(t *testing.T) {
	for _, base := range bases() {
		try(t, base, true)
		for ino := -300; ino <= 700; ino++ {
			base.Ino = ino
			try(t, base, ino >= 1 && ino <= 64)
		}
		for _, ino := range beyond(5) {
			base.Ino = ino
			try(t, base, false)
		}
	}
}

func TestMayKind(t *testing.T) {
	for _, base := range bases() {
		if base.Size == 113 || base.Size == 3808 {
			continue // a directory may not be of that size
		}
		for kind := -300; kind <= 700; kind++ {
			base.Kind = kind
			try(t, base, kind == 1 || kind == 2)
		}
		for _, low := range []int{1, 2} {
			for _, kind := range beyond(low) {
				base.Kind = kind
				try(t, base, false)
			}
		}
	}
	for _, size := range []int{1, 27, 113, 1793, 1820, 3808} {
		other := file(size)
		try(t, other, true)
		other.Kind = 2
		try(t, other, false)
	}
}

func TestMayLinks(t *testing.T) {
	for _, base := range bases() {
		most := 64
		if base.Kind == 2 {
			most = 1
		}
		for links := -300; links <= 700; links++ {
			base.Links = links
			try(t, base, links >= 1 && links <= most)
		}
		for _, links := range beyond(1) {
			base.Links = links
			try(t, base, false)
		}
	}
}

func TestMaySize(t *testing.T) {
	for size := -600; size <= 2*3808; size++ {
		try(t, file(size), size >= 0 && size <= 3808)
		try(t, filled(file(size)), size >= 0 && size <= 3808)
		may := size >= 0 && size <= 1792 && size%28 == 0
		try(t, directory(size), may)
		try(t, filled(directory(size)), may)
	}
	for _, size := range append(beyond(0), beyond(28)...) {
		if size == 0 {
			continue
		}
		try(t, file(size), false)
		try(t, directory(size), false)
	}
}

// TestMayDirect: a pointer may stand where a block is, and nowhere behind.
func TestMayDirect(t *testing.T) {
	values := []uint32{1, 255, 256, 1 << 16, 1 << 24, 1 << 31, math.MaxUint32}
	for _, of := range []func(int) api.Inode{file, directory} {
		for size := 0; size <= 1792; size += 28 {
			for _, near := range []int{size - 1, size, size + 1} {
				if !inode.May(of(near)) {
					continue
				}
				for place := range 6 {
					for _, value := range values {
						alone := of(near)
						alone.Direct[place] = value
						try(t, alone, place < counted(near))
						among := filled(of(near))
						among.Direct[place] = value
						try(t, among, place < counted(near))
					}
				}
			}
		}
	}
}

// TestMayGaps: a pointer may be 0 wherever it stands.
func TestMayGaps(t *testing.T) {
	for mask := range 64 {
		for blocks := range 9 {
			i := file(blocks * 112)
			may := true
			for place := range 6 {
				if mask>>place&1 == 1 {
					i.Direct[place] = 9
					may = may && place < blocks
				}
			}
			try(t, i, may)
		}
	}
}

// TestMayPoints: of 5, 6 and 7 blocks, and of each other size.
func TestMayPoints(t *testing.T) {
	for size := range 3809 {
		for _, base := range []api.Inode{file(size), filled(file(size)), directory(size), filled(directory(size))} {
			if !inode.May(base) {
				continue
			}
			for _, value := range []uint32{1, 256, 1 << 16, 1 << 24, math.MaxUint32} {
				base.Points = value
				try(t, base, size > 672)
			}
			base.Points = 0
			try(t, base, true)
		}
	}
	for blocks, want := range map[int]bool{5: false, 6: false, 7: true} {
		i := file(blocks * 112)
		i.Points = 1
		try(t, i, want)
	}
}

// TestMayNone: an inode of noughts may not be.
func TestMayNone(t *testing.T) { try(t, api.Inode{}, false) }

// TestPointers: of all mixes of noughts and others, of inodes that may be or not.
func TestPointers(t *testing.T) {
	for mask := range 128 {
		for _, base := range []api.Inode{{}, file(0), file(672), file(3808), directory(1792), {Ino: -1, Kind: 9, Size: -5, Links: 99}} {
			var want []uint32
			for place := range 6 {
				if mask>>place&1 == 1 {
					base.Direct[place] = uint32(1000 - 10*place)
					want = append(want, uint32(1000-10*place))
				}
			}
			if mask>>6 == 1 {
				base.Points = math.MaxUint32
				want = append(want, math.MaxUint32)
			}
			if got := inode.Pointers(base); !slices.Equal(got, want) {
				t.Fatalf("Pointers of %+v: %v", base, got)
			}
		}
	}
}

// TestPointersTwice: a pointer that stands there twice is told twice.
func TestPointersTwice(t *testing.T) {
	i := file(3808)
	i.Direct = [6]uint32{7, 0, 7, 3, 0, 7}
	i.Points = 7
	if got := inode.Pointers(i); !slices.Equal(got, []uint32{7, 7, 3, 7, 7}) {
		t.Error(got)
	}
}

func TestExamples(t *testing.T) {
	for size, want := range map[int]int{0: 0, 1: 1, 112: 1, 113: 2, 3808: 34, -1: 0} {
		if got := inode.Blocks(size); got != want {
			t.Errorf("Blocks of %d: %d", size, got)
		}
	}
	i := api.Inode{Ino: 5, Kind: api.File, Size: 113, Links: 2, Direct: [6]uint32{258, 259}}
	b, err := inode.Put(i)
	if err != api.OK || !slices.Equal(b[:14], []byte{0, 5, 1, 2, 0, 0x71, 0, 0, 1, 2, 0, 0, 1, 3}) {
		t.Fatal(b, err)
	}
	b[111] = 1
	if got, err := inode.Take(b); err != api.ErrForm || got != (api.Inode{}) {
		t.Error(got, err)
	}
	if got, err := inode.Take(b[:111]); err != api.ErrShort || got != (api.Inode{}) {
		t.Error(got, err)
	}
	i.Direct[2] = 260
	try(t, i, false)
	try(t, directory(27), false)
	none := file(0)
	none.Links = 0
	try(t, none, false)
}
