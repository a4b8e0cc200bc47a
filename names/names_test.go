package names_test

import (
	"slices"
	"strings"
	"testing"

	"hayrick/names"
)

// form is the UTF-8 form of a number with that many bytes, whether or not it may have
// it: the tests make by it the forms that no rune has, too.
func form(number, length int) string {
	if length == 1 {
		return string([]byte{byte(number)})
	}
	made := make([]byte, length)
	for i := length - 1; i > 0; i-- {
		made[i] = byte(0x80 | number&0x3f)
		number >>= 6
	}
	heads := [5]int{0, 0, 0xc0, 0xe0, 0xf0}
	made[0] = byte(heads[length] | number)
	return string(made)
}

// shortest is of how many bytes the form of a rune is; 0 of a number that is none.
func shortest(number int) int {
	switch {
	case number < 0 || number > 0x10ffff || number >= 0xd800 && number <= 0xdfff:
		return 0
	case number <= 0x7f:
		return 1
	case number <= 0x7ff:
		return 2
	case number <= 0xffff:
		return 3
	}
	return 4
}

// numberOf is what that many bytes would be the form of, if they were one.
func numberOf(b string) int {
	masks := [5]int{0, 0x7f, 0x1f, 0x0f, 0x07}
	number := int(b[0]) & masks[len(b)]
	for i := 1; i < len(b); i++ {
		number = number<<6 | int(b[i])&0x3f
	}
	return number
}

// part is a rune as the document reads it, and its bytes.
type part struct {
	its   rune
	bytes string
	stray bool
}

// parts read a text by the document's words alone: where bytes stand that are the form
// of a rune, that rune; else a stray byte.
func parts(s string) []part {
	var list []part
	for s != "" {
		next := part{0xfffd, s[:1], true}
		for length := 1; length <= 4 && length <= len(s); length++ {
			number := numberOf(s[:length])
			if shortest(number) == length && form(number, length) == s[:length] {
				next = part{rune(number), s[:length], false}
			}
		}
		list = append(list, next)
		s = s[len(next.bytes):]
	}
	return list
}

// runesOf are the runes of a text by the document's words.
func runesOf(s string) []rune {
	var list []rune
	for _, p := range parts(s) {
		list = append(list, p.its)
	}
	return list
}

// hasStray tells by the document's words whether a text has a stray byte.
func hasStray(s string) bool {
	return slices.ContainsFunc(parts(s), func(p part) bool { return p.stray })
}

// ends are the runes around where a length of forms ends, where the surrogates do, and
// those that names may not have.
func ends() []int {
	return []int{0, 1, 0x1f, 0x20, '.', '/', '0', 'a', 0x7e, 0x7f, 0x80, 0xff, 0x7ff, 0x800, 0xfff, 0x1000, 0xd7ff, 0xe000, 0xfffc, 0xfffd, 0xfffe, 0xffff, 0x10000, 0x3ffff, 0x10fffe, 0x10ffff}
}

// strays are bytes of which none is of a rune: that begin none, beginnings that are
// cut off, forms that are not the shortest one, surrogates, numbers above 10ffff.
func strays() []string {
	list := []string{"\x80", "\xbf", "\xc0", "\xc1", "\xf5", "\xf8", "\xfc", "\xfe", "\xff", "\x80\x80", "\xff\xff",
		"\xc3", "\xdf", "\xe2", "\xe2\x82", "\xef", "\xef\xbf", "\xf0", "\xf0\x90", "\xf0\x90\x80", "\xf4\x8f\xbf", "\xc3\xc3", "\xe2\x82\xe2\x82"}
	for _, number := range []int{0, '/', '.', 'a', 0x7f} {
		list = append(list, form(number, 2))
	}
	for _, number := range []int{0, '/', 0x7f, 0x80, 0x7ff} {
		list = append(list, form(number, 3))
	}
	for _, number := range []int{0, 'a', 0x7ff, 0x800, 0xd800, 0xfffd, 0xffff, 0x110000, 0x13ffff, 0x1fffff} {
		list = append(list, form(number, 4))
	}
	for _, number := range []int{0xd800, 0xdbff, 0xdc00, 0xdfff} {
		list = append(list, form(number, 3))
	}
	return append(list, form(0xd800, 3)+form(0xdc00, 3))
}

// texts are of no byte, of one rune, of a few, with stray bytes and without, ahead, in
// the midst and at the end, and of as many bytes as a name may have, and around.
func texts() []string {
	list := []string{"", ".", "..", "...", "....", ".a", "..a", "a.", "a..", "a b", "a/b", "ab", "abc", "b", "né", "n\u0301e", "€€", "\ufffda", "a\ufffd", "\ufffd\ufffd"}
	for _, number := range ends() {
		its := form(number, shortest(number))
		list = append(list, its, "a"+its, its+"a", its+its)
	}
	for _, its := range strays() {
		list = append(list, its, "a"+its, its+"a", "é"+its+"é", its+"\ufffd", "\ufffd"+its)
	}
	for _, length := range []int{23, 24, 25, 26, 48, 255, 256, 257, 1000} {
		list = append(list, filled("a", length), filled("é", length), filled("€", length), filled("\U0001f33e", length), filled("\xff", length), filled("\ufffd\xef\xbf", length))
	}
	return list
}

// filled is a text of that many bytes, of which the last ones may be letters.
func filled(with string, length int) string {
	s := strings.Repeat(with, length/len(with))
	return s + strings.Repeat("z", length-len(s))
}

// read fails, if Runes and Whole of a text are not as the document's words tell.
func read(t *testing.T, s string) {
	t.Helper()
	if got := names.Runes(s); !slices.Equal(got, runesOf(s)) {
		t.Fatalf("Runes(%q): %x, not %x", s, got, runesOf(s))
	}
	if got := names.Whole(s); got == hasStray(s) {
		t.Fatalf("Whole(%q): %v", s, got)
	}
}

// TestExamples: the rows of the chapter's Examples.
func TestExamples(t *testing.T) {
	valid := map[string]bool{"a b": true, "né": true, "..": false, "...": true, "a/b": false, "a\xff": false, "\xef\xbf\xbd": true, "\x7f": false,
		"abcdefghijklmnopqrstuvwx": true, "abcdefghijklmnopqrstuvwxy": false}
	for name, want := range valid {
		if got := names.Valid(name); got != want {
			t.Errorf("Valid(%q): %v", name, got)
		}
	}
	if got := names.Runes("é\xff"); !slices.Equal(got, []rune{0xe9, 0xfffd}) || names.Whole("é\xff") {
		t.Errorf("Runes: %x, and Whole: %v", got, names.Whole("é\xff"))
	}
	for _, row := range []struct {
		a, b string
		want int
	}{{"a", "b", -1}, {"a\xff", "a\xef\xbf\xbd", 1}, {"ab", "a", 1}} {
		if got := names.Compare(row.a, row.b); got != row.want {
			t.Errorf("Compare(%q, %q): %d", row.a, row.b, got)
		}
	}
	for _, row := range []struct {
		n    int
		want string
	}{{2, "n"}, {3, "né"}, {-1, ""}} {
		if got := names.Cut("né", row.n); got != row.want {
			t.Errorf("Cut(né, %d): %q", row.n, got)
		}
	}
}

// TestRead: P10.1, of the texts that the edges make.
func TestRead(t *testing.T) {
	for _, s := range texts() {
		read(t, s)
	}
	for _, s := range strays() {
		for _, r := range names.Runes(s) {
			if r != 0xfffd || names.Whole(s) {
				t.Fatalf("%q has the rune %x, or is whole", s, r)
			}
		}
		if got := names.Runes(s); len(got) != len(s) {
			t.Fatalf("%q has the runes %x, not one a byte", s, got)
		}
	}
}

// TestRunes: P10.1, each rune alone and between others, and each number that has a
// form and is no rune.
func TestRunes(t *testing.T) {
	for number := range 0x200000 {
		length := shortest(number)
		if length == 0 {
			continue
		}
		s := "a" + form(number, length) + "é"
		if got := names.Runes(s); len(got) != 3 || got[0] != 'a' || int(got[1]) != number || got[2] != 'é' || !names.Whole(s) {
			t.Fatalf("%x: Runes: %x, Whole: %v", number, got, names.Whole(s))
		}
	}
	for _, bounds := range [][3]int{{0, 0x7f, 2}, {0, 0x7ff, 3}, {0xd800, 0xdfff, 3}, {0, 0xffff, 4}, {0x110000, 0x1fffff, 4}} {
		for number := bounds[0]; number <= bounds[1]; number++ {
			s := form(number, bounds[2])
			if got := names.Runes(s); len(got) != bounds[2] || got[0] != 0xfffd || names.Whole(s) {
				t.Fatalf("%x of %d bytes: Runes: %x, Whole: %v", number, bounds[2], got, names.Whole(s))
			}
		}
	}
}

// TestBytes: P10.1, all texts of one byte and of two, and those of three and four whose
// bytes are around where a kind of bytes ends.
func TestBytes(t *testing.T) {
	for pair := range 1 << 16 {
		read(t, string([]byte{byte(pair)}))
		read(t, string([]byte{byte(pair >> 8), byte(pair)}))
	}
	edges := []byte{0, '/', 0x7f, 0x80, 0x8f, 0x90, 0x9f, 0xa0, 0xbd, 0xbf, 0xc0, 0xc1, 0xc2, 0xdf, 0xe0, 0xe1, 0xec, 0xed, 0xee, 0xef, 0xf0, 0xf1, 0xf3, 0xf4, 0xf5, 0xff}
	for _, a := range edges {
		for _, b := range edges {
			for _, c := range edges {
				read(t, string([]byte{a, b, c}))
				for _, d := range edges {
					read(t, string([]byte{a, b, c, d}))
				}
			}
		}
	}
}

// TestNewMemory: what Runes answers is the caller's own, the room behind it too.
func TestNewMemory(t *testing.T) {
	for _, s := range texts() {
		first := names.Runes(s)
		second := names.Runes(s)
		for i := range first[:cap(first)] {
			first[:cap(first)][i] = -1
		}
		if !slices.Equal(second, runesOf(s)) || !slices.Equal(names.Runes(s), runesOf(s)) {
			t.Fatalf("Runes(%q) is memory that is answered twice", s)
		}
	}
}
