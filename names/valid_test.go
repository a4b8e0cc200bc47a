package names_test

import (
	"strings"
	"testing"

	"hayrick/names"
)

// may tells by the document's words whether a text may be a name.
func may(s string) bool {
	if len(s) < 1 || len(s) > 24 || s == "." || s == ".." {
		return false
	}
	for _, p := range parts(s) {
		if p.stray || p.its == '/' || p.its < 32 || p.its == 127 {
			return false
		}
	}
	return true
}

// judged fails, if Valid does not tell of a text what the document's words tell.
func judged(t *testing.T, s string) {
	t.Helper()
	if got := names.Valid(s); got != may(s) {
		t.Fatalf("Valid(%q): %v", s, got)
	}
}

// TestValidBytes: P10.2, each byte alone, ahead of others, in their midst and behind
// them.
func TestValidBytes(t *testing.T) {
	for number := range 256 {
		its := form(number, 1)
		want := number >= 32 && number < 127 && number != '/'
		for _, s := range []string{"a" + its + "b", its + "ab", "ab" + its, "..." + its, its + its + its} {
			if got := names.Valid(s); got != want {
				t.Fatalf("Valid(%q): %v", s, got)
			}
		}
		if got := names.Valid(its); got != (want && number != '.') {
			t.Fatalf("Valid(%q): %v", its, got)
		}
	}
}

// TestValidRunes: P10.2, each rune of more than a byte may stand in a name, those from
// 128 on that steer a terminal and fffd among them.
func TestValidRunes(t *testing.T) {
	for number := 128; number <= 0x10ffff; number++ {
		length := shortest(number)
		if length > 0 && !(names.Valid(form(number, length)) && names.Valid("a"+form(number, length)+"b")) {
			t.Fatalf("%x may not stand in a name", number)
		}
	}
}

// TestValidDots: P10.2, only one dot and two are no names.
func TestValidDots(t *testing.T) {
	for count := range 30 {
		if got := names.Valid(strings.Repeat(".", count)); got != (count >= 3 && count <= 24) {
			t.Errorf("Valid of %d dots: %v", count, got)
		}
	}
	for _, s := range []string{".a", "..a", "a.", "a..", ". ", " .", ".. ", ".é", "..\ufffd", "a.b"} {
		if !names.Valid(s) {
			t.Errorf("Valid(%q): false", s)
		}
	}
	for _, s := range []string{"./", "../", "/.", "/..", ".\x00", "..\x00", ".\xff", "..\xff", "/", "//"} {
		if names.Valid(s) {
			t.Errorf("Valid(%q): true", s)
		}
	}
}

// TestValidLengths: P10.2, it is bytes that are counted, not runes.
func TestValidLengths(t *testing.T) {
	for _, with := range []string{"a", "é", "€", "\U0001f33e", "\ufffd"} {
		for length := range 100 {
			s := filled(with, length)
			if got := names.Valid(s); got != (length >= 1 && length <= 24) {
				t.Fatalf("Valid of %d bytes, %q: %v", length, s, got)
			}
		}
	}
}

// TestValidTexts: P10.2, of the texts that the edges make, also where a name's first
// or last rune alone may not be.
func TestValidTexts(t *testing.T) {
	for _, s := range texts() {
		judged(t, s)
		judged(t, "a"+s)
		judged(t, s+"a")
		judged(t, "abcdefghij"+s+"klmno")
	}
	for _, s := range strays() {
		if names.Valid(s) || names.Valid("a"+s) || names.Valid(s+"a") || names.Valid("\ufffd"+s) {
			t.Fatalf("a name may have the bytes %q", s)
		}
	}
}
