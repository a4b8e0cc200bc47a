package names_test

import (
	"math"
	"slices"
	"testing"

	"hayrick/names"
)

// cut is Cut by the document's words: as many runes as there is room for.
func cut(s string, n int) string {
	made := ""
	for _, p := range parts(s) {
		if len(made)+len(p.bytes) > n {
			break
		}
		made += p.bytes
	}
	return made
}

// around are the ends that are tried: from below none to behind a text's own, and
// those of the numbers.
func around(s string) []int {
	list := []int{math.MinInt, math.MinInt + 1, -1 << 32, 1 << 32, math.MaxInt - 1, math.MaxInt}
	for n := -3; n <= min(len(s), 60)+3; n++ {
		list = append(list, n)
	}
	return append(list, len(s)-2, len(s)-1, len(s), len(s)+1)
}

// TestCut: P10.4, each text at each end.
func TestCut(t *testing.T) {
	for _, s := range append(row(), texts()...) {
		for _, n := range around(s) {
			if got := names.Cut(s, n); got != cut(s, n) {
				t.Fatalf("Cut(%q, %d): %q, not %q", s, n, got, cut(s, n))
			}
		}
	}
}

// TestCutTold: P10.4, with the answers written out: an end within a rune leaves it out
// whole, and of stray bytes each is a rune.
func TestCutTold(t *testing.T) {
	for _, row := range []struct {
		s    string
		want []string
	}{
		{"", []string{"", ""}},
		{"ab", []string{"", "a", "ab", "ab"}},
		{"éa", []string{"", "", "é", "éa", "éa"}},
		{"a€b", []string{"", "a", "a", "a", "a€", "a€b"}},
		{"\U0001f33e", []string{"", "", "", "", "\U0001f33e", "\U0001f33e"}},
		{"\ufffd\ufffd", []string{"", "", "", "\ufffd", "\ufffd", "\ufffd", "\ufffd\ufffd"}},
		{"\xe2\x82", []string{"", "\xe2", "\xe2\x82", "\xe2\x82"}},
		{"\xff\ufffd", []string{"", "\xff", "\xff", "\xff", "\xff\ufffd"}},
		{"a\xe2\x82é", []string{"", "a", "a\xe2", "a\xe2\x82", "a\xe2\x82", "a\xe2\x82é"}},
	} {
		for n, want := range row.want {
			if got := names.Cut(row.s, n); got != want {
				t.Errorf("Cut(%q, %d): %q, not %q", row.s, n, got, want)
			}
		}
		if got := names.Cut(row.s, -1); got != "" {
			t.Errorf("Cut(%q, -1): %q", row.s, got)
		}
	}
}

// TestCutRunes: P10.4, each rune is cut whole, and an end within it leaves it out.
func TestCutRunes(t *testing.T) {
	for number := range 0x110000 {
		length := shortest(number)
		if length == 0 {
			continue
		}
		s := "a" + form(number, length) + "b"
		for n := 1; n <= length; n++ {
			if got := names.Cut(s, n); got != "a" {
				t.Fatalf("Cut(%q, %d): %q", s, n, got)
			}
		}
		if got := names.Cut(s, length+1); got != s[:length+1] {
			t.Fatalf("Cut(%q, %d): %q", s, length+1, got)
		}
	}
}

// TestBeginning: P10.6, a beginning has just the first runes of the text, and stray
// bytes only where it has.
func TestBeginning(t *testing.T) {
	for _, s := range append(row(), texts()...) {
		whole := names.Runes(s)
		for _, n := range around(s) {
			head := names.Cut(s, n)
			its := names.Runes(head)
			if len(its) > len(whole) || !slices.Equal(its, whole[:len(its)]) {
				t.Fatalf("the runes of Cut(%q, %d) are %x, of the text %x", s, n, its, whole)
			}
			if names.Whole(s) && !names.Whole(head) {
				t.Fatalf("Cut(%q, %d) has a stray byte", s, n)
			}
		}
	}
}

// TestBeginningOfName: P10.6, a beginning of a name is a name, but for those three.
func TestBeginningOfName(t *testing.T) {
	list := append(texts(), ". a", ".é", "..é", "...\ufffd", "\u0080\u0081", "..a/", "ab.", "\ufffd..")
	for _, s := range list {
		if !names.Valid(s) {
			continue
		}
		for _, n := range around(s) {
			head := names.Cut(s, n)
			want := head != "" && head != "." && head != ".."
			if got := names.Valid(head); got != want {
				t.Fatalf("Valid of Cut(%q, %d), %q: %v", s, n, head, got)
			}
		}
	}
}
