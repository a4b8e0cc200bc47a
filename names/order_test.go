package names_test

import (
	"slices"
	"strings"
	"testing"

	"hayrick/names"
)

// order is Compare by the document's words: place by place of their runes, then byte
// by byte.
func order(a, b string) int {
	if by := placewise(runesOf(a), runesOf(b)); by != 0 {
		return by
	}
	return bytewise(a, b)
}

// bytewise is the order of the bytes of two texts.
func bytewise(a, b string) int { return placewise([]byte(a), []byte(b)) }

// placewise lets the first place tell at which two lists differ: the lesser is ahead,
// and a list that has none there.
func placewise[E rune | byte](x, y []E) int {
	for i := 0; i < len(x) || i < len(y); i++ {
		switch {
		case i >= len(x):
			return -1
		case i >= len(y):
			return 1
		case x[i] < y[i]:
			return -1
		case x[i] > y[i]:
			return 1
		}
	}
	return 0
}

// row has texts that are told apart by little: of the same runes and other bytes, one
// the beginning of the other, runes of unlike lengths.
func row() []string {
	return []string{"", "\x00", "\x00\x00", "a", "aa", "ab", "a\x00", "b", "\x7f", "\u0080", "é", "éa", "\u07ff", "\u0800", "a\u0800", "\ufffc", "\ufffd", "\ufffda", "\ufffd\ufffd", "\ufffe", "\uffff", "\U00010000", "\U0010ffff", "a\U00010000",
		"\x80", "\xff", "\xfe", "\xef", "\xef\xbf", "\xef\xbf\xbd\xff", "\xff\xef\xbf\xbd", "\xff\xff", "\xef\xff", "\xf0", "\xf0\x90\x80", "\xffa", "\xff\x00", "a\xff", "a\xffb", "a\ufffd", "a\ufffdb", "\xc0\x80", "\xed\xa0\x80", "\xf4\x90\x80\x80", "\x80\x80\x80", "\xe2\x82", "\xe2\x82a", "€", "€\xff"}
}

// TestCompare: P10.3, any two texts, both ways, and each with itself.
func TestCompare(t *testing.T) {
	list := append(row(), texts()...)
	for _, a := range list {
		for _, b := range list {
			if got := names.Compare(a, b); got != order(a, b) {
				t.Fatalf("Compare(%q, %q): %d, not %d", a, b, got, order(a, b))
			}
		}
		if got := names.Compare(a, strings.Clone(a)); got != 0 {
			t.Fatalf("Compare of %q with itself: %d", a, got)
		}
	}
}

// TestCompareTold: P10.3, with the answers written out: a text is ahead of those
// behind it.
func TestCompareTold(t *testing.T) {
	list := []string{"", "\x00", "a", "a\x00", "aa", "é", "éa", "\u0800", "\ufffc", "\x80", "\xef", "\ufffd", "\xff", "\x80\x00", "\ufffd\x00", "\ufffda", "\xffa", "\x80\xff", "\ufffd\ufffd", "\ufffd\xff", "\xff\x80", "\xff\ufffd", "\ufffe", "\U00010000"}
	for i, a := range list {
		for k, b := range list {
			want := 0
			if i < k {
				want = -1
			}
			if i > k {
				want = 1
			}
			if got := names.Compare(a, b); got != want {
				t.Errorf("Compare(%q, %q): %d, not %d", a, b, got, want)
			}
		}
	}
}

// TestCompareBeginnings: P10.3, a text that begins another one with more runes is ahead
// of it, whatever comes then.
func TestCompareBeginnings(t *testing.T) {
	for _, a := range texts() {
		for _, number := range ends() {
			b := a + form(number, shortest(number))
			if names.Compare(a, b) != -1 || names.Compare(b, a) != 1 {
				t.Fatalf("%q is not ahead of %q", a, b)
			}
		}
	}
}

// TestOrder: P10.5, any three texts: of two neither is ahead, or one is, and what is
// ahead of what is ahead of a third one is ahead of it.
func TestOrder(t *testing.T) {
	list := row()
	for _, a := range list {
		for _, b := range list {
			ab := names.Compare(a, b)
			if ab != -names.Compare(b, a) || (ab == 0) != (a == b) {
				t.Fatalf("Compare(%q, %q): %d, and turned round %d", a, b, ab, names.Compare(b, a))
			}
			for _, c := range list {
				if ab <= 0 && names.Compare(b, c) <= 0 && names.Compare(a, c) > 0 {
					t.Fatalf("%q, %q, %q stand in no order", a, b, c)
				}
			}
		}
	}
}

// TestOrderOfBytes: P10.5, texts without stray bytes stand as their bytes do.
func TestOrderOfBytes(t *testing.T) {
	list := slices.DeleteFunc(append(row(), texts()...), hasStray)
	for _, a := range list {
		for _, b := range list {
			if got := names.Compare(a, b); got != bytewise(a, b) {
				t.Fatalf("Compare(%q, %q): %d, and of their bytes %d", a, b, got, bytewise(a, b))
			}
		}
	}
	for number := 1; number <= 0x10ffff; number++ {
		a, b := form(number-1, max(shortest(number-1), 1)), form(number, max(shortest(number), 1))
		if shortest(number-1) > 0 && shortest(number) > 0 && names.Compare("x"+a+"z", "x"+b) != -1 {
			t.Fatalf("%x is not ahead of %x", number-1, number)
		}
	}
}
