package utf

import (
	"strings"
	"testing"

	"hopscotch/api"
)

// told tells, in the chapter's own words, whether a number is a character's.
func told(c rune) bool {
	switch {
	case c == 0x9, c == 0xA, c == 0xD:
		return true
	case c >= 0x20 && c <= 0xD7FF:
		return true
	case c >= 0xE000 && c <= 0xFFFD:
		return true
	}
	return c >= 0x10000 && c <= 0x10FFFF
}

// spelt tells a number's bytes as the chapter reckons them, character or not.
func spelt(c rune) string {
	six := func(shift int) byte { return byte(0x80 | c>>shift&0x3F) }
	switch {
	case c <= 0x7F:
		return string([]byte{byte(c)})
	case c <= 0x7FF:
		return string([]byte{byte(0xC0 + c>>6), six(0)})
	case c <= 0xFFFF:
		return string([]byte{byte(0xE0 + c>>12), six(6), six(0)})
	}
	return string([]byte{byte(0xF0 + c>>18), six(12), six(6), six(0)})
}

// sought finds the character with whose bytes s begins by trying each length; 0, 0 if there is none.
func sought(s string) (rune, int) {
	lead := [...]rune{0x7F, 0x1F, 0xF, 0x7}
	for n := 1; n <= 4 && n <= len(s); n++ {
		c := rune(s[0]) & lead[n-1]
		for _, b := range []byte(s[1:n]) {
			c = c<<6 | rune(b&0x3F)
		}
		if told(c) && spelt(c) == s[:n] {
			return c, n
		}
	}
	return 0, 0
}

// edges are the bounds of the characters and of their bytes' lengths, each with its neighbours.
var edges = []rune{0x9, 0xA, 0xD, 0x20, 0x7E, 0x7F, 0x80, 0x7FF, 0x800, 0xFFF, 0x1000, 0xD7FF, 0xE000, 0xFFFC, 0xFFFD, 0x10000, 0x1FFFE, 0x1FFFF, 0x3FFFF, 0x40000, 0xFFFFF, 0x100000, 0x10FFFF}

// wrong are texts that begin with no character, each with its cause.
var wrong = map[string]string{
	"nought": "\x00", "no white": "\x08", "no white, 11": "\x0b", "no white, 12": "\x0c", "no white, 14": "\x0e", "below 20": "\x1f",
	"a byte that goes on": "\x80", "the last byte that goes on": "\xbf",
	"nought, in two bytes": "\xc0\x80", "7F, in two bytes": "\xc1\xbf", "7FF, in three bytes": "\xe0\x9f\xbf", "FFFF, in four bytes": "\xf0\x8f\xbf\xbf",
	"D800": "\xed\xa0\x80", "DBFF": "\xed\xaf\xbf", "DC00": "\xed\xb0\x80", "DFFF": "\xed\xbf\xbf", "a pair of D83D and DE00": "\xed\xa0\xbd\xed\xb8\x80",
	"FFFE": "\xef\xbf\xbe", "FFFF": "\xef\xbf\xbf",
	"110000": "\xf4\x90\x80\x80", "140000": "\xf5\x80\x80\x80", "in five bytes": "\xf8\x88\x80\x80\x80", "FE": "\xfe", "FF": "\xff",
	"one of two": "\xc3", "one of three": "\xe2", "two of three": "\xe2\x82", "two of three of FFFD": "\xef\xbf", "three of four": "\xf0\x9f\x98",
	"a letter within two": "\xc3a", "a letter within three": "\xe2\x82a", "a letter within four": "\xf0\x9f\x98a", "a beginning within three": "\xe2\xe2\x82\xac",
}

// P1.1

func TestNextOfEveryCharacter(t *testing.T) {
	for c := rune(0); c <= 0x1FFFFF; c++ {
		s := spelt(c)
		got, n, e := Next(s)
		if told(c) && (got != c || n != len(s) || e != api.OK) {
			t.Fatalf("Next(%x), a character: %x, %d, %d", s, got, n, e)
		}
		if !told(c) && (got != 0 || n != 0 || e != api.ErrUTF) {
			t.Fatalf("Next(%x), no character: %x, %d, %d", s, got, n, e)
		}
	}
}

func TestNextOfTheEmptyText(t *testing.T) {
	if c, n, e := Next(""); c != 0 || n != 0 || e != api.OK {
		t.Errorf("Next of the empty text: %x, %d, %d", c, n, e)
	}
}

func TestNextOfNoCharacter(t *testing.T) {
	for why, s := range wrong {
		for _, behind := range []string{"", "a", "\u20ac", "\xff"} {
			if c, n, e := Next(s + behind); c != 0 || n != 0 || e != api.ErrUTF {
				t.Errorf("%s: Next(%x): %x, %d, %d", why, s+behind, c, n, e)
			}
		}
	}
}

// Bytes at which something changes; rows of them are mostly wrong in some way.
const turns = "\x00\x08\x09\x0a\x0d\x1f\x20\x61\x7f\x80\x8f\x90\x9f\xa0\xb0\xbd\xbe\xbf\xc0\xc1\xc2\xdf\xe0\xe1\xec\xed\xee\xef\xf0\xf1\xf3\xf4\xf5\xf8\xff"

func TestNextOfAnyBytes(t *testing.T) {
	var try func(s string)
	try = func(s string) {
		c, n := sought(s)
		got, length, e := Next(s)
		if got != c || length != n || (e == api.OK) != (n > 0 || s == "") || e != api.OK && e != api.ErrUTF {
			t.Fatalf("Next(%x): %x, %d, %d; sought: %x, %d", s, got, length, e, c, n)
		}
		if len(s) < 4 {
			for i := range len(turns) {
				try(s + turns[i:i+1])
			}
		}
	}
	try("")
}

// P1.2

func TestPutOfEveryNumber(t *testing.T) {
	for c := rune(-0x1000); c <= 0x200000; c++ {
		want := ""
		if told(c) {
			want = spelt(c)
		}
		if s := Put(c); s != want {
			t.Fatalf("Put(%x): %x, not %x", c, s, want)
		}
	}
}

func TestPutOfHugeNumbers(t *testing.T) {
	for _, c := range []rune{-1 << 31, -1<<31 + 'a', -0x10FFFF, -'a', 1<<31 - 1, 1<<30 + 'a', 1<<21 + 'a', 1<<24 + 'a'} {
		if s := Put(c); s != "" {
			t.Errorf("Put(%x): %x", c, s)
		}
	}
}

// P1.3

func TestValidAndCount(t *testing.T) {
	for _, x := range []struct {
		s         string
		at, count int
		e         api.Errno
	}{
		{"", 0, 0, api.OK},
		{"a", 0, 1, api.OK},
		{"a\tb\r\n", 0, 5, api.OK},
		{"a\u00e9\u20ac\U0001f600", 0, 4, api.OK},
		{"\ufffd", 0, 1, api.OK},
		{"\ufffd\ufffda\ufffd", 0, 4, api.OK},
		{"\ufeffa", 0, 2, api.OK},
		{"\x7f\u0080\u009f", 0, 3, api.OK},
		{"ab\xffc", 2, 2, api.ErrUTF},
		{"\xff", 0, 0, api.ErrUTF},
		{"\x00a", 0, 0, api.ErrUTF},
		{"a\x00", 1, 1, api.ErrUTF},
		{"\u20ac\u20ac\xe2\x82", 6, 2, api.ErrUTF},
		{"\ufffd\xef\xbf", 3, 1, api.ErrUTF},
		{"\xef\xbf\ufffd", 0, 0, api.ErrUTF},
		{"a\x80\ufffd", 1, 1, api.ErrUTF},
		{"\U0001f600\ufffe\u20ac", 4, 1, api.ErrUTF},
		{"a\xff\xffb\xff", 1, 1, api.ErrUTF},
	} {
		if at, e := Valid(x.s); at != x.at || e != x.e {
			t.Errorf("Valid(%x): %d, %d", x.s, at, e)
		}
		if n := Count(x.s); n != x.count {
			t.Errorf("Count(%x): %d", x.s, n)
		}
	}
}

func TestValidAndCountOfWrongTexts(t *testing.T) {
	for why, s := range wrong {
		for _, ahead := range []string{"", "a", "\ufffd\n", "\u20ac\U0010ffff\u00e9"} {
			if at, e := Valid(ahead + s + "a"); at != len(ahead) || e != api.ErrUTF {
				t.Errorf("%s: Valid(%x): %d, %d", why, ahead+s+"a", at, e)
			}
			if n := Count(ahead + s + "a"); n != len([]rune(ahead)) {
				t.Errorf("%s: Count(%x): %d", why, ahead+s+"a", n)
			}
		}
	}
}

func TestValidAndCountOfLongTexts(t *testing.T) {
	long := strings.Repeat("a\u20ac\n\U0001f600", 1<<18)
	if at, e := Valid(long); at != 0 || e != api.OK {
		t.Errorf("Valid of a long text: %d, %d", at, e)
	}
	if n := Count(long); n != 1<<20 {
		t.Errorf("Count of a long text: %d", n)
	}
	if at, e := Valid(long + "\xc3"); at != len(long) || e != api.ErrUTF {
		t.Errorf("Valid of a long text with a wrong end: %d, %d", at, e)
	}
	if n := Count(long + "\xc3"); n != 1<<20 {
		t.Errorf("Count of a long text with a wrong end: %d", n)
	}
}

// Valid and Count tell what Next tells, again and again, up to the first place where it tells none.
func TestValidAndCountByNext(t *testing.T) {
	var try func(s string)
	try = func(s string) {
		at, count := 0, 0
		c, n, e := Next(s)
		for n > 0 {
			at, count = at+n, count+1
			c, n, e = Next(s[at:])
		}
		if e == api.OK {
			at = 0
		}
		if place, f := Valid(s); place != at || f != e || Count(s) != count {
			t.Fatalf("%x: Valid %d, %d, Count %d; by Next, at last %x: %d, %d, %d", s, place, f, Count(s), c, at, e, count)
		}
		if len(s) < 4 {
			for i := range len(turns) {
				try(s + turns[i:i+1])
			}
		}
	}
	try("")
}

// P1.4

func TestWhatIsPutIsNext(t *testing.T) {
	for c := rune(0); c <= 0x10FFFF; c++ {
		s := Put(c)
		for _, behind := range []string{"", "a", "\x80", "\xbf\xbf", "\x00", "\xff", "\u20ac", s} {
			if got, n, e := Next(s + behind); s != "" && (got != c || n != len(s) || e != api.OK) {
				t.Fatalf("Next(%x) behind Put(%x): %x, %d, %d", s+behind, c, got, n, e)
			}
		}
	}
}

// Bytes of characters rise with their numbers, so that one that begins another one would stand just ahead of it,
// or ahead of others that it begins as well.
func TestNoBytesBeginOthers(t *testing.T) {
	last, count := "", 0
	for c := rune(0); c <= 0x10FFFF; c++ {
		s := Put(c)
		if s == "" {
			continue
		}
		if count > 0 && (s <= last || strings.HasPrefix(s, last)) {
			t.Fatalf("Put(%x) is %x, the one ahead of it has %x", c, s, last)
		}
		last, count = s, count+1
	}
	if want := 3 + 0xD7FF - 0x20 + 1 + 0xFFFD - 0xE000 + 1 + 0x100000; count != want {
		t.Errorf("%d characters, not %d", count, want)
	}
}

func TestValidTextsOneBehindTheOther(t *testing.T) {
	texts := []string{"", "ab", "\t\r\n", "\ufffd"}
	for _, c := range edges {
		texts = append(texts, Put(c), "x"+Put(c), Put(c)+Put(c))
	}
	for _, a := range texts {
		for _, b := range texts {
			if at, e := Valid(a + b); at != 0 || e != api.OK || Count(a+b) != Count(a)+Count(b) {
				t.Errorf("Valid(%x), Count: %d, %d, %d", a+b, at, e, Count(a+b))
			}
		}
		for why, s := range wrong {
			if at, e := Valid(a + s); at != len(a) || e != api.ErrUTF || Count(a+s) != Count(a) {
				t.Errorf("%s: Valid(%x), Count: %d, %d, %d", why, a+s, at, e, Count(a+s))
			}
		}
	}
}
