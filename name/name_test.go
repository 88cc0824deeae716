package name

import (
	"regexp"
	"slices"
	"strings"
	"testing"
)

// The chapter's words for a plain name and for a name, but for their lengths.
var (
	plainWords = regexp.MustCompile(`\A[A-Za-z_][A-Za-z_0-9.\-]*\z`)
	nameWords  = regexp.MustCompile(`\A(?:([A-Za-z_][A-Za-z_0-9.\-]*):)?([A-Za-z_][A-Za-z_0-9.\-]*)\z`)
)

// The chapter's bound, as its own number.
const most = 64

func toldPlain(s string) bool { return len(s) <= most && plainWords.MatchString(s) }

func toldSplit(s string) (prefix, local string, ok bool) {
	parts := nameWords.FindStringSubmatch(s)
	if parts == nil || len(s) > most {
		return "", "", false
	}
	return parts[1], parts[2], true
}

// toldBegin tries each length, the longest one first, and beyond the bound as well.
func toldBegin(s string) int {
	for n := min(len(s), 2*most); n > 0; n-- {
		if _, _, ok := toldSplit(s[:n]); ok {
			return n
		}
	}
	return 0
}

// check holds all calls against what the chapter's words tell of s.
func check(t *testing.T, s string) {
	t.Helper()
	prefix, local, ok := toldSplit(s)
	if p, l, o := Split(s); p != prefix || l != local || o != ok {
		t.Fatalf("Split(%q): %q, %q, %t; told: %q, %q, %t", s, p, l, o, prefix, local, ok)
	}
	if is := Is(s); is != ok {
		t.Fatalf("Is(%q): %t", s, is)
	}
	if plain := Plain(s); plain != toldPlain(s) {
		t.Fatalf("Plain(%q): %t", s, plain)
	}
	if n := Begin(s); n != toldBegin(s) {
		t.Fatalf("Begin(%q): %d; told: %d", s, n, toldBegin(s))
	}
}

// row is a plain name's beginning, n bytes long, of all the bytes that a plain name may have.
func row(n int) string {
	const all = "_aZ9-.zA0bY8cX7dW6eV5fU4gT3hS2iR1jQkPlOmNnMoLpKqJrIsHtGuFvEwDxCyB"
	return strings.Repeat(all, n/len(all)+1)[:n]
}

// names are texts with their parts that are names.
var names = []struct{ s, prefix, local string }{
	{"name", "", "name"}, {"a", "", "a"}, {"_", "", "_"}, {"Z", "", "Z"}, {"_9", "", "_9"}, {"a-", "", "a-"}, {"a.", "", "a."}, {"a-b.c_9", "", "a-b.c_9"},
	{"xmi:id", "xmi", "id"}, {"a:b", "a", "b"}, {"_:_", "_", "_"}, {"a.:b-", "a.", "b-"}, {"A9:Z0", "A9", "Z0"}, {"xml:xml", "xml", "xml"},
	{row(most - 1), "", row(most - 1)}, {row(most), "", row(most)},
	{row(31) + ":" + row(32), row(31), row(32)}, {row(32) + ":" + row(31), row(32), row(31)}, {row(31) + ":" + row(31), row(31), row(31)},
	{row(62) + ":a", row(62), "a"}, {"a:" + row(62), "a", row(62)},
}

// wrong are texts that are no name, each with its cause, and how many bytes of it are one.
var wrong = map[string]struct {
	s     string
	begin int
}{
	"nothing": {"", 0}, "a colon": {":", 0}, "two colons": {"::", 0}, "three names": {"a:b:c", 3}, "two colons between": {"a::b", 1},
	"no prefix": {":a", 0}, "no local part": {"a:", 1}, "a colon behind": {"a:b:", 3}, "a colon ahead": {":a:b", 0},
	"a digit ahead": {"1a", 0}, "a digit": {"9", 0}, "a hyphen ahead": {"-a", 0}, "a full stop ahead": {".a", 0}, "a full stop": {".", 0},
	"a digit ahead of the local part": {"a:1", 1}, "a hyphen ahead of the local part": {"a:-b", 1}, "a full stop ahead of the local part": {"a:.b", 1},
	"a digit ahead of the prefix": {"1:a", 0}, "a hyphen ahead of the prefix": {"-:a", 0},
	"a blank": {" ", 0}, "a blank ahead": {" a", 0}, "a blank behind": {"a ", 1}, "a blank between": {"a b", 1}, "a blank behind the colon": {"a: b", 1}, "a blank ahead of the colon": {"a :b", 1},
	"an end of line behind": {"a\n", 1}, "an end of line behind two": {"a:b\n", 3}, "nought": {"a\x00", 1}, "nought ahead": {"\x00a", 0},
	"a letter of two bytes": {"\u00e4", 0}, "a letter of two bytes within": {"b\u00e4r", 1}, "no character": {"a\xffb", 1}, "a letter with its highest bit": {"\xe1", 0},
	"=": {"xmi:id=\"3\"", 6}, ">": {"a>", 1}, "/": {"a/b", 1}, "+": {"a+", 1}, ",": {"a,", 1}, "@": {"a@", 1}, "[": {"a[", 1}, "`": {"a`", 1}, "{": {"a{", 1}, "^": {"a^", 1}, ";": {"a;", 1},
	"one byte too many":                      {row(most + 1), most},
	"many bytes too many":                    {row(100 * most), most},
	"one too many, with a prefix":            {row(32) + ":" + row(32), most},
	"both parts within, the whole not":       {row(most) + ":" + row(most), most},
	"a colon at the bound":                   {row(most) + ":a", most},
	"a colon just within the bound":          {row(most-1) + ":a", most - 1},
	"a local part that is one byte too long": {"a:" + row(63), most},
	"a prefix that is one byte too long":     {row(most-1) + ":b", most - 1},
	"a colon at the bound, with nothing":     {row(most-1) + ":", most - 1},
	"a digit just within the bound":          {row(62) + ":1", 62},
	"a third name just within the bound":     {row(31) + ":" + row(30) + ":a", 62},
}

// P2.1, P2.2

func TestNames(t *testing.T) {
	for _, x := range names {
		if p, l, ok := Split(x.s); p != x.prefix || l != x.local || !ok {
			t.Errorf("Split(%q): %q, %q, %t", x.s, p, l, ok)
		}
		if !Is(x.s) {
			t.Errorf("Is(%q): false", x.s)
		}
		if plain := Plain(x.s); plain != (x.prefix == "") {
			t.Errorf("Plain(%q): %t", x.s, plain)
		}
	}
}

func TestNoNames(t *testing.T) {
	for why, x := range wrong {
		if p, l, ok := Split(x.s); p != "" || l != "" || ok {
			t.Errorf("%s: Split(%q): %q, %q, %t", why, x.s, p, l, ok)
		}
		if Is(x.s) {
			t.Errorf("%s: Is(%q): true", why, x.s)
		}
		if Plain(x.s) {
			t.Errorf("%s: Plain(%q): true", why, x.s)
		}
	}
}

// P2.3

func TestBegin(t *testing.T) {
	for _, x := range names {
		if n := Begin(x.s); n != len(x.s) {
			t.Errorf("Begin(%q): %d", x.s, n)
		}
	}
	for why, x := range wrong {
		if n := Begin(x.s); n != x.begin {
			t.Errorf("%s: Begin(%q): %d, not %d", why, x.s, n, x.begin)
		}
	}
}

func TestBeginOfALongText(t *testing.T) {
	long := strings.Repeat("a", 1<<24)
	for _, s := range []string{long, long + ":", "a:" + long, long[:most] + ":" + long} {
		if n := Begin(s); n != most || Is(s) || Plain(s) {
			t.Errorf("a text of %d bytes: %d, %t, %t", len(s), n, Is(s), Plain(s))
		}
	}
}

// P2.1 to P2.3: all calls, held against the chapter's words.

func TestEveryByteAtEachPlace(t *testing.T) {
	for b := range 256 {
		s := string([]byte{byte(b)})
		for _, x := range [][2]string{{"", ""}, {"", "a"}, {"a", ""}, {"a", "b"}, {"", ":a"}, {"a:", ""}, {"a", ":b"}, {"a:b", ""}, {"a:", "b"}, {"a:b", "c"}, {"", "a:b"}, {row(62), "a"}, {row(62), ""}, {row(most - 1), ""}, {row(most), ""}} {
			check(t, x[0]+s+x[1])
		}
	}
}

func TestAllShortTexts(t *testing.T) {
	var try func(s string)
	try = func(s string) {
		check(t, s)
		if len(s) < 5 {
			for _, next := range []string{"a", "Z", "_", "5", "-", ".", ":", " ", "\xe4"} {
				try(s + next)
			}
		}
	}
	try("")
}

func TestAllLengthsAboutTheBound(t *testing.T) {
	for first := range most + 4 {
		for second := range most + 4 {
			for _, behind := range []string{"", ":", ":a", "=", "1"} {
				check(t, row(first)+":"+row(second)+behind)
			}
		}
		check(t, row(first))
	}
}

// P2.4

// parted are all names that can be made of a few plain ones and that keep the bound.
func parted() []string {
	plain := []string{"a", "_", "Z9", "a-b.c_9", "x.", "y-", row(31), row(32), row(61), row(62), row(most - 1), row(most)}
	all := slices.Clone(plain)
	for _, a := range plain {
		for _, b := range plain {
			if s := a + ":" + b; len(s) <= most {
				all = append(all, s)
			}
		}
	}
	return all
}

func TestPartsPutTogether(t *testing.T) {
	for _, s := range parted() {
		prefix, local, ok := Split(s)
		together := local
		if prefix != "" {
			together = prefix + ":" + local
		}
		if !ok || together != s {
			t.Errorf("Split(%q): %q, %q, %t", s, prefix, local, ok)
		}
		if prefix != "" && !Plain(prefix) || !Plain(local) {
			t.Errorf("Split(%q): parts that are not plain: %q, %q", s, prefix, local)
		}
	}
}

func TestBeginOfANameWithAByteBehind(t *testing.T) {
	for _, s := range parted() {
		for b := range 256 {
			if in := string([]byte{byte(b)}); in == ":" || toldPlain("a"+in) {
				continue
			}
			for _, behind := range []string{"", "a", ":a", ": ", "\xff"} {
				text := s + string([]byte{byte(b)}) + behind
				if n := Begin(text); n != len(s) {
					t.Fatalf("Begin(%q): %d, not %d", text, n, len(s))
				}
			}
		}
	}
}

// Whatever stands behind a name: what the text begins with is a name, and no longer one is there.
func TestBeginIsANameAndTheLongest(t *testing.T) {
	for _, s := range parted() {
		for _, behind := range []string{"", "a", "9", ":", ":a", ":9", "::", "a:b", "9:b", row(most), ":" + row(most)} {
			text := s + behind
			n := Begin(text)
			if n < len(s) || n > most || !Is(text[:n]) {
				t.Errorf("Begin(%q): %d", text, n)
			}
			for longer := n + 1; longer <= len(text); longer++ {
				if Is(text[:longer]) {
					t.Errorf("Begin(%q): %d, but %d bytes are a name, too", text, n, longer)
				}
			}
		}
	}
}
