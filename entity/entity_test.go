package entity

import (
	"maps"
	"regexp"
	"slices"
	"strconv"
	"strings"
	"testing"

	"hopscotch/api"
	"hopscotch/utf"
)

// The chapter's words for a reference, but for whether there is a character of its number.
var words = regexp.MustCompile(`\A&(?:(amp|lt|gt|quot|apos)|#([0-9]{1,7})|#x([0-9a-fA-F]{1,6}));`)

// toldReference tells what the chapter's words make of Reference(s).
func toldReference(s string) (string, int) {
	parts := words.FindStringSubmatch(s)
	if parts == nil {
		return "", 0
	}
	c := map[string]string{"amp": "&", "lt": "<", "gt": ">", "quot": `"`, "apos": "'"}[parts[1]]
	for i, base := range map[int]int{2: 10, 3: 16} {
		if parts[i] != "" {
			number, _ := strconv.ParseInt(parts[i], base, 32)
			c = utf.Put(rune(number))
		}
	}
	if c == "" {
		return "", 0
	}
	return c, len(parts[0])
}

// toldDecode goes through a text from place to place.
func toldDecode(s string) (string, int, api.Errno) {
	var text []byte
	for at := 0; at < len(s); {
		c, n := toldReference(s[at:])
		if n == 0 {
			_, n, _ = utf.Next(s[at:])
			c = s[at : at+n]
			if n == 0 {
				return "", at, api.ErrUTF
			}
			if c == "&" {
				return "", at, api.ErrEntity
			}
		}
		text, at = append(text, c...), at+n
	}
	return string(text), 0, api.OK
}

// What the chapter writes characters as: first in every text, then in an attribute alone.
var (
	everywhere = strings.NewReplacer("&", "&amp;", "<", "&lt;", ">", "&gt;", "\r", "&#13;")
	inAttr     = strings.NewReplacer("&", "&amp;", "<", "&lt;", ">", "&gt;", "\r", "&#13;", `"`, "&quot;", "\t", "&#9;", "\n", "&#10;")
)

func toldEncode(s string, attr bool) (string, api.Errno) {
	if _, e := utf.Valid(s); e != api.OK {
		return "", api.ErrUTF
	}
	if attr {
		return inAttr.Replace(s), api.OK
	}
	return everywhere.Replace(s), api.OK
}

// check holds all calls against what the chapter's words tell of s.
func check(t *testing.T, s string) {
	t.Helper()
	c, n := toldReference(s)
	if got, length := Reference(s); got != c || length != n {
		t.Fatalf("Reference(%q): %q, %d; told: %q, %d", s, got, length, c, n)
	}
	text, at, e := toldDecode(s)
	if got, place, f := Decode(s); got != text || place != at || f != e {
		t.Fatalf("Decode(%q): %q, %d, %d; told: %q, %d, %d", s, got, place, f, text, at, e)
	}
	for _, attr := range []bool{false, true} {
		text, e := toldEncode(s, attr)
		if got, f := Encode(s, attr); got != text || f != e {
			t.Fatalf("Encode(%q, %t): %q, %d; told: %q, %d", s, attr, got, f, text, e)
		}
	}
}

// references are texts that are one, each with what it says.
var references = map[string]string{
	"&amp;": "&", "&lt;": "<", "&gt;": ">", "&quot;": `"`, "&apos;": "'",
	"&#9;": "\t", "&#10;": "\n", "&#13;": "\r", "&#32;": " ", "&#38;": "&", "&#60;": "<", "&#65;": "A", "&#127;": "\x7f", "&#128;": "\u0080", "&#8364;": "\u20ac",
	"&#065;": "A", "&#0000065;": "A", "&#0000009;": "\t", "&#55295;": "\ud7ff", "&#57344;": "\ue000", "&#65533;": "\ufffd", "&#65536;": "\U00010000", "&#1114111;": "\U0010ffff",
	"&#x9;": "\t", "&#xA;": "\n", "&#xa;": "\n", "&#xd;": "\r", "&#x20;": " ", "&#x26;": "&", "&#x41;": "A", "&#x20AC;": "\u20ac", "&#x20ac;": "\u20ac", "&#x20aC;": "\u20ac",
	"&#x000041;": "A", "&#x00000a;": "\n", "&#xD7FF;": "\ud7ff", "&#xE000;": "\ue000", "&#xFFFD;": "\ufffd", "&#x10000;": "\U00010000", "&#x10FFFF;": "\U0010ffff", "&#x10ffff;": "\U0010ffff", "&#x1F600;": "\U0001f600", "&#x0abcde;": "\U000abcde", "&#xFEDCB;": "\U000fedcb",
}

// wrong are texts that begin with no reference, each with its cause. None is there in which a reference stands further on.
var wrong = map[string]string{
	"an & alone": "&", "nothing between": "&;", "a sign alone": "&#", "no digits": "&#;", "no digits to the base 16": "&#x;", "an x alone": "&#x",
	"a name that is none": "&nbsp;", "no name": "&b;", "part of a name": "&am;", "more than a name": "&amps;", "two names": "&ltgt;", "a long name": "&CounterClockwiseContourIntegral;",
	"a capital name": "&AMP;", "a name with a capital": "&Lt;", "a name with its last a capital": "&aPOS;",
	"a blank ahead of the name": "& lt;", "a blank behind the name": "&lt ;", "an end of line behind the name": "&lt\n;", "a blank behind the &": "& ",
	"no ; behind a name": "&lt", "something else behind a name": "&lt:", "no ; behind amp": "&ampx", "no ; behind a number": "&#65", "no ; behind a number to the base 16": "&#x41", "no ; behind the longest number": "&#1114111", "a letter in its place": "&#65a", "no ; behind all digits": "&#00000655",
	"a capital X": "&#X41;", "an x without #": "&x41;", "digits without #": "&65;", "0x": "&#0x41;", "two signs": "&##65;", "a sign behind": "&#65#;",
	"a minus": "&#-65;", "a plus": "&#+65;", "a plus to the base 16": "&#x+41;", "a minus to the base 16": "&#x-41;", "a blank ahead of the digits": "&# 65;", "a blank behind the digits": "&#65 ;", "a blank behind x": "&#x 41;", "a _ within": "&#6_5;", "a _ within to the base 16": "&#x4_1;", "a full stop": "&#65.0;", "an exponent": "&#1e2;",
	"a letter among decimal digits": "&#6A;", "a letter beyond f": "&#x4g;", "a letter beyond F": "&#x4G;", "ahead of 0": "&#6/;", "behind 9": "&#6:;", "ahead of A": "&#x4@;", "ahead of a": "&#x4`;", "digits of another script": "&#\u0666\u0665;", "wide digits": "&#\uff16\uff15;",
	"eight digits": "&#00000065;", "eight digits, all of a number": "&#10000000;", "ten digits": "&#4294967361;", "twenty digits": "&#18446744073709551681;", "seven digits to the base 16": "&#x0000041;", "seven digits, all of a number": "&#x1000000;", "nine digits to the base 16": "&#x100000041;",
	"0": "&#0;", "00": "&#00;", "seven noughts": "&#0000000;", "0 to the base 16": "&#x0;", "six noughts": "&#x000000;", "1": "&#1;", "8": "&#8;", "11": "&#11;", "12": "&#xC;", "14": "&#14;", "31": "&#x1F;",
	"D800": "&#xD800;", "DBFF": "&#xDBFF;", "DC00": "&#xdc00;", "DFFF": "&#57343;", "FFFE": "&#xFFFE;", "FFFF": "&#65535;",
	"110000": "&#x110000;", "110000, decimal": "&#1114112;", "the highest number": "&#9999999;", "the highest number to the base 16": "&#xFFFFFF;", "small letters beyond all characters": "&#xabcdef;",
	"no character within": "&l\xfft;", "no character within digits": "&#6\x005;", "no character behind the &": "&\xff", "half a character for the ;": "&lt\xc3",
}

// behinds are what may stand behind.
var behinds = []string{"", "a", ";", "&", "&lt;", "#65;", "x41;", "\u20ac", "\xff", "\x00"}

// P3.1

func TestReferences(t *testing.T) {
	for s, says := range references {
		for _, behind := range behinds {
			if c, n := Reference(s + behind); c != says || n != len(s) {
				t.Errorf("Reference(%q): %q, %d", s+behind, c, n)
			}
		}
	}
}

func TestNoReferences(t *testing.T) {
	for why, s := range wrong {
		if c, n := Reference(s); c != "" || n != 0 {
			t.Errorf("%s: Reference(%q): %q, %d", why, s, c, n)
		}
		if c, n := Reference(s + strings.Repeat("x", 20) + ";"); c != "" || n != 0 {
			t.Errorf("%s, and more behind: %q, %d", why, c, n)
		}
	}
	for _, s := range []string{"", "a", "lt;", "#65;", ";", "a&lt;", " &lt;", "\n&#65;", ";&amp;", "<", "%lt;", "\xff&lt;", "\u20ac&lt;"} {
		if c, n := Reference(s); c != "" || n != 0 {
			t.Errorf("Reference(%q): %q, %d", s, c, n)
		}
	}
}

func TestReferencesByEveryNumber(t *testing.T) {
	for c := int64(0); c <= 0x110FFF; c++ {
		says := utf.Put(rune(c))
		decimal, hex := strconv.FormatInt(c, 10), strconv.FormatInt(c, 16)
		for _, s := range []string{"&#" + decimal + ";", "&#x" + hex + ";", "&#x" + strings.ToUpper(hex) + ";"} {
			n := len(s)
			if says == "" {
				n = 0
			}
			if got, length := Reference(s); got != says || length != n {
				t.Fatalf("Reference(%q): %q, %d", s, got, length)
			}
		}
	}
}

// Numbers that wrap round somewhere to one that is a character's.
func TestReferencesByHugeNumbers(t *testing.T) {
	for _, bits := range []int{8, 16, 21, 24, 31, 32, 33, 62, 63} {
		for _, s := range []string{"&#" + strconv.FormatUint(1<<bits+'a', 10) + ";", "&#x" + strconv.FormatUint(1<<bits+'a', 16) + ";"} {
			c, n := toldReference(s)
			if got, length := Reference(s); got != c || length != n {
				t.Errorf("Reference(%q): %q, %d", s, got, length)
			}
		}
	}
}

func TestReferencesByDigitsWithNoughtsAhead(t *testing.T) {
	for noughts := range 70 {
		for _, digits := range []string{"9", "41", "65", "20AC", "8364", "10FFFF", "1114111"} {
			check(t, "&#"+strings.Repeat("0", noughts)+digits+";")
			check(t, "&#x"+strings.Repeat("0", noughts)+digits+";")
		}
	}
}

// P3.2

func TestDecode(t *testing.T) {
	for _, x := range []struct {
		s, text string
		at      int
		e       api.Errno
	}{
		{"", "", 0, api.OK},
		{"a", "a", 0, api.OK},
		{"a&lt;b&#65;&#x20AC;", "a<bA\u20ac", 0, api.OK},
		{"&amp;&lt;&gt;&quot;&apos;", `&<>"'`, 0, api.OK},
		{"&lt;", "<", 0, api.OK},
		{"a<b>\"c'\t\r\n;#", "a<b>\"c'\t\r\n;#", 0, api.OK},
		{"\ufffd\u00e9&#xFFFD;\U0001f600", "\ufffd\u00e9\ufffd\U0001f600", 0, api.OK},
		{"&amp;lt;", "&lt;", 0, api.OK},
		{"&#38;amp;", "&amp;", 0, api.OK},
		{"&amp;amp;amp;", "&amp;amp;", 0, api.OK},
		{"&#38;#65;", "&#65;", 0, api.OK},
		{"&lt;;&gt;;", "<;>;", 0, api.OK},
		{"a&b;", "", 1, api.ErrEntity},
		{"&#0;", "", 0, api.ErrEntity},
		{"&lt", "", 0, api.ErrEntity},
		{"&amp;&", "", 5, api.ErrEntity},
		{"&&amp;", "", 0, api.ErrEntity},
		{"&lt;&l&gt;", "", 4, api.ErrEntity},
		{"\u20ac&#x20AC;&nbsp;", "", 11, api.ErrEntity},
		{"\xff", "", 0, api.ErrUTF},
		{"ab\xff&", "", 2, api.ErrUTF},
		{"ab&\xff", "", 2, api.ErrEntity},
		{"&amp;\x00&b;", "", 5, api.ErrUTF},
		{"&lt\xff;", "", 0, api.ErrEntity},
		{"\u20ac&lt;\xe2\x82", "", 7, api.ErrUTF},
		{"a\ufffe&", "", 1, api.ErrUTF},
		{"a\xed\xa0\x80", "", 1, api.ErrUTF},
		{"&#xD83D;&#xDE00;", "", 0, api.ErrEntity},
	} {
		if text, at, e := Decode(x.s); text != x.text || at != x.at || e != x.e {
			t.Errorf("Decode(%q): %q, %d, %d", x.s, text, at, e)
		}
	}
}

func TestDecodeOfReferences(t *testing.T) {
	for s, says := range references {
		for _, ahead := range []string{"", "a", "\u20ac\n", "&amp;", "&#x10FFFF;"} {
			decoded, _, _ := toldDecode(ahead)
			if text, at, e := Decode(ahead + s + "b"); text != decoded+says+"b" || at != 0 || e != api.OK {
				t.Errorf("Decode(%q): %q, %d, %d", ahead+s+"b", text, at, e)
			}
		}
	}
}

func TestDecodeOfNoReferences(t *testing.T) {
	for why, s := range wrong {
		for _, ahead := range []string{"", "a", "\u20ac\n", "&amp;", "&#x10FFFF;;"} {
			for _, behind := range []string{"", " ", "\u20ac", "\xff", "&", "&lt;"} {
				if text, at, e := Decode(ahead + s + behind); text != "" || at != len(ahead) || e != api.ErrEntity {
					t.Errorf("%s: Decode(%q): %q, %d, %d", why, ahead+s+behind, text, at, e)
				}
			}
		}
	}
}

func TestDecodeOfLongTexts(t *testing.T) {
	const many = 1 << 18
	long := strings.Repeat("a&lt;&#x20AC;", many)
	text, at, e := Decode(long)
	if text != strings.Repeat("a<\u20ac", many) || at != 0 || e != api.OK {
		t.Errorf("Decode of a long text: %d bytes, %d, %d", len(text), at, e)
	}
	for s, want := range map[string]api.Errno{"&": api.ErrEntity, "&" + long: api.ErrEntity, "\xff&": api.ErrUTF} {
		if text, at, e := Decode(long + s); text != "" || at != len(long) || e != want {
			t.Errorf("Decode of a long text with a wrong end: %d bytes, %d, %d", len(text), at, e)
		}
	}
	if c, n := Reference("&#" + strings.Repeat("0", 1<<24) + ";"); c != "" || n != 0 {
		t.Errorf("Reference by many digits: %q, %d", c, n)
	}
}

// P3.3

func TestEncode(t *testing.T) {
	for _, x := range []struct{ s, text, attr string }{
		{"", "", ""},
		{"a", "a", "a"},
		{`a<"b`, `a&lt;"b`, `a&lt;&quot;b`},
		{"&", "&amp;", "&amp;"}, {"<", "&lt;", "&lt;"}, {">", "&gt;", "&gt;"}, {"\r", "&#13;", "&#13;"},
		{`"`, `"`, "&quot;"}, {"\t", "\t", "&#9;"}, {"\n", "\n", "&#10;"},
		{"'", "'", "'"}, {" ;#", " ;#", " ;#"},
		{"\r\n\t", "&#13;\n\t", "&#13;&#10;&#9;"},
		{"&lt;", "&amp;lt;", "&amp;lt;"}, {"&&amp;", "&amp;&amp;amp;", "&amp;&amp;amp;"},
		{"]]>", "]]&gt;", "]]&gt;"},
		{"\u20ac\ufffd\U0010ffff\x7f\u0085\u00a0\u2028", "\u20ac\ufffd\U0010ffff\x7f\u0085\u00a0\u2028", "\u20ac\ufffd\U0010ffff\x7f\u0085\u00a0\u2028"},
	} {
		if text, e := Encode(x.s, false); text != x.text || e != api.OK {
			t.Errorf("Encode(%q, false): %q, %d", x.s, text, e)
		}
		if text, e := Encode(x.s, true); text != x.attr || e != api.OK {
			t.Errorf("Encode(%q, true): %q, %d", x.s, text, e)
		}
	}
}

func TestEncodeOfEveryCharacter(t *testing.T) {
	for c := rune(0); c <= 0x10FFFF; c++ {
		s := utf.Put(c)
		for _, attr := range []bool{false, true} {
			want := s
			switch {
			case c == '&':
				want = "&amp;"
			case c == '<':
				want = "&lt;"
			case c == '>':
				want = "&gt;"
			case c == 13:
				want = "&#13;"
			case attr && c == '"':
				want = "&quot;"
			case attr && c == 9:
				want = "&#9;"
			case attr && c == 10:
				want = "&#10;"
			}
			if text, e := Encode(s, attr); text != want || e != api.OK {
				t.Fatalf("Encode(%q, %t): %q, %d", s, attr, text, e)
			}
		}
	}
}

// bytes that are no character.
var bytes = []string{"\x00", "\x08", "\x0b", "\x1f", "\x80", "\xff", "\xc3", "\xc0\x80", "\xe2\x82", "\xed\xa0\x80", "\xef\xbf\xbe", "\xef\xbf\xbf", "\xf4\x90\x80\x80"}

func TestEncodeAndDecodeOfNoCharacters(t *testing.T) {
	for _, s := range bytes {
		for _, ahead := range []string{"", "a", "\u20ac", ">\"\n"} {
			for _, behind := range []string{"", "a", "<", "&", s} {
				for _, attr := range []bool{false, true} {
					if text, e := Encode(ahead+s+behind, attr); text != "" || e != api.ErrUTF {
						t.Errorf("Encode(%q, %t): %q, %d", ahead+s+behind, attr, text, e)
					}
				}
				if text, at, e := Decode(ahead + s + behind); text != "" || at != len(ahead) || e != api.ErrUTF {
					t.Errorf("Decode(%q): %q, %d, %d", ahead+s+behind, text, at, e)
				}
			}
		}
	}
}

// P3.1 to P3.3: all calls, held against the chapter's words.

func TestEveryByteAtEachPlace(t *testing.T) {
	for _, x := range []string{"&amp;", "&apos;", "&#65;", "&#x41;", "&#1114111;", "&#x10FFFF;", "a<b"} {
		for at := range len(x) + 1 {
			for b := range 256 {
				one := string([]byte{byte(b)})
				check(t, x[:at]+one+x[at:])
				if at < len(x) {
					check(t, x[:at]+one+x[at+1:])
				}
			}
		}
	}
}

func TestAllShortTexts(t *testing.T) {
	var try func(s string, left int)
	try = func(s string, left int) {
		check(t, s)
		if left > 0 {
			for _, next := range []string{"&", "#", "x", ";", "lt", "4", "9", "a", "F", "<", "\"", "\r", "\u20ac", "\xff"} {
				try(s+next, left-1)
			}
		}
	}
	try("", 4)
	try("&", 4)
	try("&#", 4)
	try("&#x", 4)
}

// P3.4

func TestWhatIsHandedInIsOnlyRead(t *testing.T) {
	for _, s := range []string{"a<\"b\"&amp;\r\n\t", "&lt;&#65;&#x20AC;", "&amp;lt;&", "&b;", "a\xff<&lt;", "\u20ac&gt;\x00"} {
		given := strings.Clone(s)
		Reference(given)
		Decode(given)
		Encode(given, false)
		Encode(given, true)
		if given != s {
			t.Errorf("%q was handed in, and is %q now", s, given)
		}
	}
}

// P3.5

// valid are texts of characters, with all that is written as something else, and beginnings and ends of references.
func valid() []string {
	texts := []string{"", "&", "<", ">", "\"", "'", "\t", "\n", "\r", "\r\n", "a", "\u20ac", "\ufffd", "\U0010ffff", "&lt;", "&#65;", "&amp", "&#", "x41;", "lt;", ";", "&amp;lt;", "]]>", "<a b=\"c\">"}
	for _, a := range texts[1:12] {
		for _, b := range texts[1:12] {
			texts = append(texts, a+b, a+"x"+b)
		}
	}
	return texts
}

func TestWhatIsEncodedIsDecodedAsItWas(t *testing.T) {
	try := func(s string) {
		for attr, none := range map[bool]string{false: "<>\r", true: "<>\r\"\t\n"} {
			text, e := Encode(s, attr)
			if e != api.OK || strings.ContainsAny(text, none) {
				t.Fatalf("Encode(%q, %t): %q, %d", s, attr, text, e)
			}
			if back, at, e := Decode(text); back != s || at != 0 || e != api.OK {
				t.Fatalf("Decode(%q), which is Encode(%q, %t): %q, %d, %d", text, s, attr, back, at, e)
			}
		}
	}
	for _, s := range valid() {
		try(s)
	}
	for c := rune(0); c <= 0x10FFFF; c++ {
		try(utf.Put(c))
	}
}

func TestWhatIsDecodedMayBeEncoded(t *testing.T) {
	pieces := slices.Concat(slices.Collect(maps.Keys(references)), slices.Collect(maps.Values(wrong)), bytes, behinds)
	for _, a := range pieces {
		for _, b := range pieces {
			text, _, e := Decode(a + b)
			for _, attr := range []bool{false, true} {
				if again, f := Encode(text, attr); e == api.OK && f != api.OK {
					t.Fatalf("Encode(%q, %t), which is Decode(%q): %q, %d", text, attr, a+b, again, f)
				}
			}
		}
	}
}

func TestTextsAreEncodedPieceByPiece(t *testing.T) {
	texts := valid()
	for _, attr := range []bool{false, true} {
		for _, a := range texts {
			for _, b := range texts {
				first, _ := Encode(a, attr)
				second, _ := Encode(b, attr)
				if whole, e := Encode(a+b, attr); whole != first+second || e != api.OK {
					t.Fatalf("Encode(%q, %t): %q, %d; its pieces: %q, %q", a+b, attr, whole, e, first, second)
				}
			}
		}
	}
}
