package token

import (
	"regexp"
	"slices"
	"strconv"
	"strings"
	"testing"

	"hopscotch/api"
	"hopscotch/entity"
	"hopscotch/utf"
)

// The chapter's words for tags, attributes, remarks and texts, but for the length of names and for what is decoded.
const (
	nameWords  = `[A-Za-z_][A-Za-z_0-9.\-]*(?::[A-Za-z_][A-Za-z_0-9.\-]*)?`
	attrWords  = `(` + nameWords + `)[ \t\n\r]*=[ \t\n\r]*(?:"([^<"]*)"|'([^<']*)')`
	rowWords   = `((?:[ \t\n\r]+` + attrWords + `)*)`
	openWords  = `\A<(` + nameWords + `)` + rowWords + `[ \t\n\r]*(/?)>`
	closeWords = `\A</(` + nameWords + `)[ \t\n\r]*>`
)

var (
	attrs   = regexp.MustCompile(attrWords)
	opens   = regexp.MustCompile(openWords)
	closes  = regexp.MustCompile(closeWords)
	remarks = regexp.MustCompile(`(?s)\A(?:<!--.*?-->|<\?.*?\?>)`)
	runs    = regexp.MustCompile(`\A[^<]+`)
)

// The chapter's bounds, as its own numbers.
const (
	mostBytes = 65536
	mostAttrs = 32
	mostName  = 64
)

// toldTokens goes through a text by the chapter's words.
func toldTokens(s string) ([]Token, int, api.Errno) {
	if len(s) > mostBytes {
		return nil, 0, api.ErrLimit
	}
	if at, e := utf.Valid(s); e != api.OK {
		return nil, at, e
	}
	var tokens []Token
	for at := 0; at < len(s); {
		n := len(remarks.FindString(s[at:]))
		if n == 0 {
			t, size, wrong, e := toldToken(s[at:])
			if e != api.OK {
				return nil, at + wrong, e
			}
			t.At, n = at, size
			tokens = append(tokens, t)
		}
		at += n
	}
	return tokens, 0, api.OK
}

// toldToken tells the token with which s begins, and how many bytes it has; or the place of its fault, and the error.
func toldToken(s string) (t Token, size, wrong int, e api.Errno) {
	if raw := runs.FindString(s); raw != "" {
		text, at, e := entity.Decode(raw)
		return Token{Kind: Text, Text: text}, len(raw), at, e
	}
	if parts := closes.FindStringSubmatch(s); parts != nil && len(parts[1]) <= mostName {
		return Token{Kind: Close, Name: parts[1]}, len(parts[0]), 0, api.OK
	}
	places := opens.FindStringSubmatchIndex(s)
	if places == nil || places[3]-places[2] > mostName {
		return t, 0, 0, api.ErrToken
	}
	t = Token{Kind: Open, Name: s[places[2]:places[3]]}
	if s[places[1]-2] == '/' {
		t.Kind = Empty
	}
	t.Attrs, wrong, e = toldAttrs(s[:places[5]], places[4])
	if e == api.OK && len(t.Attrs) > mostAttrs {
		return t, 0, 0, api.ErrLimit
	}
	return t, places[1], wrong, e
}

// toldAttrs tells the attributes that stand in s from a place on.
func toldAttrs(s string, from int) ([]Attr, int, api.Errno) {
	var row []Attr
	wrong, e := 0, api.OK
	for _, p := range attrs.FindAllStringSubmatchIndex(s[from:], -1) {
		begin, end := max(p[4], p[6])+from, max(p[5], p[7])+from
		value, at, f := entity.Decode(s[begin:end])
		if p[3]-p[2] > mostName {
			return nil, 0, api.ErrToken
		}
		if e == api.OK && f != api.OK {
			wrong, e = begin+at, f
		}
		row = append(row, Attr{s[from+p[2] : from+p[3]], value})
	}
	return row, wrong, e
}

func sameToken(a, b Token) bool {
	return a.Kind == b.Kind && a.Name == b.Name && slices.Equal(a.Attrs, b.Attrs) && a.Text == b.Text && a.At == b.At
}

func same(a, b []Token) bool { return slices.EqualFunc(a, b, sameToken) }

// check holds both calls against what the chapter's words tell of s.
func check(t *testing.T, s string) {
	t.Helper()
	tokens, at, e := Tokens(s)
	told, place, f := toldTokens(s)
	if !same(tokens, told) || at != place || e != f {
		t.Fatalf("Tokens(%q): %v, %d, %d; told: %v, %d, %d", s, tokens, at, e, told, place, f)
	}
	blank := true
	for i := range len(s) {
		blank = blank && (s[i] == 32 || s[i] == 9 || s[i] == 10 || s[i] == 13)
	}
	if Blank(s) != blank {
		t.Fatalf("Blank(%q): %t", s, !blank)
	}
}

// row is a plain name, n bytes long.
func row(n int) string { return "a" + strings.Repeat("-", n-1) }

// many are n attributes, each with a blank ahead.
func many(n int) string {
	var s strings.Builder
	for i := range n {
		s.WriteString(" x" + strconv.Itoa(i) + "='" + strconv.Itoa(i) + "'")
	}
	return s.String()
}

// right are texts with their tokens.
var right = []struct {
	s      string
	tokens []Token
}{
	{"", nil},
	{"t", []Token{{Kind: Text, Text: "t"}}},
	{" \n", []Token{{Kind: Text, Text: " \n"}}},
	{"a > b /> --> ?> ]]> \"c' = !", []Token{{Kind: Text, Text: "a > b /> --> ?> ]]> \"c' = !"}}},
	{"a&lt;b&#65;&#x20AC;\u20ac\r\n", []Token{{Kind: Text, Text: "a<bA\u20ac\u20ac\r\n"}}},
	{"&amp;lt;", []Token{{Kind: Text, Text: "&lt;"}}},
	{"<a>", []Token{{Kind: Open, Name: "a"}}},
	{"</a>", []Token{{Kind: Close, Name: "a"}}},
	{"<a/>", []Token{{Kind: Empty, Name: "a"}}},
	{"<a >", []Token{{Kind: Open, Name: "a"}}},
	{"</a \t\n\r>", []Token{{Kind: Close, Name: "a"}}},
	{"<a \t\n\r/>", []Token{{Kind: Empty, Name: "a"}}},
	{"<x:y>", []Token{{Kind: Open, Name: "x:y"}}},
	{"</x:y>", []Token{{Kind: Close, Name: "x:y"}}},
	{"<_a-b.c_9/>", []Token{{Kind: Empty, Name: "_a-b.c_9"}}},
	{"<a x='1'>", []Token{{Kind: Open, Name: "a", Attrs: []Attr{{"x", "1"}}}}},
	{"<a x=\"1\">", []Token{{Kind: Open, Name: "a", Attrs: []Attr{{"x", "1"}}}}},
	{"<a x='1'/>", []Token{{Kind: Empty, Name: "a", Attrs: []Attr{{"x", "1"}}}}},
	{"<a\r\n\tx \t=\n\r'1' \n>", []Token{{Kind: Open, Name: "a", Attrs: []Attr{{"x", "1"}}}}},
	{"<a x='' y=\"\"/>", []Token{{Kind: Empty, Name: "a", Attrs: []Attr{{"x", ""}, {"y", ""}}}}},
	{"<a x='\"' y=\"'\"/>", []Token{{Kind: Empty, Name: "a", Attrs: []Attr{{"x", "\""}, {"y", "'"}}}}},
	{"<a x='>' y='/>' z='-->'>", []Token{{Kind: Open, Name: "a", Attrs: []Attr{{"x", ">"}, {"y", "/>"}, {"z", "-->"}}}}},
	{"<a x=' y=' z=' = '>", []Token{{Kind: Open, Name: "a", Attrs: []Attr{{"x", " y="}, {"z", " = "}}}}},
	{"<a x='&lt;&apos;&quot;' y='\t\r\n&#9;'/>", []Token{{Kind: Empty, Name: "a", Attrs: []Attr{{"x", "<'\""}, {"y", "\t\r\n\t"}}}}},
	{"<a x='\u20ac&#x1F600;'/>", []Token{{Kind: Empty, Name: "a", Attrs: []Attr{{"x", "\u20ac\U0001f600"}}}}},
	{"<a z='1' x='2' y='3'>", []Token{{Kind: Open, Name: "a", Attrs: []Attr{{"z", "1"}, {"x", "2"}, {"y", "3"}}}}},
	{"<a x='2' x='1' x='2'>", []Token{{Kind: Open, Name: "a", Attrs: []Attr{{"x", "2"}, {"x", "1"}, {"x", "2"}}}}},
	{"<xmi:a xmi:id='1' xmlns:xmi=''/>", []Token{{Kind: Empty, Name: "xmi:a", Attrs: []Attr{{"xmi:id", "1"}, {"xmlns:xmi", ""}}}}},
	{"<a x=\"1\" y='&lt;'/>b", []Token{{Kind: Empty, Name: "a", Attrs: []Attr{{"x", "1"}, {"y", "<"}}}, {Kind: Text, Text: "b", At: 19}}},
	{"<?xml?><a>t<!-- n --></a >", []Token{{Kind: Open, Name: "a", At: 7}, {Kind: Text, Text: "t", At: 10}, {Kind: Close, Name: "a", At: 21}}},
	{"<a></b><c/>", []Token{{Kind: Open, Name: "a"}, {Kind: Close, Name: "b", At: 3}, {Kind: Empty, Name: "c", At: 7}}},
	{"</a><a>", []Token{{Kind: Close, Name: "a"}, {Kind: Open, Name: "a", At: 4}}},
	{"\u20ac&amp;<a/>\n<b>", []Token{{Kind: Text, Text: "\u20ac&"}, {Kind: Empty, Name: "a", At: 8}, {Kind: Text, Text: "\n", At: 12}, {Kind: Open, Name: "b", At: 13}}},
	{"<a>></a>", []Token{{Kind: Open, Name: "a"}, {Kind: Text, Text: ">", At: 3}, {Kind: Close, Name: "a", At: 4}}},
	{"<!---->", nil},
	{"<!-- a - -- b --><??>", nil},
	{"<!----->", nil},
	{"<!--<a x='1'>& </b> <!-- <? -->", nil},
	{"<?a b>c & <d> <!-- ?>", nil},
	{"<????>", nil},
	{"<??>?>", []Token{{Kind: Text, Text: "?>", At: 4}}},
	{"<?a? >?>", nil},
	{"<!---->-->", []Token{{Kind: Text, Text: "-->", At: 7}}},
	{"a<!---->b", []Token{{Kind: Text, Text: "a"}, {Kind: Text, Text: "b", At: 8}}},
	{"a<!-- --><?b?>c", []Token{{Kind: Text, Text: "a"}, {Kind: Text, Text: "c", At: 14}}},
	{"<!--\n--><a/><?\n?>", []Token{{Kind: Empty, Name: "a", At: 8}}},
	{"<" + row(64) + " " + row(31) + ":" + row(32) + "=''/></" + row(64) + ">", []Token{{Kind: Empty, Name: row(64), Attrs: []Attr{{row(31) + ":" + row(32), ""}}}, {Kind: Close, Name: row(64), At: 135}}},
}

// untagged begin with a < that begins neither a tag nor a remark, each with its cause, whatever of the tests' stands behind.
var untagged = map[string]string{
	"a < alone": "<", "nothing within": "<>", "a / alone": "</>", "an empty tag without a name": "< />", "/ and /": "<//>", "two <": "<<a>",
	"a blank ahead of the name": "< a>", "an end of line ahead of the name": "<\na>", "a blank ahead of the /": "< /a>", "a blank behind the /": "</ a>",
	"a digit ahead": "<1>", "a hyphen ahead": "<-a>", "a full stop ahead": "<.a/>", "a colon ahead": "<:a>", "a letter that is none": "<\u00e4>", "a sign": "<%>", "an &": "<&amp;>",
	"a digit ahead in a Close": "</1>", "a colon ahead in a Close": "</:a>",
	"a colon behind": "<a:>", "two colons": "<a:b:c>", "a digit behind the colon": "<a:1>", "a colon behind in a Close": "</a:>", "two colons in a Close": "</a:b:c>",
	"a letter that is none within": "<a\u00e4>", "a blank that is none behind the name": "<a\u00a0x='1'>", "another one behind the name": "<a\u2028>", "a next line behind the name": "<a\u0085/>",
	"a name that is too long": "<" + row(65) + ">", "a name that is too long, empty": "<" + row(65) + "/>", "a name that is too long in a Close": "</" + row(65) + ">", "an attribute's name that is too long": "<a " + row(65) + "=''>", "a name that is too long with its prefix": "<" + row(32) + ":" + row(32) + ">",
	"a < behind the name": "<a<b>", "a < within a tag": "<a <b>", "a < in a Close": "</a<b>", "a < in a Close behind a blank": "</a <b>",
	"an attribute in a Close": "</a x='1'>", "a word in a Close": "</a b>", "a / behind a Close": "</a/>", "a / behind a Close and a blank": "</a />", "a Close, closed twice": "</a/ >",
	"a blank behind the last /": "<a/ >", "a blank on both sides": "<a / >", "two /": "<a//>", "two / and a blank": "<a/ />", "a / within": "<a/b>", "an attribute behind the /": "<a/ x='1'>", "an attribute right behind the /": "<a /x='1'>",
	"a blank behind the / of an attribute": "<a x='1'/ >", "a ? at the end": "<a?>",
	"no blank ahead of an attribute": "<a x='1'y='2'>", "no blank behind a name": "<a'1'>", "no blank between marks": "<a x=\"1\"y=\"2\"/>",
	"no = and no value": "<a x>", "no = and no value, empty": "<a x/>", "no =": "<a x '1'>", "no = and no blank": "<a x'1'>", "no value": "<a x=>", "no value, empty": "<a x=/>", "no value behind a blank": "<a x= >", "no name of an attribute": "<a ='1'>", "no name, and no =": "<a '1'>",
	"two =": "<a x=='1'>", "a colon for the =": "<a x:'1'>", "two names": "<a x y='1'>", "a value without marks": "<a x=1>", "a value with other marks": "<a x=`1`>", "a word for a value": "<a b c=d>", "a value by a reference to its mark": "<a x=&quot;1&quot;>",
	"a digit ahead of an attribute": "<a 1='1'>", "a colon ahead of an attribute": "<a :x='1'>", "a colon behind an attribute's name": "<a x:='1'>", "three names in one": "<a x:y:z='1'>", "an attribute's letter that is none": "<a \u00e4='1'>",
	"two values": "<a x='1''2'>", "two values behind blanks": "<a x='1' '2'>", "a sign behind a value": "<a x='1',>", "a comma between": "<a x='1', y='2'>", "an & behind": "<a x='1' &amp;>",
	"a < in a value": "<a x='<'>", "a < at the end of a value": "<a x='1<' y=''>", "a < in the second value": "<a x='1' y=\"a<b\"/>", "a tag in a value": "<a x='<b/>'/>", "a remark in a value": "<a x='<!-- -->'/>", "a remark in a tag": "<a <!-- --> x='1'>", "a remark in a name": "<a<!-- -->>",
	"a value's other mark": "<a x='1\"><b>", "a value's other mark, the other way round": "<a x=\"1'><b>",
	"a second attribute without a value": "<a x='1' y>", "a wrong value in no tag": "<a x='&' y>", "a wrong value behind no blank": "<a x='1'y='&'/>", "a wrong value in no Close": "</a x='&'>",
	"too many attributes in no tag": "<a" + many(33) + " y>", "too many attributes in no tag, empty": "<a" + many(33) + "/ >",
	"a sign of a remark alone": "<!>", "a remark with one hyphen": "<!-a->", "a blank in a remark's beginning": "<! -- -->", "a blank between its hyphens": "<!- - -->", "a kind of document": "<!DOCTYPE a>", "a row of characters": "<![CDATA[a]]>", "a remark's end": "<-->", "a remark's end with a sign": "<--!>",
}

// endless are beginnings, of tags and of remarks, that lack an end.
var endless = map[string]string{
	"a <": "<", "a name": "<a", "a name with a colon": "<a:", "a name and a blank": "<a ", "a /": "<a/", "a / behind a blank": "<a /", "a Close's beginning": "</", "a Close's name": "</a", "a Close's name and a blank": "</a ",
	"an attribute's name": "<a x", "its blank": "<a x ", "its =": "<a x=", "a blank behind its =": "<a x= ", "its mark": "<a x='", "its other mark": "<a x=\"", "its value": "<a x='1", "its value, without the tag's end": "<a x='1'", "a blank behind its value": "<a x='1' ", "a / behind its value": "<a x='1'/", "a value with the other mark": "<a x='1\"/>", "a value with an &": "<a x='&",
	"a !": "<!", "a hyphen": "<!-", "two hyphens": "<!--", "three hyphens": "<!---", "a > right behind": "<!-->", "a hyphen and >": "<!--->", "a remark's words": "<!-- a", "one hyphen at the end": "<!-- a ->", "no >": "<!-- a --", "a blank at the end": "<!-- a -- >", "the other one's end": "<!-- a ?>", "a sign at the end": "<!-- a --!>",
	"a ?": "<?", "a ? that ends itself": "<?>", "a word": "<?x", "a word and >": "<?x>", "a ? at the end": "<?x?", "a blank ahead of >": "<?x? >", "this one's other end": "<?x -->",
}

// ends are what stands ahead, and is cut well.
var ends = []string{"", "t", " \n", "&amp;\u20ac", "<b>", "</b>", "<b y='>'/>", "<b/>t", "<!-- < -->", "t<!---->", "<?x < ?>", "<b" + many(32) + ">"}

// P4.1

func TestTokens(t *testing.T) {
	for _, x := range right {
		if tokens, at, e := Tokens(x.s); !same(tokens, x.tokens) || at != 0 || e != api.OK {
			t.Errorf("Tokens(%q): %v, %d, %d; not %v", x.s, tokens, at, e, x.tokens)
		}
	}
}

func TestKinds(t *testing.T) {
	if Open != 1 || Close != 2 || Empty != 3 || Text != 4 {
		t.Errorf("kinds: %d, %d, %d, %d", Open, Close, Empty, Text)
	}
}

func TestTooManyBytes(t *testing.T) {
	for _, x := range []struct{ ahead, one, behind string }{{"", "x", ""}, {"<a>", "x", "</a>"}, {"<a x='", "x", "'/>"}, {"<!--", "<", "-->"}, {"<a", " ", ">"}, {"", "\n", "<a/>"}} {
		most := x.ahead + strings.Repeat(x.one, mostBytes-len(x.ahead)-len(x.behind)) + x.behind
		check(t, most)
		if _, at, e := Tokens(most); at != 0 || e != api.OK {
			t.Errorf("as many bytes as may be, of %q: %d, %d", x.one, at, e)
		}
		for _, more := range []string{most + "x", most + "<", most + "&", most + "\xff", "\xff" + most, "<" + most, "&" + most, most + most} {
			if tokens, at, e := Tokens(more); len(tokens) != 0 || at != 0 || e != api.ErrLimit {
				t.Errorf("%d bytes, of %q: %d tokens, %d, %d", len(more), x.one, len(tokens), at, e)
			}
		}
	}
}

func TestManyTokens(t *testing.T) {
	for _, one := range []string{"<a>", "</a>", "<a/>", "t<a>", "<!---->", "<??>", "t<??>", "<a b=''/>", "&lt;<a>", "<a\n>\n"} {
		check(t, strings.Repeat(one, mostBytes/len(one)))
	}
}

// no are bytes that are no character.
var no = []string{"\x00", "\x0b", "\x80", "\xff", "\xc3", "\xe2\x82", "\xed\xa0\x80", "\xef\xbf\xbf"}

func TestNoCharacters(t *testing.T) {
	for _, bytes := range no {
		for _, ahead := range []string{"", "t", "\u20ac", "<a>", "<", "<a", "<a x='", "<a x", "&", "&lt", "a&b;", "<!--", "<?", "<a x='&' y='", "<a" + many(33) + "/>"} {
			for _, behind := range []string{"", "t", "<", "&", "'/>", "-->", "?>", bytes} {
				if tokens, at, e := Tokens(ahead + bytes + behind); len(tokens) != 0 || at != len(ahead) || e != api.ErrUTF {
					t.Errorf("Tokens(%q): %v, %d, %d", ahead+bytes+behind, tokens, at, e)
				}
			}
		}
	}
}

// P4.2

func TestNoTag(t *testing.T) {
	for why, s := range untagged {
		for _, ahead := range ends {
			for _, behind := range []string{"", " ", "t", "<", "&", "</a>", "\u20ac"} {
				if tokens, at, e := Tokens(ahead + s + behind); len(tokens) != 0 || at != len(ahead) || e != api.ErrToken {
					t.Errorf("%s: Tokens(%q): %v, %d, %d", why, ahead+s+behind, tokens, at, e)
				}
			}
		}
	}
}

func TestNoEnd(t *testing.T) {
	for why, s := range endless {
		for _, ahead := range ends {
			if tokens, at, e := Tokens(ahead + s); len(tokens) != 0 || at != len(ahead) || e != api.ErrToken {
				t.Errorf("%s: Tokens(%q): %v, %d, %d", why, ahead+s, tokens, at, e)
			}
			for _, behind := range []string{">", "/>", "'>", "\"/>", "='1'>", "-->", "?>", "<", "<b/>", "&"} {
				check(t, ahead+s+behind)
			}
		}
	}
}

func TestTooManyAttributes(t *testing.T) {
	for _, ahead := range ends {
		for _, end := range []string{">", "/>", " >", "\n/>"} {
			for n := mostAttrs - 1; n <= mostAttrs+2; n++ {
				s := ahead + "<a" + many(n) + end
				tokens, at, e := Tokens(s)
				if n > mostAttrs && (len(tokens) != 0 || at != len(ahead) || e != api.ErrLimit) {
					t.Errorf("%d attributes behind %q: %v, %d, %d", n, ahead, tokens, at, e)
				}
				if n <= mostAttrs && (e != api.OK || len(tokens) == 0 || len(tokens[len(tokens)-1].Attrs) != n) {
					t.Errorf("%d attributes behind %q: %v, %d, %d", n, ahead, tokens, at, e)
				}
				check(t, s+"t&lt;<b/>")
			}
		}
	}
	most := "<a" + strings.Repeat(" x=''", (mostBytes-4)/5) + ">"
	if tokens, at, e := Tokens(most); len(tokens) != 0 || at != 0 || e != api.ErrLimit {
		t.Errorf("a tag of %d bytes: %v, %d, %d", len(most), tokens, at, e)
	}
}

func TestWrongReferences(t *testing.T) {
	for _, wrong := range []string{"&", "&b;", "&lt", "&;", "&#0;", "&#xD800;", "&nbsp;", "& ", "&#65"} {
		for _, within := range []string{"", "a", "\u20ac", "&amp;", ">", "&#x20AC;\n"} {
			for _, ahead := range ends {
				for _, x := range [][2]string{{"", ""}, {"", "t"}, {"", "<"}, {"", "<a" + many(33) + ">"}, {"", "<a/>&"}, {"", "<!-- -->"}, {"<a x='", "'/>"}, {"<a x=\"", "\">&"}, {"<a y='&gt;' x = '", "' z='&'>"}, {"<a" + many(33) + " x='", "'/><"}, {"<a" + many(31) + " x='", "'" + many(40) + "/>"}} {
					s := ahead + x[0] + within + wrong + x[1]
					if tokens, at, e := Tokens(s); len(tokens) != 0 || at != len(ahead+x[0]+within) || e != api.ErrEntity {
						t.Errorf("Tokens(%q): %v, %d, %d", s, tokens, at, e)
					}
				}
			}
		}
	}
}

// What is wrong is told where it stands first, whatever is wrong behind it.
func TestTheFirstFault(t *testing.T) {
	much := "<a" + many(33) + "/>"
	for _, x := range []struct {
		s  string
		at int
		e  api.Errno
	}{
		{"a&b;<", 1, api.ErrEntity}, {"<c d>&", 0, api.ErrToken}, {"&<c d>", 0, api.ErrEntity},
		{much + "<", 0, api.ErrLimit}, {"<" + much, 0, api.ErrToken}, {"<b/><" + much, 4, api.ErrToken},
		{much + "&", 0, api.ErrLimit}, {"t&" + much, 1, api.ErrEntity},
		{much + "<a x='&'/>", 0, api.ErrLimit}, {"<a x='&'/>" + much, 6, api.ErrEntity},
		{"<a x='&'/><", 6, api.ErrEntity}, {"<<a x='&'/>", 0, api.ErrToken},
		{"<a x='&' y='&#0;'/>", 6, api.ErrEntity}, {"<a x='1' y='2&'/>", 13, api.ErrEntity}, {"<a x='&lt;&' y='&'>", 10, api.ErrEntity},
		{"<a x='&' y='<'/>", 0, api.ErrToken}, {"<a x='&'", 0, api.ErrToken}, {"<a x='&'" + many(33), 0, api.ErrToken},
		{"<!-- & --><?&?>&", 15, api.ErrEntity}, {"<!-- & <? --><b <>", 13, api.ErrToken},
		{"t&amp;<!-- -->u&", 15, api.ErrEntity}, {"t&am<!-- -->p;", 1, api.ErrEntity}, {"&a<b/>mp;", 0, api.ErrEntity},
	} {
		if tokens, at, e := Tokens(x.s); len(tokens) != 0 || at != x.at || e != x.e {
			t.Errorf("Tokens(%q): %v, %d, %d; not %d, %d", x.s, tokens, at, e, x.at, x.e)
		}
	}
}

// P4.3

func TestBlank(t *testing.T) {
	for s, want := range map[string]bool{"": true, " ": true, "\t": true, "\n": true, "\r": true, " \t\n\r": true, "\r\n \r\n": true, "a": false, " a": false, "a ": false, " a ": false, "\n\n-\n": false, "\v": false, "\f": false, "\x00": false, "\u0085": false, "\u00a0": false, "\u2003": false, "\ufeff": false, "&#32;": false, " \xff ": false, "\xa0": false, "<": false} {
		if Blank(s) != want {
			t.Errorf("Blank(%q): %t", s, !want)
		}
	}
	for b := range 256 {
		one := string([]byte{byte(b)})
		for _, s := range []string{one, " " + one, one + "\n", "\t" + one + "\r", one + one} {
			if want := b == 32 || b == 9 || b == 10 || b == 13; Blank(s) != want {
				t.Errorf("Blank(%q): %t", s, !want)
			}
		}
	}
	long := strings.Repeat(" \n", 1<<20)
	if !Blank(long) || Blank(long+"x") || Blank("x"+long) || Blank(long+"x"+long) {
		t.Error("Blank of long texts")
	}
}

// P4.1 to P4.3: both calls, held against the chapter's words.

// samples have all that a text may have.
var samples = []string{"<a/>", "</a >", "<a:b c = '1' d=\"2\">", "<a x='&lt;'/>b", "t<!-- n -->u", "<?x y?>", "a&amp;b<c>", "<!----><??>"}

func TestEveryByteAtEachPlace(t *testing.T) {
	for _, x := range samples {
		for at := range len(x) + 1 {
			for b := range 256 {
				one := string([]byte{byte(b)})
				check(t, x[:at]+one+x[at:])
				if at < len(x) {
					check(t, x[:at]+one+x[at+1:])
				}
			}
		}
	}
}

func TestEachPlaceWithoutABit(t *testing.T) {
	for _, x := range samples {
		for from := range len(x) + 1 {
			for to := from; to <= len(x); to++ {
				check(t, x[:from]+x[to:])
				check(t, x[from:to])
				check(t, x[:to]+x[from:])
			}
		}
	}
}

func TestAllShortTexts(t *testing.T) {
	var try func(s string, left int, pieces []string)
	try = func(s string, left int, pieces []string) {
		check(t, s)
		if left > 0 {
			for _, next := range pieces {
				try(s+next, left-1, pieces)
			}
		}
	}
	tag := []string{"<", ">", "/", "a", ":", " ", "\n", "=", "'", "\"", "b='1'", "&lt;", "&", "-"}
	for _, ahead := range []string{"", "<", "</", "<a", "<a ", "<a b", "<a b=", "<a b='", "<a b=\"c\""} {
		try(ahead, 4, tag)
	}
	remark := []string{"<", "!", "-", "?", ">", "a", "&"}
	for _, ahead := range []string{"", "<!", "<!-", "<!--", "<?", "<!-->"} {
		try(ahead, 5, remark)
	}
}

func TestAllLengthsOfNames(t *testing.T) {
	for n := 1; n <= mostName+3; n++ {
		for _, s := range []string{"<@>", "<@/>", "<@ x='1'>", "</@>", "<a @='1'>", "<a @ = '1' @=''/>", "<b:@>", "<@:b/>", "</@:b>", "<a b:@=''/>", "<a>@</a>"} {
			check(t, strings.ReplaceAll(s, "@", row(n)))
		}
	}
}

// P4.4

func TestWhatIsHandedInIsOnlyRead(t *testing.T) {
	for _, s := range append(slices.Clone(samples), "<a", "&", "\xff", "<a x='&'>", " \n") {
		given := strings.Clone(s)
		Tokens(given)
		Blank(given)
		if given != s {
			t.Errorf("%q was handed in, and is %q now", s, given)
		}
	}
}

func TestWhatIsAnsweredIsNewMemory(t *testing.T) {
	const s = "<a x='1' y='2'/>t<b z='3'><c x='1' y='2' z='3'/></b>"
	first, _, _ := Tokens(s)
	second, _, _ := Tokens(s)
	told, _, _ := toldTokens(s)
	for i := range first {
		list := append(first[i].Attrs, Attr{"more", "more"})
		for j := range list {
			list[j] = Attr{"other", "other"}
		}
		for j := range first {
			if j > i && !sameToken(first[j], told[j]) {
				t.Errorf("token %d is %v, since token %d was written on", j, first[j], i)
			}
		}
		clear(first[i].Attrs)
		first[i] = Token{}
	}
	third, _, _ := Tokens(s)
	if !same(second, told) || !same(third, told) {
		t.Errorf("other answers, since one was written on: %v, %v", second, third)
	}
}

// P4.5

// plain are tokens, each to be written plainly.
var plain = []Token{
	{Kind: Open, Name: "a"}, {Kind: Open, Name: "x:y", Attrs: []Attr{{"x", "1"}}}, {Kind: Open, Name: "a", Attrs: []Attr{{"b", "'\"<>&\t\n\r"}, {"b", ""}, {"c:d", "\u20ac"}}},
	{Kind: Close, Name: "a"}, {Kind: Close, Name: "x:y"}, {Kind: Close, Name: row(mostName)},
	{Kind: Empty, Name: "a"}, {Kind: Empty, Name: "_", Attrs: []Attr{{"x", "/>"}}}, {Kind: Empty, Name: row(mostName), Attrs: make([]Attr, 0, 1)},
	{Kind: Text, Text: "t"}, {Kind: Text, Text: " \n"}, {Kind: Text, Text: "<a x='1'>&<!-- -->\r\u20ac]]>"}, {Kind: Text, Text: "&lt;"},
}

// written writes tokens plainly, and tells them with their places.
func written(t *testing.T, tokens ...Token) (string, []Token) {
	var s strings.Builder
	coded := func(text string, attr bool) string {
		c, e := entity.Encode(text, attr)
		if e != api.OK {
			t.Fatalf("Encode(%q): %d", text, e)
		}
		return c
	}
	placed := slices.Clone(tokens)
	for i, x := range tokens {
		placed[i].At = s.Len()
		if x.Kind == Text {
			s.WriteString(coded(x.Text, false))
			continue
		}
		s.WriteString(map[uint8]string{Open: "<", Close: "</", Empty: "<"}[x.Kind] + x.Name)
		for _, a := range x.Attrs {
			s.WriteString(" " + a.Name + "=\"" + coded(a.Value, true) + "\"")
		}
		s.WriteString(map[uint8]string{Open: ">", Close: ">", Empty: "/>"}[x.Kind])
	}
	return s.String(), placed
}

func TestWhatIsWrittenPlainlyIsCutAsItWas(t *testing.T) {
	try := func(tokens ...Token) {
		for i := range len(tokens) - 1 {
			if tokens[i].Kind == Text && tokens[i+1].Kind == Text {
				return
			}
		}
		s, placed := written(t, tokens...)
		if got, at, e := Tokens(s); !same(got, placed) || at != 0 || e != api.OK {
			t.Errorf("Tokens(%q): %v, %d, %d; not %v", s, got, at, e, placed)
		}
	}
	full := Token{Kind: Empty, Name: "a"}
	for range mostAttrs {
		full.Attrs = append(full.Attrs, Attr{row(mostName), "<'\">"})
	}
	try()
	try(full)
	for _, a := range plain {
		try(a)
		try(full, a, full)
		for _, b := range plain {
			try(a, b)
			for _, c := range plain {
				try(a, b, c)
				try(c, a, b, a, c)
			}
		}
	}
}

// cuttable are texts that are cut.
func cuttable() []string {
	texts := slices.Clone(ends)
	for _, x := range right {
		texts = append(texts, x.s)
	}
	return texts
}

func TestTextsOneBehindTheOther(t *testing.T) {
	for _, a := range cuttable() {
		for _, b := range cuttable() {
			if !strings.HasPrefix(b, "<") {
				continue
			}
			want, _, _ := Tokens(a)
			second, _, _ := Tokens(b)
			for _, x := range second {
				x.At += len(a)
				want = append(want, x)
			}
			if got, at, e := Tokens(a + b); !same(got, want) || at != 0 || e != api.OK {
				t.Errorf("Tokens(%q): %v, %d, %d; not %v", a+b, got, at, e, want)
			}
		}
	}
}

// A text that is cut up to where the next token begins has that one token alone, at its beginning.
func TestTokensStandInOrder(t *testing.T) {
	for _, a := range cuttable() {
		for _, b := range cuttable() {
			s := a + b
			tokens, _, _ := Tokens(s)
			for i, x := range tokens {
				end := len(s)
				if i+1 < len(tokens) {
					end = tokens[i+1].At
				}
				if x.At < 0 || x.At >= end || end > len(s) {
					t.Fatalf("Tokens(%q): %v, out of order at %d", s, tokens, i)
				}
				alone, _, e := Tokens(s[x.At:end])
				x.At = 0
				if e != api.OK || len(alone) != 1 || !sameToken(alone[0], x) {
					t.Errorf("Tokens(%q): %v, but of %q: %v, %d", s, tokens, s[x.At:end], alone, e)
				}
			}
		}
	}
}
