package lex

import (
	"bytes"
	"math/rand"
	"regexp"
	"slices"
	"strconv"
	"strings"
	"testing"
	"unsafe"

	"hopscotch/api"
)

// The chapter's words for blanks and for tokens, but for the length of names and numbers.
var (
	blankWords  = regexp.MustCompile(`\A(?:[\x09\x0a\x0d\x20]|--[^\x0a]*)`)
	numberWords = regexp.MustCompile(`\A[0-9]+`)
	nameWords   = regexp.MustCompile(`\A[A-Za-z_][A-Za-z0-9_]*`)
	wordWords   = regexp.MustCompile(`\A(?:and|div|else|emit|endif|false|if|implies|mod|not|or|then|true|xor)\z`)
	signWords   = regexp.MustCompile(`\A(?::=|<>|<=|>=|<|>|=|\+|-|\*|\(|\)|,|;)`)
)

// The chapter's bounds, as its own numbers.
const (
	mostBytes = 65536
	mostName  = 64
)

var (
	words = []string{"and", "div", "else", "emit", "endif", "false", "if", "implies", "mod", "not", "or", "then", "true", "xor"}
	marks = []string{":=", "<>", "<=", ">=", "<", ">", "=", "+", "-", "*", "(", ")", ",", ";"}
)

// toldFirst tells the kind of the token with which s begins, and its bytes; 0 if it begins with none.
func toldFirst(s string) (uint8, string) {
	if digits := numberWords.FindString(s); digits != "" && len(digits) <= mostName {
		return Number, digits
	}
	if name := nameWords.FindString(s); name != "" && len(name) <= mostName {
		if wordWords.MatchString(name) {
			return Word, name
		}
		return Name, name
	}
	if sign := signWords.FindString(s); sign != "" {
		return Sign, sign
	}
	return 0, ""
}

// toldTokens goes through a text by the chapter's words.
func toldTokens(s string) ([]Token, int, api.Errno) {
	if len(s) > mostBytes {
		return nil, 0, api.ErrLimit
	}
	var l []Token
	for at := 0; at < len(s); {
		if n := len(blankWords.FindString(s[at:])); n > 0 {
			at += n
			continue
		}
		kind, text := toldFirst(s[at:])
		if kind == 0 {
			return nil, at, api.ErrLex
		}
		l = append(l, Token{kind, text, at})
		at += len(text)
	}
	return l, 0, api.OK
}

// toldIs tells the kind of a text that is one token.
func toldIs(s string) uint8 {
	if l, _, e := toldTokens(s); e == api.OK && len(l) == 1 && l[0].Text == s {
		return l[0].Kind
	}
	return 0
}

// check holds all calls against what the chapter's words tell of s.
func check(t *testing.T, s string) {
	t.Helper()
	l, at, e := Tokens(s)
	told, place, f := toldTokens(s)
	if !slices.Equal(l, told) || at != place || e != f {
		t.Fatalf("Tokens(%q): %v, %d, %d; told: %v, %d, %d", s, l, at, e, told, place, f)
	}
	kind := toldIs(s)
	if is := Is(s); is != kind {
		t.Fatalf("Is(%q): %d; told: %d", s, is, kind)
	}
	for k := range uint8(6) {
		shown, e := Show(Token{Kind: k, Text: s, At: -7})
		if right := k == kind && k != 0; right && (shown != s || e != api.OK) || !right && (shown != "" || e != api.ErrArg) {
			t.Fatalf("Show of kind %d, %q: %q, %d", k, s, shown, e)
		}
	}
}

// row is a name's beginning, n bytes long, of all the bytes that a name may have.
func row(n int) string {
	const all = "_aZ9zA0bY8cX7dW6eV5fU4gT3hS2iR1jQkPlOmNnMoLpKqJrIsHtGuFvEwDxCyB"
	return strings.Repeat(all, n/len(all)+1)[:n]
}

// digits are n of them.
func digits(n int) string { return strings.Repeat("0123456789", n/10+1)[:n] }

// plain puts a token down as its kind's number and its bytes.
func plain(l []Token) string {
	var all []string
	for _, x := range l {
		all = append(all, strconv.Itoa(int(x.Kind))+x.Text)
	}
	return strings.Join(all, " ")
}

// right are texts that are tokens, with their tokens put down, and their places.
var right = []struct {
	s, l   string
	places []int
}{
	{"", "", nil}, {" ", "", nil}, {" \t\r\n", "", nil}, {"--", "", nil}, {"-- all", "", nil}, {"--\n", "", nil}, {"---", "", nil}, {"----", "", nil}, {" -- a\n\t-- b\r\n--", "", nil},
	{"x", "2x", []int{0}}, {"1", "11", []int{0}}, {"if", "3if", []int{0}}, {"-", "4-", []int{0}}, {"  x  ", "2x", []int{2}},
	{"x:=x+1 -- more", "2x 4:= 2x 4+ 11", []int{0, 1, 3, 4, 5}}, {"a<=>b", "2a 4<= 4> 2b", []int{0, 1, 3, 4}},
	{"n < most", "2n 4< 2most", []int{0, 2, 4}}, {"n<>0 and not done", "2n 4<> 10 3and 3not 2done", []int{0, 1, 3, 5, 9, 13}},
	{"if not a then emit go(-1); endif", "3if 3not 2a 3then 3emit 2go 4( 4- 11 4) 4; 3endif", []int{0, 3, 7, 9, 14, 19, 21, 22, 23, 24, 25, 27}},

	// As long as may be.
	{"1a", "11 2a", []int{0, 1}}, {"a1", "2a1", []int{0}}, {"1a1", "11 2a1", []int{0, 1}}, {"0x1F", "10 2x1F", []int{0, 1}}, {"1_000", "11 2_000", []int{0, 1}}, {"007", "1007", []int{0}}, {"1if", "11 3if", []int{0, 1}},
	{"<>", "4<>", []int{0}}, {"><", "4> 4<", []int{0, 1}}, {"<<=", "4< 4<=", []int{0, 1}}, {"<<>>", "4< 4<> 4>", []int{0, 1, 3}}, {"<>=", "4<> 4=", []int{0, 2}}, {"<=>=", "4<= 4>=", []int{0, 2}}, {">>=", "4> 4>=", []int{0, 1}}, {"=<", "4= 4<", []int{0, 1}}, {"==", "4= 4=", []int{0, 1}}, {"=>", "4= 4>", []int{0, 1}},
	{":=", "4:=", []int{0}}, {":==", "4:= 4=", []int{0, 2}}, {":=:=", "4:= 4:=", []int{0, 2}}, {"a:=-b", "2a 4:= 4- 2b", []int{0, 1, 3, 4}},
	{"< =", "4< 4=", []int{0, 2}}, {"< >", "4< 4>", []int{0, 2}}, {"<\n=", "4< 4=", []int{0, 2}}, {"><=+*(),;", "4> 4<= 4+ 4* 4( 4) 4, 4;", []int{0, 1, 3, 4, 5, 6, 7, 8}},

	// Names and words.
	{"ifs", "2ifs", []int{0}}, {"_if", "2_if", []int{0}}, {"if_", "2if_", []int{0}}, {"if1", "2if1", []int{0}}, {"If", "2If", []int{0}}, {"IF", "2IF", []int{0}}, {"if if", "3if 3if", []int{0, 3}}, {"ifif", "2ifif", []int{0}}, {"andor", "2andor", []int{0}}, {"tru", "2tru", []int{0}}, {"i", "2i", []int{0}}, {"_", "2_", []int{0}}, {"_1", "2_1", []int{0}}, {"endif;", "3endif 4;", []int{0, 5}}, {"not(true)", "3not 4( 3true 4)", []int{0, 3, 4, 8}}, {"arg", "2arg", []int{0}}, {"Xor xor", "2Xor 3xor", []int{0, 4}},

	// - ahead of -.
	{"a- -b", "2a 4- 4- 2b", []int{0, 1, 3, 4}}, {"a--b\nc", "2a 2c", []int{0, 5}}, {"a-b", "2a 4- 2b", []int{0, 1, 2}}, {"a---b", "2a", []int{0}}, {"- --\n-", "4- 4-", []int{0, 5}}, {"-\n-", "4- 4-", []int{0, 2}}, {"<--", "4<", []int{0}}, {":=--x\n1", "4:= 11", []int{0, 6}}, {"1--2", "11", []int{0}}, {"(-1)", "4( 4- 11 4)", []int{0, 1, 2, 3}},

	// What a remark has, and where it ends.
	{"a -- ! : \xff\x00 \u20ac -- \"\nb", "2a 2b", []int{0, 21}}, {"--a\rb\nc", "2c", []int{6}}, {"--a\vb\f\u0085\u2028c\nd", "2d", []int{13}}, {"a--", "2a", []int{0}}, {"a--\n", "2a", []int{0}}, {"a--\r\nb", "2a 2b", []int{0, 5}}, {"--\n--\nb", "2b", []int{6}}, {"-- -\n- -- -\n-", "4- 4-", []int{5, 12}}, {"--\n\nb", "2b", []int{4}},

	// The bound of names and numbers.
	{row(mostName), "2" + row(mostName), []int{0}}, {digits(mostName), "1" + digits(mostName), []int{0}}, {digits(mostName) + row(mostName), "1" + digits(mostName) + " 2" + row(mostName), []int{0, mostName}}, {row(mostName) + "-" + row(mostName), "2" + row(mostName) + " 4- 2" + row(mostName), []int{0, 64, 65}}, {row(mostName) + "--" + row(mostName), "2" + row(mostName), []int{0}},
}

// wrong are texts that are no tokens, each with the place of the first fault.
var wrong = []struct {
	s  string
	at int
}{
	{"a ! b", 2}, {"!", 0}, {":", 0}, {"a:b", 1}, {": =", 0}, {"a : = b", 2}, {"::=", 0}, {"a / b", 2}, {"a.b", 1}, {"a[1]", 1}, {"{}", 0}, {"\"a\"", 0}, {"'a'", 0}, {"a & b", 2}, {"a | b", 2}, {"~a", 0}, {"a^b", 1}, {"a%b", 1}, {"#", 0}, {"$a", 0}, {"a@b", 1}, {"?", 0}, {"\\", 0}, {"`", 0}, {"a != b", 2},
	{"a\x00", 1}, {"\x00", 0}, {"a\x7f", 1}, {"a\vb", 1}, {"a\fb", 1}, {"\x1f", 0}, {"\u00a0", 0}, {"a\u0085", 1}, {"\ufeffa", 0}, {"\u2003", 0},
	{"\u00e4", 0}, {"b\u00e4r", 1}, {"a \u20ac", 2}, {"\xff", 0}, {"a\xff", 1}, {"\xe1", 0}, {"\u0661", 0}, {"1\u0661", 1}, {"\uff41", 0}, {"\u2212\u0031", 0}, {"a \u2264 b", 2},
	{"! --", 0}, {"-- !\n!", 5}, {"--\r!\n !", 6}, {"a -- b\n ! -- c", 8}, {"a! !", 1}, {": !", 0}, {"\n\n:", 2}, {"a-:", 2}, {"<=:", 2}, {":=:", 2}, {":-=", 0}, {":--\n=", 0}, {"if ! then", 3},
	{row(mostName + 1), 0}, {digits(mostName + 1), 0}, {"a " + row(mostName+1), 2}, {"a " + digits(mostName+1), 2}, {"1" + row(mostName+1), 1}, {digits(mostName) + row(mostName+1), mostName}, {digits(mostName+1) + "a", 0}, {row(mostName+1) + " !", 0}, {"! " + row(mostName+1), 0}, {row(1000), 0}, {digits(1000), 0}, {"--" + row(1000) + "\n!", 1003}, {strings.Repeat("if", 33), 0}, {"x:=" + strings.Repeat("0", mostName+1), 3}, {strings.Repeat(" ", 100) + row(mostName+1), 100},
}

// P7.1

func TestTokens(t *testing.T) {
	for _, x := range right {
		l, at, e := Tokens(x.s)
		var places []int
		for _, y := range l {
			places = append(places, y.At)
		}
		if plain(l) != x.l || !slices.Equal(places, x.places) || at != 0 || e != api.OK {
			t.Errorf("Tokens(%q): %v, %d, %d; not %q at %v", x.s, l, at, e, x.l, x.places)
		}
		check(t, x.s)
	}
}

func TestNoTokens(t *testing.T) {
	for _, x := range wrong {
		if l, at, e := Tokens(x.s); len(l) != 0 || at != x.at || e != api.ErrLex {
			t.Errorf("Tokens(%q): %v, %d, %d; not %d", x.s, l, at, e, x.at)
		}
		check(t, x.s)
	}
}

func TestTheMostBytes(t *testing.T) {
	for _, x := range []string{" ", "\n", "x ", "1a", "-- \n", "--", "<=", "if(", ":= -- \xff\n"} {
		full := strings.Repeat(x, mostBytes)[:mostBytes]
		check(t, full)
		check(t, full[1:])
		for _, more := range []string{" ", "\n", "-", "a", "!"} {
			check(t, full[len(more):]+more)
			for _, much := range []string{full + more, more + full} {
				if l, at, e := Tokens(much); len(l) != 0 || at != 0 || e != api.ErrLimit {
					t.Errorf("Tokens of %d bytes, of %q and %q: %d tokens, %d, %d", len(much), x, more, len(l), at, e)
				}
			}
		}
	}
	for _, n := range []int{mostBytes + 1, 2 * mostBytes, 1 << 24} {
		for _, x := range []string{" ", "x", "1", "!", "\xff", "-", "\x00"} {
			if l, at, e := Tokens(strings.Repeat(x, n)); len(l) != 0 || at != 0 || e != api.ErrLimit {
				t.Errorf("Tokens of %d times %q: %d tokens, %d, %d", n, x, len(l), at, e)
			}
		}
	}
	last := strings.Repeat(" ", mostBytes-1)
	if l, at, e := Tokens(last + "!"); len(l) != 0 || at != mostBytes-1 || e != api.ErrLex {
		t.Errorf("Tokens with a fault at the last place: %v, %d, %d", l, at, e)
	}
	if l, at, e := Tokens(last + ";"); !slices.Equal(l, []Token{{Sign, ";", mostBytes - 1}}) || at != 0 || e != api.OK {
		t.Errorf("Tokens with one at the last place: %v, %d, %d", l, at, e)
	}
	if l, _, e := Tokens(strings.Repeat(";", mostBytes)); len(l) != mostBytes || e != api.OK {
		t.Errorf("Tokens of signs alone: %d, %d", len(l), e)
	}
}

// P7.2

func TestIs(t *testing.T) {
	for _, x := range []struct {
		kind uint8
		all  []string
	}{
		{Number, []string{"0", "9", "10", "007", "00", "9223372036854775808", digits(mostName), strings.Repeat("0", mostName)}},
		{Name, []string{"a", "z", "A", "Z", "_", "__", "a1", "_1", "emits", "Emit", "EMIT", "iff", "i", "f", "f_if", "arg", "Int", "go", "true_", "elseif", row(mostName)}},
		{Word, words},
		{Sign, marks},
		{0, []string{"", " ", "\n", "--", "---", "-- a", "--\n", "a ", " a", "a\n", "\na", "a--", "--a", "if ", " if", "- ", " -", "1 ", " 1", "1a", "a b", "a;", ";a", "1-", "-1", "+1", "<<", "=<", "<>=", "<=>", ":", ":=:", ": =", "==", "!", "!=", "/", ".", "1.0", "1e", "\"", "a-b", "a.b", "a:b", "if(", "ifif(", "\x00", "a\x00", "\xff", "a\xff", "\u00e4", "\u0661", row(mostName + 1), digits(mostName + 1), row(1 << 20), digits(1 << 20)}},
	} {
		for _, s := range x.all {
			if kind := Is(s); kind != x.kind {
				t.Errorf("Is(%q): %d, not %d", s, kind, x.kind)
			}
		}
	}
	if Number != 1 || Name != 2 || Word != 3 || Sign != 4 {
		t.Errorf("the kinds are %d, %d, %d, %d", Number, Name, Word, Sign)
	}
}

// P7.1, P7.2: both calls (and Show of one token), held against the chapter's words.

// samples have all that a text may have.
var samples = []string{"x:=x+1; -- more\nemit go(a<=b)", "if a<>07 then -1 else not _b endif", "--\n<=>=", " \t\r\n", "a-b--c", row(mostName) + ";" + digits(mostName)}

func TestEveryByteAtEachPlace(t *testing.T) {
	for _, x := range append(slices.Clone(samples), words...) {
		for at := range len(x) + 1 {
			for b := range 256 {
				one := string([]byte{byte(b)})
				check(t, x[:at]+one+x[at:])
				if at < len(x) {
					check(t, x[:at]+one+x[at+1:])
				}
			}
		}
	}
}

func TestEachPlaceWithoutABit(t *testing.T) {
	for _, x := range append(slices.Clone(samples), words...) {
		for from := range len(x) + 1 {
			for to := from; to <= len(x); to++ {
				check(t, x[:from]+x[to:])
				check(t, x[from:to])
				check(t, x[:to]+x[from:])
			}
		}
	}
}

func TestAllTextsOfTwoBytes(t *testing.T) {
	for a := range 256 {
		check(t, string([]byte{byte(a)}))
		for b := range 256 {
			check(t, string([]byte{byte(a), byte(b)}))
		}
	}
}

func TestAllShortTexts(t *testing.T) {
	var try func(s string, left int, pieces []string)
	try = func(s string, left int, pieces []string) {
		check(t, s)
		if left > 0 {
			for _, next := range pieces {
				try(s+next, left-1, pieces)
			}
		}
	}
	try("", 5, []string{"-", "\n", " ", "<", "=", ">", ":", "a", "1"})
	try("", 4, []string{"if", "a", "_", "0", "-", "\n", "\r", "\t", "+", "*", "(", ")", ",", ";", "!", "\xff"})
	try("", 2, append(slices.Concat(words, marks), "a", "_", "7", " ", "\n", "--", "!", row(mostName), row(mostName-1), digits(mostName), digits(mostName-1)))
}

// There are no words but the chapter's, in no other writing.
func TestNoOtherWords(t *testing.T) {
	const letters = "abcdefghijklmnopqrstuvwxyz"
	for _, a := range letters {
		for _, b := range letters {
			for _, s := range []string{"", string(a), string(a) + string(b)} {
				for _, c := range letters {
					check(t, s+string(c))
				}
			}
		}
	}
	for _, s := range []string{"arg", "int", "bool", "number", "while", "loop", "begin", "end", "elif", "elsif", "elseif", "fi", "iff", "nand", "equiv", "return", "goto", "break", "case", "when", "after", "send", "assign", "skip", "null", "self", "default", "quot", "rem", "abs", "unless"} {
		if Is(s) != Name {
			t.Errorf("Is(%q): %d", s, Is(s))
		}
	}
	for _, s := range words {
		for i := range s {
			check(t, s[:i]+strings.ToUpper(s[i:i+1])+s[i+1:])
		}
		for _, other := range []string{strings.ToUpper(s), s + s, s + "s", s + "_", s + "0", "_" + s, "x" + s, s[1:], s[:len(s)-1]} {
			check(t, other)
		}
	}
}

func TestAllLengths(t *testing.T) {
	for n := range 3*mostName + 1 {
		for _, s := range []string{"@", " @", "@ ", "@;", "-@", "@-1", "a:=@;", "1@", "a@", "@--@", "--@\n@", "@\n@", "@!", "!@"} {
			check(t, strings.ReplaceAll(s, "@", row(n)))
			check(t, strings.ReplaceAll(s, "@", digits(n)))
			check(t, strings.ReplaceAll(s, "@", strings.Repeat("_", n)))
			check(t, strings.ReplaceAll(s, "@", strings.Repeat("-", n)))
			check(t, strings.ReplaceAll(s, "@", strings.Repeat(" ", n)))
		}
	}
}

// P7.3

// some are right tokens, of all kinds.
func some() []Token {
	all := []Token{{Number, "0", 0}, {Number, "007", 3}, {Number, digits(mostName), -1}, {Name, "x", 7}, {Name, "_9", 0}, {Name, "iff", 1 << 40}, {Name, row(mostName), -1 << 40}}
	for i, s := range words {
		all = append(all, Token{Word, s, i})
	}
	for i, s := range marks {
		all = append(all, Token{Sign, s, -i})
	}
	return all
}

// none are tokens whose kind is not that of their bytes.
func none() []Token {
	all := []Token{
		{}, {Kind: 0, Text: "a"}, {Kind: 0, Text: "!"}, {Kind: 5, Text: "a"}, {Kind: 255, Text: ""}, {Kind: 5, Text: ""},
		{Kind: Name}, {Kind: Number}, {Kind: Word}, {Kind: Sign},
		{Kind: Number, Text: "1a"}, {Kind: Number, Text: "-1"}, {Kind: Number, Text: " 1"}, {Kind: Number, Text: "1 "}, {Kind: Number, Text: "a"}, {Kind: Number, Text: digits(mostName + 1)}, {Kind: Number, Text: "\u0661"},
		{Kind: Name, Text: "1a"}, {Kind: Name, Text: "a b"}, {Kind: Name, Text: "a "}, {Kind: Name, Text: " a"}, {Kind: Name, Text: "a.b"}, {Kind: Name, Text: "a--"}, {Kind: Name, Text: "if"}, {Kind: Name, Text: row(mostName + 1)}, {Kind: Name, Text: "\u00e4"}, {Kind: Name, Text: "a\x00"}, {Kind: Name, Text: "a\n"},
		{Kind: Word, Text: "If"}, {Kind: Word, Text: "emits"}, {Kind: Word, Text: "if "}, {Kind: Word, Text: ";"}, {Kind: Word, Text: "1"},
		{Kind: Sign, Text: "!"}, {Kind: Sign, Text: "--"}, {Kind: Sign, Text: "<=>"}, {Kind: Sign, Text: ":"}, {Kind: Sign, Text: "<= "}, {Kind: Sign, Text: "a"}, {Kind: Sign, Text: "and"}, {Kind: Sign, Text: "/"},
	}
	for _, x := range some() {
		for kind := range 256 {
			if uint8(kind) != x.Kind && (kind < 8 || kind > 250) {
				all = append(all, Token{uint8(kind), x.Text, x.At})
			}
		}
	}
	return all
}

// joined are the bytes of tokens, with a blank between any two.
func joined(l []Token) string {
	var b bytes.Buffer
	for i, x := range l {
		if i > 0 {
			b.WriteByte(32)
		}
		b.WriteString(x.Text)
	}
	return b.String()
}

func TestShow(t *testing.T) {
	for _, x := range []struct {
		l    []Token
		want string
	}{
		{nil, ""}, {[]Token{}, ""}, {[]Token{{Name, "x", 7}}, "x"}, {[]Token{{Name, "x", 7}, {Sign, ":=", 0}, {Number, "1", -3}}, "x := 1"},
		{[]Token{{Sign, "-", 0}, {Sign, "-", 0}}, "- -"}, {[]Token{{Sign, "<", 0}, {Sign, "=", 1}}, "< ="}, {[]Token{{Number, "1", 0}, {Name, "a", 0}}, "1 a"}, {[]Token{{Word, "if", 0}, {Word, "if", 0}}, "if if"}, {[]Token{{Number, "0", 0}, {Number, "0", 0}}, "0 0"},
		{some(), joined(some())},
	} {
		if s, e := Show(x.l...); s != x.want || e != api.OK {
			t.Errorf("Show(%v): %q, %d; not %q", x.l, s, e, x.want)
		}
	}
	for _, a := range some() {
		for _, b := range some() {
			l := []Token{a, b}
			if s, e := Show(l...); s != joined(l) || e != api.OK {
				t.Errorf("Show(%v): %q, %d", l, s, e)
			}
		}
	}
}

func TestShowOfWrongOnes(t *testing.T) {
	for _, x := range none() {
		for _, l := range [][]Token{{x}, {x, some()[0]}, {some()[0], x}, {some()[3], x, some()[4]}, append(some(), x), append([]Token{x}, some()...), {x, x}, {{}, x}} {
			if s, e := Show(l...); s != "" || e != api.ErrArg {
				t.Errorf("Show(%v): %q, %d", l, s, e)
			}
		}
	}
}

func TestPlacesCountForNothing(t *testing.T) {
	want := joined(some())
	for _, at := range []int{0, 1, -1, 1 << 62, -1 << 63} {
		l := some()
		for i := range l {
			l[i].At = at
		}
		if s, e := Show(l...); s != want || e != api.OK {
			t.Errorf("Show, with all at %d: %q, %d", at, s, e)
		}
	}
}

// Show has no bound of its own.
func TestShowOfMany(t *testing.T) {
	for _, n := range []int{mostBytes / 2, mostBytes, 4 * mostBytes} {
		if s, e := Show(slices.Repeat([]Token{{Sign, "-", 0}}, n)...); s != strings.TrimSuffix(strings.Repeat("- ", n), " ") || e != api.OK {
			t.Errorf("Show of %d: %d bytes, %d", n, len(s), e)
		}
	}
}

// P7.4

func TestWhatIsHandedInIsOnlyRead(t *testing.T) {
	for _, s := range append(slices.Clone(samples), "!", "a !", "--", row(mostName+1), "") {
		given := strings.Clone(s)
		Tokens(given)
		Is(given)
		if given != s {
			t.Errorf("%q was handed in, and is %q now", s, given)
		}
	}
	for _, x := range append(none(), some()...) {
		list := append(append(some(), x), some()...)
		before := slices.Clone(list)
		n := len(some()) + 1
		Show(list[:n]...)
		Show(list[1:n:n]...)
		if !slices.Equal(list, before) {
			t.Errorf("%v was handed in, and is %v now", before, list)
		}
	}
}

// within tells whether part lies in the memory of whole.
func within(part, whole string) bool {
	if part == "" || whole == "" {
		return false
	}
	p, w := uintptr(unsafe.Pointer(unsafe.StringData(part))), uintptr(unsafe.Pointer(unsafe.StringData(whole)))
	return p < w+uintptr(len(whole)) && w < p+uintptr(len(part))
}

func TestWhatIsAnsweredIsNewMemory(t *testing.T) {
	for _, x := range right {
		given := strings.Clone(x.s)
		first, _, _ := Tokens(given)
		second, _, _ := Tokens(given)
		for i, a := range first {
			if within(a.Text, given) {
				t.Errorf("Tokens(%q): token %d lies in what was handed in", x.s, i)
			}
			for j, b := range first {
				if i != j && within(a.Text, b.Text) {
					t.Errorf("Tokens(%q): tokens %d and %d share memory", x.s, i, j)
				}
			}
			for j, b := range second {
				if within(a.Text, b.Text) {
					t.Errorf("Tokens(%q): token %d of one answer, and %d of another, share memory", x.s, i, j)
				}
			}
		}
		want := slices.Clone(second)
		first = append(first, Token{9, "more", 9})
		for i := range first {
			first[i] = Token{9, "other", 9}
		}
		third, _, _ := Tokens(given)
		if !slices.Equal(second, want) || !slices.Equal(third, want) {
			t.Errorf("Tokens(%q): other answers, since one was written on: %v, %v", x.s, second, third)
		}
	}
	for _, x := range some() {
		for _, l := range [][]Token{{x}, {x, x}} {
			first, _ := Show(l...)
			second, _ := Show(l...)
			if within(first, x.Text) || within(first, second) {
				t.Errorf("Show(%v): not new memory", l)
			}
		}
	}
}

// P7.5

// placed are tokens with the places that they have when they are shown.
func placed(l []Token) []Token {
	all := slices.Clone(l)
	at := 0
	for i := range all {
		all[i].At = at
		at += len(all[i].Text) + 1
	}
	return all
}

func TestWhatIsShownHasItsTokens(t *testing.T) {
	try := func(l ...Token) {
		s, e := Show(l...)
		got, at, f := Tokens(s)
		if e != api.OK || !slices.Equal(got, placed(l)) || at != 0 || f != api.OK {
			t.Errorf("Show(%v): %q, %d; its tokens: %v, %d, %d", l, s, e, got, at, f)
		}
	}
	try()
	try(some()...)
	for _, a := range some() {
		try(a)
		for _, b := range some() {
			try(a, b)
			for _, c := range some() {
				try(a, b, c)
			}
		}
	}
	for _, x := range right {
		l, _, _ := Tokens(x.s)
		try(l...)
	}
	r := rand.New(rand.NewSource(7))
	for range 300 {
		var l []Token
		for range r.Intn(500) {
			l = append(l, some()[r.Intn(len(some()))])
		}
		try(l...)
	}
}

// texts are right ones and wrong ones.
func texts() []string {
	all := slices.Clone(samples)
	for _, x := range right {
		all = append(all, x.s)
	}
	for _, x := range wrong {
		all = append(all, x.s)
	}
	return all
}

func TestTwoTextsWithAByte10Between(t *testing.T) {
	try := func(a, b string) {
		want, at, e := Tokens(a)
		if e == api.OK {
			var more []Token
			more, at, e = Tokens(b)
			if e == api.OK {
				for _, x := range more {
					x.At += len(a) + 1
					want = append(want, x)
				}
			} else {
				want, at = nil, at+len(a)+1
			}
		}
		if l, place, f := Tokens(a + "\n" + b); !slices.Equal(l, want) || place != at || f != e {
			t.Errorf("Tokens of %q and %q: %v, %d, %d; not %v, %d, %d", a, b, l, place, f, want, at, e)
		}
	}
	for _, a := range texts() {
		for _, b := range texts() {
			try(a, b)
		}
	}
	half := strings.Repeat("a;", mostBytes/4)
	try(half, half[1:])
	try(half[1:], half)
	try(half[:len(half)-2]+"--", half[1:])
}

// Ahead, behind and between tokens there are blanks alone: so what stands there has no tokens, and is no fault.
func TestBetweenTokensThereAreBlanksAlone(t *testing.T) {
	for _, s := range texts() {
		l, _, e := Tokens(s)
		if e != api.OK {
			continue
		}
		end := 0
		for i, x := range append(l, Token{At: len(s)}) {
			if x.At < end || x.At+len(x.Text) > len(s) || s[x.At:x.At+len(x.Text)] != x.Text {
				t.Fatalf("Tokens(%q): %v, token %d does not stand there", s, l, i)
			}
			if m, at, e := Tokens(s[end:x.At]); len(m) != 0 || at != 0 || e != api.OK {
				t.Errorf("Tokens(%q): %q ahead of token %d", s, s[end:x.At], i)
			}
			if gap := regexp.MustCompile(`--[^\x0a]*`).ReplaceAllString(s[end:x.At], ""); strings.Trim(gap, "\x09\x0a\x0d\x20") != "" {
				t.Errorf("Tokens(%q): %q ahead of token %d", s, gap, i)
			}
			end = x.At + len(x.Text)
		}
	}
}
