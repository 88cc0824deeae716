package tree

import (
	"math"
	"regexp"
	"slices"
	"strconv"
	"strings"
	"testing"
	"unicode/utf8"

	"hopscotch/api"
	"hopscotch/entity"
	"hopscotch/token"
)

// The chapter's bounds, as its own numbers.
const (
	mostBytes = 65536
	mostNodes = 4096
	mostDepth = 64
	mostAttrs = 32
)

// toldName is chapter 2's name, but for how long it may be.
var toldName = regexp.MustCompile(`\A[A-Za-z_][A-Za-z_0-9.\-]*(:[A-Za-z_][A-Za-z_0-9.\-]*)?\z`)

func isName(s string) bool { return len(s) <= 64 && toldName.MatchString(s) }

func isBlank(s string) bool { return strings.Trim(s, "\x20\x09\x0a\x0d") == "" }

func isTag(t token.Token) bool { return t.Kind == token.Open || t.Kind == token.Empty }

// isChars tells whether a text is characters of XML.
func isChars(s string) bool {
	for _, c := range s {
		if c < 32 && c != 9 && c != 10 && c != 13 || c == 0xFFFE || c == 0xFFFF {
			return false
		}
	}
	return utf8.ValidString(s)
}

// toldFault goes through tokens with the names of the elements that are open, and tells the place and the error of the first token that may not stand.
func toldFault(tokens []token.Token, end int) (int, api.Errno) {
	var open []string
	count := 0
	for _, t := range tokens {
		seen := map[string]int{}
		for _, a := range t.Attrs {
			seen[a.Name] = 1
		}
		switch {
		case t.Kind == token.Text && len(open) == 0 && !isBlank(t.Text),
			isTag(t) && count > 0 && len(open) == 0,
			isTag(t) && len(seen) < len(t.Attrs),
			t.Kind == token.Close && (len(open) == 0 || open[len(open)-1] != t.Name):
			return t.At, 50
		case isTag(t) && (count+1 > mostNodes || len(open)+1 > mostDepth):
			return t.At, 3
		}
		switch t.Kind {
		case token.Open:
			open = append(open, t.Name)
			count++
		case token.Empty:
			count++
		case token.Close:
			open = open[:len(open)-1]
		}
	}
	if len(open) > 0 || count == 0 {
		return end, 50
	}
	return 0, 0
}

// toldNode tells the node of the tag at place i of tokens that nest; places tells which node each tag is.
func toldNode(tokens []token.Token, i int, places map[int]int) Node {
	t := tokens[i]
	n := Node{Name: t.Name, Attrs: slices.Clone(t.Attrs), Parent: -1, First: -1, Next: -1, At: t.At}
	slices.SortFunc(n.Attrs, func(a, b token.Attr) int { return strings.Compare(a.Name, b.Name) })
	end, depth := i, 0
	for t.Kind == token.Open {
		end++
		switch k := tokens[end]; {
		case k.Kind == token.Close && depth == 0:
			t.Kind = token.Empty
		case k.Kind == token.Close:
			depth--
		case k.Kind == token.Text && depth == 0:
			n.Text += k.Text
		case isTag(k):
			if depth == 0 && n.First < 0 {
				n.First = places[end]
			}
			if k.Kind == token.Open {
				depth++
			}
		}
	}
	if isBlank(n.Text) {
		n.Text = ""
	}
	for end++; end < len(tokens) && tokens[end].Kind != token.Close && n.Next < 0; end++ {
		if isTag(tokens[end]) {
			n.Next = places[end]
		}
	}
	depth = 0
	for back := i - 1; back >= 0 && n.Parent < 0; back-- {
		switch k := tokens[back]; {
		case k.Kind == token.Close:
			depth++
		case k.Kind == token.Open && depth == 0:
			n.Parent = places[back]
		case k.Kind == token.Open:
			depth--
		}
	}
	return n
}

// toldTree tells the tree of a text by the chapter's words.
func toldTree(s string) (Tree, int, api.Errno) {
	tokens, at, e := token.Tokens(s)
	if e != api.OK {
		return Tree{}, at, e
	}
	if at, e := toldFault(tokens, len(s)); e != api.OK {
		return Tree{}, at, e
	}
	places := map[int]int{}
	for i, t := range tokens {
		if isTag(t) {
			places[i] = len(places)
		}
	}
	var t Tree
	for i := range tokens {
		if isTag(tokens[i]) {
			t.Nodes = append(t.Nodes, toldNode(tokens, i, places))
		}
	}
	return t, 0, api.OK
}

// kidsOf tells all nodes' kids by their parents, in order of their places.
func kidsOf(t Tree) map[int][]int {
	kids := map[int][]int{}
	for i, n := range t.Nodes {
		kids[n.Parent] = append(kids[n.Parent], i)
	}
	return kids
}

// inOrder tells a node and all that is in it, each one followed by its kids; none, if some are deeper than may be.
func inOrder(kids map[int][]int, n, depth int) []int {
	if depth > mostDepth {
		return nil
	}
	row := []int{n}
	for _, k := range kids[n] {
		row = append(row, inOrder(kids, k, depth+1)...)
	}
	return row
}

// toldProper tells whether a node has what the chapter tells, but for its places.
func toldProper(n Node) bool {
	ok := isName(n.Name) && isChars(n.Text) && (n.Text == "" || !isBlank(n.Text)) && len(n.Attrs) <= mostAttrs
	for i, a := range n.Attrs {
		ok = ok && isName(a.Name) && isChars(a.Value) && (i == 0 || n.Attrs[i-1].Name < a.Name)
	}
	return ok
}

// toldRight tells whether a tree is right by the chapter's words.
func toldRight(t Tree) bool {
	if len(t.Nodes) < 1 || len(t.Nodes) > mostNodes {
		return false
	}
	kids := kidsOf(t)
	first := func(row []int) int { return append(slices.Clip(row), -1)[0] }
	for i, n := range t.Nodes {
		mine := slices.Index(kids[n.Parent], i)
		if !toldProper(n) || n.Parent >= i || n.First != first(kids[i]) || n.Next != first(kids[n.Parent][mine+1:]) {
			return false
		}
	}
	var rising []int
	for i := range t.Nodes {
		rising = append(rising, i)
	}
	return slices.Equal(kids[-1], []int{0}) && slices.Equal(inOrder(kids, 0, 1), rising)
}

// toldWritten tells how a node of a right tree is written.
func toldWritten(t Tree, kids map[int][]int, n int) string {
	s := "<" + t.Nodes[n].Name
	for _, a := range t.Nodes[n].Attrs {
		value, _ := entity.Encode(a.Value, true)
		s += " " + a.Name + "=\"" + value + "\""
	}
	text, _ := entity.Encode(t.Nodes[n].Text, false)
	if text == "" && len(kids[n]) == 0 {
		return s + "/>"
	}
	s += ">" + text
	for _, k := range kids[n] {
		s += toldWritten(t, kids, k)
	}
	return s + "</" + t.Nodes[n].Name + ">"
}

// equal tells whether two trees are the same in all, At too.
func equal(a, b Tree) bool {
	return slices.EqualFunc(a.Nodes, b.Nodes, func(m, n Node) bool {
		return m.Name == n.Name && slices.Equal(m.Attrs, n.Attrs) && m.Text == n.Text && m.Parent == n.Parent && m.First == n.First && m.Next == n.Next && m.At == n.At
	})
}

// check holds Parse against what the chapter's words tell of s, and the other calls of what is parsed.
func check(t *testing.T, s string) {
	t.Helper()
	x, at, e := Parse(s)
	told, place, f := toldTree(s)
	if !equal(x, told) || at != place || e != f {
		t.Fatalf("Parse(%q): %+v, %d, %d; told: %+v, %d, %d", s, x, at, e, told, place, f)
	}
	if e == api.OK {
		checkTree(t, x)
	} else if x.Nodes != nil {
		t.Fatalf("Parse(%q): nodes beside %d", s, e)
	}
}

// checkTree holds Check, Write and Kids against what the chapter's words tell of a tree.
func checkTree(t *testing.T, x Tree) {
	t.Helper()
	right, want, written := toldRight(x), api.Errno(50), ""
	kids := kidsOf(x)
	if right {
		want, written = 0, toldWritten(x, kids, 0)
	}
	if e := Check(x); e != want {
		t.Fatalf("Check(%+v): %d; told: %d", x, e, want)
	}
	if s, e := Write(x); s != written || e != want {
		t.Fatalf("Write(%+v): %q, %d; told: %q, %d", x, s, e, written, want)
	}
	for _, n := range append([]int{math.MinInt, -2, -1, len(x.Nodes), math.MaxInt}, places(x)...) {
		told := []int(nil)
		if right && n >= 0 && n < len(x.Nodes) {
			told = kids[n]
		}
		if got := x.Kids(n); !slices.Equal(got, told) {
			t.Fatalf("%+v: Kids(%d): %v; told: %v", x, n, got, told)
		}
	}
}

// places are some places of nodes: all of a small tree's.
func places(x Tree) []int {
	var row []int
	for i := 0; i < len(x.Nodes); i += 1 + len(x.Nodes)/16 {
		row = append(row, i)
	}
	return row
}

// parsed is the tree of a text that has one.
func parsed(t *testing.T, s string) Tree {
	t.Helper()
	x, at, e := Parse(s)
	if e != api.OK {
		t.Fatalf("Parse(%q): %d, %d", s, at, e)
	}
	return x
}

// nest is n elements, each in the one ahead, about what stands in the innermost one.
func nest(n int, in string) string { return strings.Repeat("<a>", n) + in + strings.Repeat("</a>", n) }

// many are n attributes, in falling order of their names.
func many(n int) string {
	s := ""
	for i := range n {
		s += " x" + strconv.Itoa(99-i) + "='" + strconv.Itoa(i) + "'"
	}
	return s
}

// copied is a tree with the same nodes in memory of their own.
func copied(x Tree) Tree {
	y := Tree{Nodes: slices.Clone(x.Nodes)}
	for i := range y.Nodes {
		y.Nodes[i].Attrs = slices.Clone(y.Nodes[i].Attrs)
	}
	return y
}

// P5.1

// right are texts with their trees.
var right = []struct {
	s     string
	nodes []Node
}{
	{"<a/>", []Node{{"a", nil, "", -1, -1, -1, 0}}},
	{"<a></a>", []Node{{"a", nil, "", -1, -1, -1, 0}}},
	{"<?xml?> \n<!-- n --><a></a > <!---->\t", []Node{{"a", nil, "", -1, -1, -1, 19}}},
	{"&#32;<a/>&#10;", []Node{{"a", nil, "", -1, -1, -1, 5}}},
	{"<a y=\"1\" x=\"2\"><b/>t</a>", []Node{{"a", []token.Attr{{Name: "x", Value: "2"}, {Name: "y", Value: "1"}}, "t", -1, 1, -1, 0}, {"b", nil, "", 0, -1, -1, 15}}},
	{"<a B='' a='' _='' a.=' ' a-='&lt;' a:a='' A=''/>", []Node{{"a", []token.Attr{{Name: "A"}, {Name: "B"}, {Name: "_"}, {Name: "a"}, {Name: "a-", Value: "<"}, {Name: "a.", Value: " "}, {Name: "a:a"}}, "", -1, -1, -1, 0}}},
	{"<a> </a>", []Node{{"a", nil, "", -1, -1, -1, 0}}},
	{"<a> &#9;<!-- t -->\n\r</a>", []Node{{"a", nil, "", -1, -1, -1, 0}}},
	{"<a> t </a>", []Node{{"a", nil, " t ", -1, -1, -1, 0}}},
	{"<a> <b>u</b>t<!-- n -->&amp;<b/> </a>", []Node{{"a", nil, " t& ", -1, 1, -1, 0}, {"b", nil, "u", 0, -1, 2, 4}, {"b", nil, "", 0, -1, -1, 28}}},
	{"<a><b><c/><c/></b><b><c/></b></a>", []Node{{"a", nil, "", -1, 1, -1, 0}, {"b", nil, "", 0, 2, 4, 3}, {"c", nil, "", 1, -1, 3, 6}, {"c", nil, "", 1, -1, -1, 10}, {"b", nil, "", 0, 5, -1, 18}, {"c", nil, "", 4, -1, -1, 21}}},
	{"<a><a><a/></a><a/></a>", []Node{{"a", nil, "", -1, 1, -1, 0}, {"a", nil, "", 0, 2, 3, 3}, {"a", nil, "", 1, -1, -1, 6}, {"a", nil, "", 0, -1, -1, 14}}},
	{"<p:a p:x='1'/>", []Node{{"p:a", []token.Attr{{Name: "p:x", Value: "1"}}, "", -1, -1, -1, 0}}},
}

func TestParseRight(t *testing.T) {
	for _, c := range right {
		x, at, e := Parse(c.s)
		if !equal(x, Tree{c.nodes}) || at != 0 || e != api.OK {
			t.Errorf("Parse(%q): %+v, %d, %d", c.s, x, at, e)
		}
		check(t, c.s)
	}
}

// fault is a text, and what is told of it.
type fault struct {
	s  string
	at int
	e  api.Errno
}

// wrong are texts that are no tree, by the cause.
var wrong = map[string][]fault{
	"a token": {
		{"<a><", 3, 40}, {"</a><", 4, 40}, {"<a/><a/>&", 8, 30}, {"x<a/>\xff", 5, 10}, {"<a x='' x=''/>&b;", 14, 30},
		{"x" + strings.Repeat(" ", mostBytes), 0, 3}, {"x<a" + many(mostAttrs+1) + "/>", 1, 3},
	},
	"a text outside": {
		{"x", 0, 50}, {"x<a/>", 0, 50}, {" <!-- --> x<a/>", 9, 50}, {"<a/>t", 4, 50}, {"<a></a> <!-- --> &lt;", 16, 50}, {"&#32;&#65;<a/>", 0, 50}, {"\u00a0<a/>", 0, 50},
	},
	"a tag behind the root": {
		{"<a/><b/>", 4, 50}, {"<a/><b></b>", 4, 50}, {"<a></a> <a>", 8, 50}, {"<a/><b x='' x=''/>", 4, 50},
	},
	"a name twice": {
		{"<a x='1' x='2'/>", 0, 50}, {"<a x='' y='' x=''></a>", 0, 50}, {"<a><b y='' x='' x='' y=''/></a>", 3, 50}, {"<a p:x='' x='' p:x=''/>", 0, 50},
	},
	"a close": {
		{"</a>", 0, 50}, {" </a>", 1, 50}, {"<a/></a>", 4, 50}, {"<a></a></a>", 7, 50}, {"<a></b>", 3, 50}, {"<a><b></a></b>", 6, 50}, {"<a></A>", 3, 50}, {"<p:a></a>", 5, 50}, {"<a><b/></b></a>", 7, 50},
	},
	"not closed": {
		{"<a>", 3, 50}, {"<a><b/> ", 8, 50}, {"<a><b></b>", 10, 50}, {"<a>t<!-- n -->", 14, 50},
	},
	"none": {
		{"", 0, 50}, {"  ", 2, 50}, {"<?xml?>", 7, 50}, {" <!-- <a/> -->\n", 15, 50}, {"&#32;", 5, 50},
	},
	"too many": {
		{"<a>" + strings.Repeat("<b/>", mostNodes) + "</a>", 3 + 4*(mostNodes-1), 3},
		{"<a>" + strings.Repeat("<b/>", mostNodes-1) + "<b></b></a>", 3 + 4*(mostNodes-1), 3},
		{"<a>" + strings.Repeat("<b/>", mostNodes-1) + "<b x='' x=''/></a>", 3 + 4*(mostNodes-1), 50},
	},
	"too deep": {
		{nest(mostDepth+1, ""), 3 * mostDepth, 3}, {nest(mostDepth, "<b/>"), 3 * mostDepth, 3},
		{nest(mostDepth, "<b x='' x=''/>"), 3 * mostDepth, 50}, {nest(mostDepth, "</b>"), 3 * mostDepth, 50},
		{nest(1, nest(mostDepth-1, "")+nest(mostDepth, "")), 3 + 7*(mostDepth-1) + 3*(mostDepth-1), 3},
	},
	"the first of several": {
		{"x</a>", 0, 50}, {"<a></b>x", 3, 50}, {nest(mostDepth, "</b><c/>"), 3 * mostDepth, 50}, {nest(mostDepth, "<c/></b>"), 3 * mostDepth, 3},
	},
}

func TestParseWrong(t *testing.T) {
	for cause, row := range wrong {
		for _, c := range row {
			if x, at, e := Parse(c.s); x.Nodes != nil || at != c.at || e != c.e {
				t.Errorf("%s: Parse(%.40q): %d nodes, %d, %d; want %d, %d", cause, c.s, len(x.Nodes), at, e, c.at, c.e)
			}
			check(t, c.s)
		}
	}
}

func TestParseBounds(t *testing.T) {
	for _, s := range []string{
		nest(mostDepth, ""), nest(mostDepth, "t"), nest(mostDepth-1, "<b/>t<b/>"),
		nest(1, nest(mostDepth-1, "")+nest(mostDepth-1, "")),
		"<a>" + strings.Repeat("<b/>", mostNodes-1) + "</a>",
		"<a>" + strings.Repeat("<b></b>t", mostNodes-1) + "</a>",
		"<a" + many(mostAttrs) + "/>",
		"<a>" + strings.Repeat(" ", mostBytes-7) + "</a>",
		"<a>" + strings.Repeat("t<!---->", 8000) + "</a>",
		"<" + strings.Repeat("a", 64) + "/>",
	} {
		x := parsed(t, s)
		if told, _, _ := toldTree(s); !equal(x, told) || Check(x) != api.OK {
			t.Errorf("Parse(%.40q)", s)
		}
	}
}

// each calls f with all texts of up to n pieces.
func each(pieces []string, n int, f func(string)) {
	var more func(s string, n int)
	more = func(s string, n int) {
		f(s)
		for _, p := range pieces {
			if n > 0 {
				more(s+p, n-1)
			}
		}
	}
	more("", n)
}

func TestParseAllShort(t *testing.T) {
	each([]string{"<a>", "</a>", "<b>", "</b>", "<a/>", "t", " ", "<b x='' y=''/>"}, 5, func(s string) { check(t, s) })
	each([]string{"<a>", "</a>", "<b/>", "&lt;"}, 7, func(s string) { check(t, s) })
	each([]string{"<a>", "</a>", "<a z='' x='1'>", "<c x='' x=''>", "<!---->", "\n", "&#9;", "u"}, 4, func(s string) {
		check(t, s)
		check(t, "<a>"+s+"</a>")
	})
}

// P5.2

// sample are trees that are right.
var sample = []string{"<a/>", "<a>t</a>", "<a x='1'><b/></a>", "<a><b><c/>u</b><d x='' y='2'/>t</a>", "<a><b/><c><d/></c><e/></a>"}

// small is n nodes without attributes, linked by the numbers that code holds, each from -1 to n-1.
func small(n, code int) Tree {
	var x Tree
	take := func() int {
		link := code%(n+1) - 1
		code /= n + 1
		return link
	}
	for range n {
		x.Nodes = append(x.Nodes, Node{Name: "a", Parent: take(), First: take(), Next: take()})
	}
	return x
}

func TestCheckAllSmall(t *testing.T) {
	for n, codes := range []int{1, 8, 729, 262144} {
		right := 0
		for code := range codes {
			x := small(n, code)
			checkTree(t, x)
			if Check(x) == api.OK {
				right++
			}
		}
		if want := []int{0, 1, 1, 2}[n]; right != want {
			t.Errorf("of %d nodes %d trees are right", n, right)
		}
	}
}

func TestCheckLinks(t *testing.T) {
	for _, s := range sample {
		x := parsed(t, s)
		for i := range x.Nodes {
			for _, n := range []int{math.MinInt, -2, -1, 0, 1, 2, 3, 4, 5, 6, math.MaxInt} {
				for link := range 4 {
					y := copied(x)
					switch m := &y.Nodes[i]; link {
					case 0:
						m.Parent = n
					case 1:
						m.First = n
					case 2:
						m.Next = n
					case 3:
						m.At = n
						if Check(y) != api.OK {
							t.Errorf("At %d", n)
						}
					}
					checkTree(t, y)
				}
			}
			checkTree(t, Tree{x.Nodes[:i]})
			checkTree(t, Tree{x.Nodes[i:]})
			checkTree(t, Tree{append(slices.Clone(x.Nodes), x.Nodes[i])})
		}
	}
}

// attrs are attributes of these names, with one value.
func attrs(value string, names ...string) []token.Attr {
	var row []token.Attr
	for _, n := range names {
		row = append(row, token.Attr{Name: n, Value: value})
	}
	return row
}

// names are n names in order.
func names(n int) []string {
	var row []string
	for i := range n {
		row = append(row, "x"+strconv.Itoa(100+i))
	}
	return row
}

func TestCheckNodes(t *testing.T) {
	long := strings.Repeat("a", 65)
	for cause, row := range map[string][]Node{
		"right": {
			{Name: "a"}, {Name: "p:a", Text: " t"}, {Name: long[1:], Attrs: attrs("\u20ac\n\t\r\"'<>&", long[1:])}, {Name: "a", Attrs: attrs("", "a", "b", "p:a")},
			{Name: "a", Attrs: attrs("1", names(mostAttrs)...)}, {Name: "a", Text: "\u00a0"}, {Name: "a", Attrs: attrs(" ", "A", "a"), At: -7}, {Name: "a", Attrs: []token.Attr{}},
		},
		"a name":            {{Name: ""}, {Name: "1"}, {Name: "a:b:c"}, {Name: "a b"}, {Name: long}, {Name: "\u20ac"}, {Name: "a>"}},
		"an attribute":      {{Name: "a", Attrs: attrs("", "")}, {Name: "a", Attrs: attrs("", "b", "-")}, {Name: "a", Attrs: attrs("", "x y")}, {Name: "a", Attrs: attrs("", "b", "c", "d:")}},
		"a value":           {{Name: "a", Attrs: attrs("\xff", "b")}, {Name: "a", Attrs: attrs("t\x00", "b")}, {Name: "a", Attrs: append(attrs("", "b"), attrs("\uffff", "c")...)}},
		"order":             {{Name: "a", Attrs: attrs("", "b", "a")}, {Name: "a", Attrs: attrs("", "a", "B")}, {Name: "a", Attrs: attrs("", "a", "c", "b")}},
		"twice":             {{Name: "a", Attrs: attrs("", "a", "a")}, {Name: "a", Attrs: append(attrs("1", "a", "b"), attrs("2", "b")...)}},
		"a text":            {{Name: "a", Text: " "}, {Name: "a", Text: "\t\n\r "}, {Name: "a", Text: "t\xff"}, {Name: "a", Text: "\x01"}, {Name: "a", Text: "t\xed\xa0\x80"}},
		"too many together": {{Name: "a", Attrs: attrs("1", names(mostAttrs+1)...)}},
	} {
		for _, n := range row {
			n.Parent, n.First, n.Next = -1, -1, -1
			alone := Tree{[]Node{n}}
			if ok := Check(alone) == api.OK; ok != (cause == "right") {
				t.Errorf("%s: %+v: %t", cause, n, ok)
			}
			checkTree(t, alone)
			n.Parent = 0
			checkTree(t, Tree{[]Node{{Name: "a", Parent: -1, First: 1, Next: -1}, n}})
		}
	}
}

// chain is n nodes, each in the one ahead.
func chain(n int) Tree {
	var x Tree
	for i := range n {
		x.Nodes = append(x.Nodes, Node{Name: "a", Parent: i - 1, First: i + 1, Next: -1})
	}
	x.Nodes[n-1].First = -1
	return x
}

// flat is a root with n - 1 kids.
func flat(n int) Tree {
	x := Tree{[]Node{{Name: "a", Parent: -1, First: 1, Next: -1}}}
	for i := 1; i < n; i++ {
		x.Nodes = append(x.Nodes, Node{Name: "b", First: -1, Next: i + 1})
	}
	x.Nodes[n-1].Next = -1
	return x
}

func TestCheckBounds(t *testing.T) {
	for i, x := range []Tree{chain(mostDepth), flat(mostNodes), chain(mostDepth + 1), flat(mostNodes + 1), {}, {[]Node{}}} {
		if e := Check(x); (e == api.OK) != (i < 2) || e != api.OK && e != api.ErrTree {
			t.Errorf("%d: %d", i, e)
		}
		checkTree(t, x)
	}
	loop := Tree{[]Node{{Name: "a", Parent: -1, First: 1, Next: -1}, {Name: "a", Parent: 0, First: -1, Next: 1}}}
	checkTree(t, loop)
	loop.Nodes[1].First = 1
	checkTree(t, loop)
}

func TestWrite(t *testing.T) {
	for s, want := range map[string]string{
		"<a y=\"1\" x=\"2\"><b/>t</a>":             "<a x=\"2\" y=\"1\">t<b/></a>",
		"<a> </a>":                                 "<a/>",
		"<a> <b> </b>\n</a>":                       "<a><b/></a>",
		"<a x='&quot;&#10;&#9;&#13;&apos;>'/>":     "<a x=\"&quot;&#10;&#9;&#13;'&gt;\"/>",
		"<a>&amp;&lt;&gt;\"'&#13;\n\t</a>":         "<a>&amp;&lt;&gt;\"'&#13;\n\t</a>",
		"<a>t<b>u</b>v<c><d/></c></a>":             "<a>tv<b>u</b><c><d/></c></a>",
		"<?xml?><p:a p:b=''><!-- n --></p:a> \n\r": "<p:a p:b=\"\"/>",
	} {
		if got, e := Write(parsed(t, s)); got != want || e != api.OK {
			t.Errorf("%q: %q, %d; want %q", s, got, e, want)
		}
	}
}

// P5.3

// changes are ways to change a node, none of which is At.
var changes = []func(n *Node){
	func(n *Node) { n.Name += "b" },
	func(n *Node) { n.Text += "b" },
	func(n *Node) { n.Parent++ },
	func(n *Node) { n.First++ },
	func(n *Node) { n.Next++ },
	func(n *Node) { n.Attrs = append(n.Attrs, token.Attr{}) },
	func(n *Node) {
		n.Attrs = append([]token.Attr{{Name: "x", Value: "9"}}, n.Attrs[min(1, len(n.Attrs)):]...)
	},
	func(n *Node) {
		n.Attrs = append([]token.Attr{{Name: "z", Value: "1"}}, n.Attrs[min(1, len(n.Attrs)):]...)
	},
}

func TestSame(t *testing.T) {
	for _, s := range sample {
		x := parsed(t, s)
		for i := range x.Nodes {
			y := copied(x)
			y.Nodes[i].At -= 3
			if !Same(x, y) || !Same(y, x) {
				t.Errorf("%q: another At", s)
			}
			for k, change := range changes {
				y := copied(x)
				if change(&y.Nodes[i]); Same(x, y) || Same(y, x) {
					t.Errorf("%q: node %d, change %d", s, i, k)
				}
			}
			if y := (Tree{x.Nodes[:i]}); Same(x, y) || Same(y, x) {
				t.Errorf("%q: %d nodes", s, i)
			}
		}
	}
}

func TestSameByHand(t *testing.T) {
	a, b := Tree{[]Node{{Name: "\xff", Attrs: attrs("", "a", "a"), Parent: 7}}}, Tree{[]Node{{Name: "\xff", Attrs: attrs("", "a", "a"), Parent: 7, At: 1}}}
	if !Same(a, b) || !Same(Tree{}, Tree{[]Node{}}) || Same(a, Tree{}) {
		t.Error("trees that are not right")
	}
	a.Nodes[0].Attrs, b.Nodes[0].Attrs = nil, []token.Attr{}
	if !Same(a, b) {
		t.Error("nil and empty lists")
	}
}

func TestKids(t *testing.T) {
	x := parsed(t, "<a><b><c/><c/></b>t<b/><d><c/></d></a>")
	for n, want := range [][]int{{1, 4, 5}, {2, 3}, nil, nil, nil, {6}, nil} {
		if got := x.Kids(n); !slices.Equal(got, want) {
			t.Errorf("Kids(%d): %v", n, got)
		}
	}
	x.Nodes[6].Name = "1"
	if x.Kids(0) != nil || x.Kids(1) != nil || (Tree{}).Kids(0) != nil {
		t.Error("kids of a tree that is not right")
	}
}

func TestGet(t *testing.T) {
	x := Tree{[]Node{{Name: "a", Attrs: []token.Attr{{Name: "x", Value: "1"}, {Name: "x", Value: "2"}, {Name: "", Value: "3"}, {Name: "b", Value: ""}}}, {}}}
	for _, c := range []struct {
		n           int
		name, value string
		ok          bool
	}{
		{0, "x", "1", true}, {0, "", "3", true}, {0, "b", "", true}, {0, "y", "", false}, {0, "X", "", false},
		{1, "x", "", false}, {1, "", "", false}, {2, "x", "", false}, {-1, "x", "", false}, {math.MinInt, "x", "", false}, {math.MaxInt, "x", "", false},
	} {
		if value, ok := x.Get(c.n, c.name); value != c.value || ok != c.ok {
			t.Errorf("Get(%d, %q): %q, %t", c.n, c.name, value, ok)
		}
	}
	if value, ok := (Tree{}).Get(0, "x"); value != "" || ok {
		t.Error("of no nodes")
	}
	y := parsed(t, "<a y='1' x='2'><b z='3'/></a>")
	for i, c := range []struct{ name, value string }{{"x", "2"}, {"z", "3"}} {
		if value, ok := y.Get(i, c.name); value != c.value || !ok {
			t.Errorf("Get(%d, %q): %q, %t", i, c.name, value, ok)
		}
	}
}

// P5.4

func TestOnlyRead(t *testing.T) {
	full := parsed(t, "<a y='1' x='2'>t<b z='' a=''/><c/></a>")
	full.Nodes[0].Attrs[0], full.Nodes[0].Attrs[1] = full.Nodes[0].Attrs[1], full.Nodes[0].Attrs[0]
	kept := copied(full)
	part := Tree{full.Nodes[:2]}
	part.Nodes[1].Attrs = full.Nodes[1].Attrs[:1]
	want := copied(part)
	for _, x := range []Tree{full, part} {
		Check(x)
		Write(x)
		Same(x, full)
		Same(full, x)
		x.Kids(0)
		x.Get(0, "x")
	}
	kept.Nodes[1].Attrs = kept.Nodes[1].Attrs[:1]
	if !equal(full, kept) || !equal(part, want) || full.Nodes[1].Attrs[:2][1].Name != "z" {
		t.Error("what was handed in is changed")
	}
}

func TestNewMemory(t *testing.T) {
	s := "<a y='1' x='2'>t<b z='' a=''/><c x='1'/></a>"
	want := parsed(t, s)
	x := parsed(t, s)
	y := copied(x)
	for i := range x.Nodes {
		_ = append(x.Nodes[i].Attrs, token.Attr{Name: "w"})
		if !equal(x, y) {
			t.Fatal("lists of one answer share memory")
		}
	}
	kids := x.Kids(0)
	_ = append(kids, 9)
	kids[0] = 7
	if !slices.Equal(x.Kids(0), []int{1, 2}) || !equal(x, y) {
		t.Error("kids share memory")
	}
	for i := range x.Nodes {
		for k := range x.Nodes[i].Attrs {
			x.Nodes[i].Attrs[k].Value = "?"
		}
		x.Nodes[i].Name = "?"
	}
	if z := parsed(t, s); !equal(z, want) {
		t.Error("answers share memory")
	}
}

// P5.5

// texts are some that must be written otherwise than they say.
var texts = []string{"", "t", " t ", "&<>\"'", "\r\n\tx", "&amp;&#65;", "]]>", "<!-- -->", "\u20ac\U0001f600", "--", "\u00a0"}

// goesRound holds that what x is written as, is parsed as the same, and is written the same again.
func goesRound(t *testing.T, x Tree) {
	t.Helper()
	s, e := Write(x)
	if e != api.OK || len(s) > mostBytes {
		t.Fatalf("Write(%+v): %d bytes, %d", x, len(s), e)
	}
	y, at, e := Parse(s)
	if !Same(x, y) || at != 0 || e != api.OK {
		t.Fatalf("%+v: written %q, parsed %+v, %d, %d", x, s, y, at, e)
	}
	if again, e := Write(y); again != s || e != api.OK {
		t.Fatalf("%q: again %q, %d", s, again, e)
	}
}

func TestRound(t *testing.T) {
	for _, text := range texts {
		for _, value := range append(texts, " ", "\n", "\r", "\t") {
			goesRound(t, Tree{[]Node{{Name: "a", Attrs: attrs(value, "x", "y"), Text: text, Parent: -1, First: 1, Next: -1}, {Name: "b", Text: text, First: -1, Next: 2, At: -1}, {Name: "c", Attrs: attrs(value, "x"), First: -1, Next: -1, At: 1}}})
		}
	}
	for _, x := range []Tree{chain(mostDepth), flat(mostNodes)} {
		goesRound(t, x)
	}
	for _, c := range right {
		goesRound(t, parsed(t, c.s))
	}
}

func TestRoundAllShort(t *testing.T) {
	each([]string{"<a>", "</a>", "<b y='1' x='&lt;'/>", "t", "\n&#13;", "<!-- -->"}, 5, func(s string) {
		x, _, e := Parse("<a>" + s + "</a>")
		if e != api.OK {
			return
		}
		if Check(x) != api.OK {
			t.Fatalf("%q: what is parsed is not right", s)
		}
		goesRound(t, x)
	})
}

func TestWrittenTooLong(t *testing.T) {
	x := Tree{[]Node{{Name: "a", Text: strings.Repeat("&", mostBytes), Parent: -1, First: -1, Next: -1}}}
	s, e := Write(x)
	if len(s) != 5*mostBytes+7 || e != api.OK {
		t.Errorf("%d bytes, %d", len(s), e)
	}
	if _, _, e := Parse(s); e != api.ErrLimit {
		t.Errorf("parsed: %d", e)
	}
}
