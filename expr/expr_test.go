package expr

import (
	"math"
	"math/big"
	"math/rand"
	"regexp"
	"slices"
	"strconv"
	"strings"
	"testing"
	"unsafe"

	"hopscotch/api"
	"hopscotch/lex"
)

// The chapter's bounds, as its own numbers.
const (
	mostBytes = 65536
	mostDepth = 64
	mostName  = 64
)

// kind is a line of the chapter's table: an op, its level, how many parts it has, and its word.
type kind struct {
	op    uint8
	level int
	parts int
	word  string
}

var kinds = []kind{
	{Num, 10, 0, ""}, {Name, 10, 0, ""}, {True, 10, 0, "true"}, {False, 10, 0, "false"}, {If, 10, 3, "if"},
	{Neg, 9, 1, "-"}, {Not, 9, 1, "not"},
	{Mul, 8, 2, "*"}, {Div, 8, 2, "div"}, {Mod, 8, 2, "mod"},
	{Add, 7, 2, "+"}, {Sub, 7, 2, "-"},
	{Less, 6, 2, "<"}, {LessEq, 6, 2, "<="}, {More, 6, 2, ">"}, {MoreEq, 6, 2, ">="},
	{Eq, 5, 2, "="}, {Ne, 5, 2, "<>"},
	{And, 4, 2, "and"}, {Or, 3, 2, "or"}, {Xor, 2, 2, "xor"}, {Implies, 1, 2, "implies"},
}

// kindOf tells an op's line, or an empty one.
func kindOf(op uint8) kind {
	for _, k := range kinds {
		if k.op == op {
			return k
		}
	}
	return kind{}
}

// tree is an expression.
type tree struct {
	op    uint8
	num   int64
	name  string
	parts []*tree
}

func number(n int64) *tree               { return &tree{op: Num, num: n} }
func named(s string) *tree               { return &tree{op: Name, name: s} }
func of(op uint8, parts ...*tree) *tree  { return &tree{op: op, parts: parts} }
func (x *tree) row() Expr                { return Expr{Nodes: x.nodes(nil)} }
func (x *tree) level() int               { return kindOf(x.op).level }
func (x *tree) text() string             { return strings.Join(x.words(never), " ") }
func never() bool                        { return false }
func sometimes(r *rand.Rand) func() bool { return func() bool { return r.Intn(4) == 0 } }

// nodes puts a tree's nodes behind those that are there: each behind its parts.
func (x *tree) nodes(l []Node) []Node {
	places := [3]int{-1, -1, -1}
	for i, p := range x.parts {
		l = p.nodes(l)
		places[i] = len(l) - 1
	}
	return append(l, Node{Op: x.op, Num: x.num, Name: x.name, A: places[0], B: places[1], C: places[2]})
}

// depth is 1 without parts, else 1 more than that of the deepest part.
func (x *tree) depth() int {
	deepest := 0
	for _, p := range x.parts {
		deepest = max(deepest, p.depth())
	}
	return 1 + deepest
}

// words writes a tree, with parentheses where they must be, and wherever may says so (again and again).
func (x *tree) words(may func() bool) []string {
	part := func(i, least int) []string {
		l := x.parts[i].words(may)
		for x.parts[i].level() < least || may() {
			l = slices.Concat([]string{"("}, l, []string{")"})
			least = 0
		}
		return l
	}
	k := kindOf(x.op)
	switch {
	case x.op == Num:
		return []string{strconv.FormatInt(x.num, 10)}
	case x.op == Name:
		return []string{x.name}
	case x.op == If:
		return slices.Concat([]string{"if"}, part(0, 0), []string{"then"}, part(1, 0), []string{"else"}, part(2, 0), []string{"endif"})
	case k.parts == 1:
		return append([]string{k.word}, part(0, k.level)...)
	case k.parts == 2:
		return slices.Concat(part(0, k.level), []string{k.word}, part(1, k.level+1))
	}
	return []string{k.word}
}

// tokens are those of words.
func tokens(words ...string) []lex.Token {
	var l []lex.Token
	for i, w := range words {
		l = append(l, lex.Token{Kind: lex.Is(w), Text: w, At: 7 * i})
	}
	return l
}

// cut are the tokens of a text.
func cut(t *testing.T, s string) []lex.Token {
	t.Helper()
	l, _, e := lex.Tokens(s)
	if e != api.OK {
		t.Fatalf("%q is no tokens: %d", s, e)
	}
	return l
}

// toldNumber tells what a number's token says; it is false if that is beyond the greatest number.
func toldNumber(digits string) (int64, bool) {
	n, ok := new(big.Int).SetString(digits, 10)
	if !ok || !n.IsInt64() {
		return 0, false
	}
	return n.Int64(), true
}

// inner tells by how much tokens behind this one are further within something.
func inner(word string) int {
	switch word {
	case "(", "if":
		return 1
	case ")", "endif":
		return -1
	}
	return 0
}

// ends tells whether a token may be a part's last one.
func ends(l lex.Token) bool {
	return l.Kind == lex.Number || l.Kind == lex.Name || slices.Contains([]string{"true", "false", ")", "endif"}, l.Text)
}

// outside tells the places of tokens that stand within nothing, and that fits takes.
func outside(l []lex.Token, fits func(at int) bool) []int {
	var places []int
	within := 0
	for i, t := range l {
		if within == 0 && fits(i) {
			places = append(places, i)
		}
		within += inner(t.Text)
	}
	return places
}

// toldTree tells the tree that tokens write as a whole; nil, if they write none.
// It is split where the loosest, last op of two parts stands.
func toldTree(l []lex.Token) *tree {
	if len(l) == 0 {
		return nil
	}
	var found kind
	at := 0
	for _, i := range outside(l, func(i int) bool { return i > 0 && ends(l[i-1]) }) {
		for _, k := range kinds {
			if k.parts == 2 && k.word == l[i].Text && (at == 0 || k.level <= found.level) {
				found, at = k, i
			}
		}
	}
	if at > 0 {
		return toldParts(found.op, l[:at], l[at+1:])
	}
	last := len(l) - 1
	switch first := l[0].Text; {
	case first == "-":
		return toldParts(Neg, l[1:])
	case first == "not":
		return toldParts(Not, l[1:])
	case first == "(" && last > 0 && l[last].Text == ")":
		return toldTree(l[1:last])
	case first == "if" && l[last].Text == "endif":
		return toldIf(l[1:last])
	case last > 0:
		return nil
	}
	return toldLeaf(l[0])
}

// toldParts tells a tree with these parts; nil, if one of them is none.
func toldParts(op uint8, parts ...[]lex.Token) *tree {
	x := of(op)
	for _, l := range parts {
		p := toldTree(l)
		if p == nil {
			return nil
		}
		x.parts = append(x.parts, p)
	}
	return x
}

func toldIf(l []lex.Token) *tree {
	places := outside(l, func(i int) bool { return l[i].Text == "then" || l[i].Text == "else" })
	if len(places) != 2 || l[places[0]].Text != "then" || l[places[1]].Text != "else" {
		return nil
	}
	return toldParts(If, l[:places[0]], l[places[0]+1:places[1]], l[places[1]+1:])
}

func toldLeaf(t lex.Token) *tree {
	switch {
	case t.Kind == lex.Name:
		return named(t.Text)
	case t.Kind == lex.Number:
		n, _ := toldNumber(t.Text)
		return number(n)
	case t.Text == "true":
		return of(True)
	case t.Text == "false":
		return of(False)
	}
	return nil
}

// lacking are the shortest tokens that end all that began and did not end yet, but for a part that may be lacking first.
func lacking(l []lex.Token) []lex.Token {
	lacks := map[string]string{"(": ")", "if": "then a else a endif", "then": "else a endif", "else": "endif"}
	var begun []string
	for _, t := range l {
		switch n := len(begun); {
		case t.Text == "(" || t.Text == "if":
			begun = append(begun, t.Text)
		case t.Text == ")" || t.Text == "endif":
			begun = begun[:max(n-1, 0)]
		case (t.Text == "then" || t.Text == "else") && n > 0:
			begun[n-1] = t.Text
		}
	}
	var words []string
	for _, b := range slices.Backward(begun) {
		words = append(words, strings.Fields(lacks[b])...)
	}
	return tokens(words...)
}

// isBeginning tells whether tokens are a beginning of a writing: if they are, the shortest tokens lead to its end.
func isBeginning(l []lex.Token) bool {
	more := lacking(l)
	return toldTree(slices.Concat(l, more)) != nil || toldTree(slices.Concat(l, tokens("a"), more)) != nil
}

// toldFrom reads tokens by the chapter's words.
func toldFrom(l []lex.Token) (Expr, int, api.Errno) {
	n, e := 0, api.ErrParse
	for ; n < len(l); n++ {
		if l[n].Kind == 0 || lex.Is(l[n].Text) != l[n].Kind || !isBeginning(l[:n+1]) {
			break
		}
		if _, ok := toldNumber(l[n].Text); l[n].Kind == lex.Number && !ok {
			return Expr{}, n, api.ErrOverflow
		}
	}
	x := toldTree(l[:n])
	if x == nil {
		return Expr{}, n, e
	}
	if x.depth() > mostDepth {
		return Expr{}, 0, api.ErrLimit
	}
	return x.row(), n, api.OK
}

// toldParse tells of a text by the chapter's words.
func toldParse(s string) (Expr, int, api.Errno) {
	l, at, e := lex.Tokens(s)
	if e != api.OK {
		return Expr{}, at, e
	}
	x, n, e := toldFrom(l)
	if e == api.ErrLimit {
		return Expr{}, 0, e
	}
	if e == api.OK && n == len(l) {
		return x, 0, e
	}
	if e == api.OK {
		e = api.ErrParse
	}
	return Expr{}, append(l, lex.Token{At: len(s)})[n].At, e
}

// toldRow tells the tree whose nodes a row is; nil, if it is not right.
func toldRow(l []Node) *tree {
	var build func(place, most int) *tree
	build = func(place, most int) *tree {
		if place < 0 || place >= most || kindOf(l[place].Op).op == 0 {
			return nil
		}
		n := l[place]
		x := &tree{op: n.Op, num: n.Num, name: n.Name}
		if n.Op == Num && n.Num < 0 || n.Op == Name && !isName(n.Name) || n.Op != Num && n.Num != 0 || n.Op != Name && n.Name != "" {
			return nil
		}
		for _, p := range []int{n.A, n.B, n.C}[:kindOf(n.Op).parts] {
			y := build(p, place)
			if y == nil {
				return nil
			}
			x.parts = append(x.parts, y)
		}
		return x
	}
	x := build(len(l)-1, len(l))
	if x == nil || !slices.Equal(x.nodes(nil), l) {
		return nil
	}
	return x
}

var (
	names   = regexp.MustCompile(`\A[A-Za-z_][A-Za-z0-9_]{0,63}\z`)
	noNames = regexp.MustCompile(`\A(?:and|div|else|emit|endif|false|if|implies|mod|not|or|then|true|xor)\z`)
)

func isName(s string) bool { return names.MatchString(s) && !noNames.MatchString(s) }

// checkFrom holds From against the chapter's words.
func checkFrom(t *testing.T, l []lex.Token) {
	t.Helper()
	x, n, e := From(l)
	y, m, f := toldFrom(l)
	if !slices.Equal(x.Nodes, y.Nodes) || n != m || e != f {
		t.Fatalf("From(%v): %v, %d, %d; told: %v, %d, %d", l, x, n, e, y, m, f)
	}
}

// checkParse holds Parse against the chapter's words.
func checkParse(t *testing.T, s string) {
	t.Helper()
	x, at, e := Parse(s)
	y, place, f := toldParse(s)
	if !slices.Equal(x.Nodes, y.Nodes) || at != place || e != f {
		t.Fatalf("Parse(%q): %v, %d, %d; told: %v, %d, %d", s, x, at, e, y, place, f)
	}
}

// checkRow holds Check, Depth and Print of a row against the chapter's words.
func checkRow(t *testing.T, l []Node) {
	t.Helper()
	depth, text, e := 0, "", api.ErrArg
	if x := toldRow(l); x != nil {
		depth, e = x.depth(), api.OK
		if depth > mostDepth {
			e = api.ErrLimit
		} else {
			text = x.text()
		}
	}
	x := Expr{Nodes: l}
	if d := Depth(x); d != depth {
		t.Fatalf("Depth(%v): %d, not %d", l, d, depth)
	}
	if f := Check(x); f != e {
		t.Fatalf("Check(%v): %d, not %d", l, f, e)
	}
	if s, f := Print(x); s != text || f != e {
		t.Fatalf("Print(%v): %q, %d; not %q, %d", l, s, f, text, e)
	}
}

// chain is a tree of that depth, in which the part at place i of each op is the deep one.
func chain(depth int, op uint8, i int) *tree {
	x := named("a")
	for range depth - 1 {
		parts := slices.Repeat([]*tree{named("b")}, kindOf(op).parts)
		parts[i] = x
		x = of(op, parts...)
	}
	return x
}

// eachChain calls with each op that has parts, and each place of a part.
func eachChain(with func(op uint8, i int)) {
	for _, k := range kinds {
		for i := range k.parts {
			with(k.op, i)
		}
	}
}

// anyTree is a tree of at most that depth.
func anyTree(r *rand.Rand, most int) *tree {
	k := kinds[r.Intn(len(kinds))]
	if most <= 1 {
		k = kinds[r.Intn(4)]
	}
	switch k.op {
	case Num:
		return number([]int64{0, 1, 7, 10, r.Int63(), math.MaxInt64}[r.Intn(6)])
	case Name:
		return named([]string{"a", "b", "_", "arg", "iff", "Not", "x9", long(mostName)}[r.Intn(8)])
	}
	x := of(k.op)
	for range k.parts {
		x.parts = append(x.parts, anyTree(r, most-1))
	}
	return x
}

// long is a name of n bytes.
func long(n int) string { return strings.Repeat("aZ_9", n/4+1)[:n] }

// small are all trees of at most two ops with parts, their leaves of several kinds.
func small() []*tree {
	leaves := []*tree{number(0), number(7), named("x"), of(True), of(False)}
	all := slices.Clone(leaves)
	eachChain(func(op uint8, i int) {
		for depth := 2; depth <= 3; depth++ {
			all = append(all, chain(depth, op, i))
		}
		eachChain(func(within uint8, j int) {
			x := chain(2, op, i)
			x.parts[i] = chain(2, within, j)
			all = append(all, x)
		})
		for _, leaf := range leaves {
			x := chain(2, op, i)
			x.parts[i] = leaf
			all = append(all, x)
		}
	})
	return all
}

// shape puts an expression down with all its parts in parentheses, ops by their numbers.
func shape(l []Node, at int) string {
	n := l[at]
	s := strconv.Itoa(int(n.Op))
	switch n.Op {
	case Num:
		return strconv.FormatInt(n.Num, 10)
	case Name:
		return n.Name
	}
	for _, p := range []int{n.A, n.B, n.C} {
		if p >= 0 {
			s += " " + shape(l, p)
		}
	}
	return "(" + s + ")"
}

// right are writings, each with its shape, and with the writing that has no parentheses but what must be.
var right = []struct{ s, shape, print string }{
	{"1 + 2 * x", "(10 1 (7 2 x))", "1 + 2 * x"}, {"(1+2)*x", "(7 (10 1 2) x)", "( 1 + 2 ) * x"}, {"a - (b - c)", "(11 a (11 b c))", "a - ( b - c )"}, {"- - 1", "(5 (5 1))", "- - 1"},
	{"a - b - c", "(11 (11 a b) c)", "a - b - c"}, {"(a-b)-c", "(11 (11 a b) c)", "a - b - c"}, {"a+b-c+d", "(10 (11 (10 a b) c) d)", "a + b - c + d"}, {"a+(b-c)+d", "(10 (10 a (11 b c)) d)", "a + ( b - c ) + d"},
	{"a * b div c mod d", "(9 (8 (7 a b) c) d)", "a * b div c mod d"}, {"a*(b div (c mod d))", "(7 a (8 b (9 c d)))", "a * ( b div ( c mod d ) )"},
	{"-a*b", "(7 (5 a) b)", "- a * b"}, {"-(a*b)", "(5 (7 a b))", "- ( a * b )"}, {"a*-b", "(7 a (5 b))", "a * - b"}, {"a*(-b)", "(7 a (5 b))", "a * - b"}, {"(-a)*(b)", "(7 (5 a) b)", "- a * b"}, {"a - -b", "(11 a (5 b))", "a - - b"}, {"-a - b", "(11 (5 a) b)", "- a - b"}, {"-(a-b)", "(5 (11 a b))", "- ( a - b )"}, {"-9223372036854775807", "(5 9223372036854775807)", "- 9223372036854775807"},
	{"not a and b", "(18 (6 a) b)", "not a and b"}, {"not(a and b)", "(6 (18 a b))", "not ( a and b )"}, {"not a = b", "(16 (6 a) b)", "not a = b"}, {"not - a", "(6 (5 a))", "not - a"}, {"- not a", "(5 (6 a))", "- not a"}, {"not not true", "(6 (6 (3)))", "not not true"}, {"a = not b", "(16 a (6 b))", "a = not b"}, {"a and not b or c", "(19 (18 a (6 b)) c)", "a and not b or c"},
	{"a < b + 1", "(12 a (10 b 1))", "a < b + 1"}, {"(a < b) + 1", "(10 (12 a b) 1)", "( a < b ) + 1"}, {"a<b<=c>d>=e", "(15 (14 (13 (12 a b) c) d) e)", "a < b <= c > d >= e"}, {"a<(b<c)", "(12 a (12 b c))", "a < ( b < c )"}, {"a<b=c<d", "(16 (12 a b) (12 c d))", "a < b = c < d"}, {"a<(b=c)<d", "(12 (12 a (16 b c)) d)", "a < ( b = c ) < d"}, {"a=b<>c", "(17 (16 a b) c)", "a = b <> c"}, {"a=(b<>c)", "(16 a (17 b c))", "a = ( b <> c )"},
	{"a and b or c xor d implies e", "(21 (20 (19 (18 a b) c) d) e)", "a and b or c xor d implies e"}, {"a implies b xor c or d and e", "(21 a (20 b (19 c (18 d e))))", "a implies b xor c or d and e"}, {"(a implies b) xor c", "(20 (21 a b) c)", "( a implies b ) xor c"}, {"a implies b implies c", "(21 (21 a b) c)", "a implies b implies c"}, {"a implies (b implies c)", "(21 a (21 b c))", "a implies ( b implies c )"}, {"a and (b and c)", "(18 a (18 b c))", "a and ( b and c )"}, {"(a or b) and c", "(18 (19 a b) c)", "( a or b ) and c"}, {"n<>0 and not done", "(18 (17 n 0) (6 done))", "n <> 0 and not done"},
	{"if a then b else c endif", "(22 a b c)", "if a then b else c endif"}, {"(if a then b else c endif)", "(22 a b c)", "if a then b else c endif"}, {"if (a) then (b) else (c) endif", "(22 a b c)", "if a then b else c endif"}, {"if a implies b then c implies d else e implies f endif", "(22 (21 a b) (21 c d) (21 e f))", "if a implies b then c implies d else e implies f endif"}, {"if(a or b)then(-c)else(c*d)endif", "(22 (19 a b) (5 c) (7 c d))", "if a or b then - c else c * d endif"},
	{"if a then b else c endif*2", "(7 (22 a b c) 2)", "if a then b else c endif * 2"}, {"2*if a then b else c endif", "(7 2 (22 a b c))", "2 * if a then b else c endif"}, {"-if a then b else c endif", "(5 (22 a b c))", "- if a then b else c endif"}, {"if if a then b else c endif then if d then e else f endif else if g then h else i endif endif", "(22 (22 a b c) (22 d e f) (22 g h i))", "if if a then b else c endif then if d then e else f endif else if g then h else i endif endif"},
	{"x", "x", "x"}, {"(x)", "x", "x"}, {"((((x))))", "x", "x"}, {"0", "0", "0"}, {"00", "0", "0"}, {"007", "7", "7"}, {strings.Repeat("0", 64), "0", "0"}, {strings.Repeat("0", 63) + "9", "9", "9"}, {"9223372036854775807", "9223372036854775807", "9223372036854775807"}, {strings.Repeat("0", 45) + "9223372036854775807", "9223372036854775807", "9223372036854775807"}, {"true", "(3)", "true"}, {"false", "(4)", "false"}, {"True", "True", "True"}, {"-(1)", "(5 1)", "- 1"}, {"(a)+(b)", "(10 a b)", "a + b"}, {"((a)+((b)))", "(10 a b)", "a + b"}, {" -- (\n\tx -- )\r\n+ -- *\n1", "(10 x 1)", "x + 1"}, {"a--b\n-c", "(11 a c)", "a - c"},
}

// wrong are texts that write no expression, each with the place and the error.
var wrong = []struct {
	s  string
	at int
	e  api.Errno
}{
	{"", 0, api.ErrParse}, {" ", 1, api.ErrParse}, {" -- a", 5, api.ErrParse}, {"1 +", 3, api.ErrParse}, {"1 + ", 4, api.ErrParse}, {"1 + -- 2", 8, api.ErrParse}, {"a b", 2, api.ErrParse}, {"a 1", 2, api.ErrParse}, {"1a", 1, api.ErrParse}, {"1 1", 2, api.ErrParse}, {"a true", 2, api.ErrParse}, {"true false", 5, api.ErrParse}, {"a (b)", 2, api.ErrParse}, {"(a)(b)", 3, api.ErrParse}, {"(a) b", 4, api.ErrParse}, {"a not b", 2, api.ErrParse}, {"a if", 2, api.ErrParse},
	{"* 2", 0, api.ErrParse}, {"+ 2", 0, api.ErrParse}, {"a + * b", 4, api.ErrParse}, {"a + + b", 4, api.ErrParse}, {"a = = b", 4, api.ErrParse}, {"a and or b", 6, api.ErrParse}, {"div a", 0, api.ErrParse}, {"not", 3, api.ErrParse}, {"-", 1, api.ErrParse}, {"- * a", 2, api.ErrParse}, {"not and a", 4, api.ErrParse}, {"a = not", 7, api.ErrParse},
	{"(", 1, api.ErrParse}, {")", 0, api.ErrParse}, {"()", 1, api.ErrParse}, {"(a", 2, api.ErrParse}, {"a)", 1, api.ErrParse}, {"(a))", 3, api.ErrParse}, {"((a)", 4, api.ErrParse}, {"(a b)", 3, api.ErrParse}, {"(a,b)", 2, api.ErrParse}, {"(a +)", 4, api.ErrParse}, {"a + ()", 5, api.ErrParse}, {"f(a)", 1, api.ErrParse}, {"(a;", 2, api.ErrParse},
	{"if", 2, api.ErrParse}, {"if a", 4, api.ErrParse}, {"if then", 3, api.ErrParse}, {"if a then", 9, api.ErrParse}, {"if a then b", 11, api.ErrParse}, {"if a then b endif", 12, api.ErrParse}, {"if a then b else", 16, api.ErrParse}, {"if a then b else c", 18, api.ErrParse}, {"if a then b else endif", 17, api.ErrParse}, {"if a else b", 5, api.ErrParse}, {"if a endif", 5, api.ErrParse}, {"if a then b then", 12, api.ErrParse}, {"if a then b else c else", 19, api.ErrParse}, {"if a then b else c then", 19, api.ErrParse}, {"if a then b else c endif endif", 25, api.ErrParse}, {"if a then b else c endif d", 25, api.ErrParse}, {"(if a then b) else c endif", 12, api.ErrParse}, {"if (a then b) else c endif", 6, api.ErrParse}, {"if a ) then b else c endif", 5, api.ErrParse}, {"then", 0, api.ErrParse}, {"else", 0, api.ErrParse}, {"endif", 0, api.ErrParse}, {"a then", 2, api.ErrParse}, {"a else b", 2, api.ErrParse}, {"a endif", 2, api.ErrParse}, {"a + endif", 4, api.ErrParse},
	{"a := 1", 2, api.ErrParse}, {"a, b", 1, api.ErrParse}, {"a ;", 2, api.ErrParse}, {";", 0, api.ErrParse}, {",", 0, api.ErrParse}, {":=", 0, api.ErrParse}, {"emit", 0, api.ErrParse}, {"emit a", 0, api.ErrParse}, {"a emit", 2, api.ErrParse}, {"a + emit", 4, api.ErrParse}, {"-- a", 4, api.ErrParse},
	{"99999999999999999999", 0, api.ErrOverflow}, {"9223372036854775808", 0, api.ErrOverflow}, {"-9223372036854775808", 1, api.ErrOverflow}, {"a + 9223372036854775808", 4, api.ErrOverflow}, {"1 + 9223372036854775808 )", 4, api.ErrOverflow}, {"(00009223372036854775808", 1, api.ErrOverflow}, {strings.Repeat("0", 45) + "9223372036854775808", 0, api.ErrOverflow}, {strings.Repeat("9", 64), 0, api.ErrOverflow}, {"18446744073709551616", 0, api.ErrOverflow}, {"18446744073709551617 + 1", 0, api.ErrOverflow}, {"9223372036854775808 9223372036854775808", 0, api.ErrOverflow}, {"if 9223372036854775808", 3, api.ErrOverflow},
	{") 9223372036854775808", 0, api.ErrParse}, {"a 9223372036854775808", 2, api.ErrParse}, {"1 9223372036854775808", 2, api.ErrParse}, {"a + ) + 9223372036854775808", 4, api.ErrParse}, {"(a) 9223372036854775808", 4, api.ErrParse},
	{"a ! b", 2, api.ErrLex}, {"a + + ! b", 6, api.ErrLex}, {"9223372036854775808 !", 20, api.ErrLex}, {strings.Repeat("9", 65), 0, api.ErrLex}, {"a + " + long(65), 4, api.ErrLex}, {strings.Repeat("not ", 64) + "a !", 258, api.ErrLex},
	{strings.Repeat("not ", 64) + "a", 0, api.ErrLimit}, {strings.Repeat("not ", 64) + "a a", 0, api.ErrLimit}, {"  " + strings.Repeat("not ", 64) + "a", 0, api.ErrLimit}, {"\t" + strings.Repeat("not ", 64) + "a )", 0, api.ErrLimit}, {strings.Repeat("not ", 64) + "a ;", 0, api.ErrLimit}, {strings.Repeat("not ", 64) + "a 9223372036854775808", 0, api.ErrLimit}, {strings.Repeat("1+", 64) + "1", 0, api.ErrLimit}, {strings.Repeat("not ", 64), 256, api.ErrParse}, {strings.Repeat("not ", 64) + ")", 256, api.ErrParse}, {strings.Repeat("not ", 64) + "9223372036854775808", 256, api.ErrOverflow}, {"(" + strings.Repeat("not ", 64) + "a", 258, api.ErrParse}, {strings.Repeat("1+", 64) + "1+", 130, api.ErrParse},
}

// P8.1

func TestFrom(t *testing.T) {
	for _, x := range []struct {
		s     string
		n     int
		e     api.Errno
		shape string
	}{
		{"a + 1 ; b", 3, api.OK, "(10 a 1)"}, {"a", 1, api.OK, "a"}, {"a b", 1, api.OK, "a"}, {"a )", 1, api.OK, "a"}, {"(a) ) )", 3, api.OK, "a"}, {"a , b", 1, api.OK, "a"}, {"a := b", 1, api.OK, "a"}, {"a * b + c then", 5, api.OK, "(10 (7 a b) c)"}, {"a + b * c else", 5, api.OK, "(10 a (7 b c))"}, {"1 a", 1, api.OK, "1"}, {"a 9223372036854775808", 1, api.OK, "a"}, {"not a not", 2, api.OK, "(6 a)"}, {"if a then b else c endif endif", 7, api.OK, "(22 a b c)"}, {"a emit", 1, api.OK, "a"}, {"a (b)", 1, api.OK, "a"},
		{"", 0, api.ErrParse, ""}, {"; a", 0, api.ErrParse, ""}, {"a +", 2, api.ErrParse, ""}, {"a + ;", 2, api.ErrParse, ""}, {"( a", 2, api.ErrParse, ""}, {"( a ; )", 2, api.ErrParse, ""}, {"if a then b ;", 4, api.ErrParse, ""}, {"if a then b else c ;", 6, api.ErrParse, ""}, {"- - -", 3, api.ErrParse, ""}, {"a b +", 1, api.OK, "a"},
		{"a + 9223372036854775808", 2, api.ErrOverflow, ""}, {"9223372036854775808", 0, api.ErrOverflow, ""}, {"( ( 99999999999999999999 ;", 2, api.ErrOverflow, ""},
	} {
		l := cut(t, x.s)
		y, n, e := From(l)
		if n != x.n || e != x.e || (e == api.OK) != (len(y.Nodes) > 0) || e == api.OK && shape(y.Nodes, len(y.Nodes)-1) != x.shape {
			t.Errorf("From(%q): %v, %d, %d; not %q, %d, %d", x.s, y, n, e, x.shape, x.n, x.e)
		}
		checkFrom(t, l)
	}
	for _, l := range [][]lex.Token{nil, {}} {
		if x, n, e := From(l); len(x.Nodes) != 0 || n != 0 || e != api.ErrParse {
			t.Errorf("From of none: %v, %d, %d", x, n, e)
		}
	}
}

// The row is put down as it is, node by node.
func TestTheRowOfAnExpression(t *testing.T) {
	x, n, e := From(cut(t, "if a < 10 then -b else x * (c - 007) endif"))
	want := []Node{
		{Name, 0, "a", -1, -1, -1}, {Num, 10, "", -1, -1, -1}, {Less, 0, "", 0, 1, -1},
		{Name, 0, "b", -1, -1, -1}, {Neg, 0, "", 3, -1, -1},
		{Name, 0, "x", -1, -1, -1}, {Name, 0, "c", -1, -1, -1}, {Num, 7, "", -1, -1, -1}, {Sub, 0, "", 6, 7, -1}, {Mul, 0, "", 5, 8, -1},
		{If, 0, "", 2, 4, 9},
	}
	if !slices.Equal(x.Nodes, want) || n != 16 || e != api.OK {
		t.Errorf("%v, %d, %d", x, n, e)
	}
}

// Whatever tokens go on after a beginning, of all rows of a few kinds, they are read or not by the chapter's words.
func TestFromOfAllShortRows(t *testing.T) {
	var try func(l []lex.Token, left int, next []lex.Token)
	try = func(l []lex.Token, left int, next []lex.Token) {
		checkFrom(t, l)
		if left == 0 {
			return
		}
		for _, x := range next {
			more := slices.Concat(l, []lex.Token{x})
			if isBeginning(more) {
				try(more, left-1, next)
			} else {
				checkFrom(t, more)
			}
		}
	}
	try(nil, 6, tokens("a", "-", "*", "=", "(", ")", "if", "then", "else", "endif"))
	try(nil, 4, tokens("a", "7", "true", "-", "not", "*", "+", "<", "<>", "and", "or", "xor", "implies", "(", ")", "if", "then", "else", "endif", ";", "emit", "9223372036854775808"))
	try(nil, 3, tokens("a", "0", "true", "false", "-", "not", "*", "div", "mod", "+", "<", "<=", ">", ">=", "=", "<>", "and", "or", "xor", "implies", "(", ")", "if", "then", "else", "endif", "emit", ":=", ",", ";", "9223372036854775807", "9223372036854775808"))
}

func TestFromOfTokensChanged(t *testing.T) {
	all := tokens("a", "0", "true", "false", "-", "not", "*", "div", "mod", "+", "<", "<=", ">", ">=", "=", "<>", "and", "or", "xor", "implies", "(", ")", "if", "then", "else", "endif", "emit", ":=", ",", ";", "99999999999999999999")
	r := rand.New(rand.NewSource(81))
	for range 4000 {
		l := tokens(anyTree(r, 1+r.Intn(4)).words(sometimes(r))...)
		for range r.Intn(3) {
			at, n, x := r.Intn(len(l)+1), r.Intn(2), all[r.Intn(len(all))]
			switch behind := min(at+n, len(l)); r.Intn(3) {
			case 0:
				l = slices.Concat(l[:at], l[behind:])
			case 1:
				l = slices.Concat(l[:at], []lex.Token{x}, l[behind:])
			case 2:
				l = l[:at]
			}
		}
		checkFrom(t, l)
	}
}

// A token whose kind is not that of its text goes on with nothing.
func TestFromOfStrangeTokens(t *testing.T) {
	texts := []string{"a", "7", "99999999999999999999", "-", "not", "*", "and", "(", ")", "if", "then", "else", "endif", "true", "emit", ";", "", " ", "!", "a ", "--", "a b", "+1", long(65), strings.Repeat("1", 65), "\xff"}
	for _, ahead := range []string{"", "a", "a +", "(", "( a", "if", "if a", "if a then", "if a then b", "if a then b else", "if a then b else c", "if a then b else c endif"} {
		l := tokens(strings.Fields(ahead)...)
		want, m, f := From(l)
		for _, text := range texts {
			for _, kind := range []uint8{0, 1, 2, 3, 4, 5, 255} {
				strange := lex.Token{Kind: kind, Text: text, At: 3}
				behind := slices.Concat(l, []lex.Token{strange}, tokens("b", ")"))
				checkFrom(t, behind)
				if kind != 0 && kind == lex.Is(text) {
					continue
				}
				if x, n, e := From(behind); !Same(x, want) || n != m || e != f {
					t.Errorf("From(%q, %v): %v, %d, %d; not %v, %d, %d", ahead, strange, x, n, e, want, m, f)
				}
			}
		}
	}
}

func TestPlacesOfTokensCountForNothing(t *testing.T) {
	for _, x := range right {
		l := cut(t, x.s)
		want, _, _ := From(l)
		for _, at := range []int{0, -1, 1 << 62, -1 << 63} {
			for i := range l {
				l[i].At = at
			}
			if y, n, e := From(l); !Same(y, want) || n != len(l) || e != api.OK {
				t.Errorf("From(%q), all at %d: %v, %d, %d", x.s, at, y, n, e)
			}
		}
	}
}

func TestNumbersOfTokens(t *testing.T) {
	for _, n := range []int64{0, 1, 9, 10, 1000000007, 1 << 31, 1 << 32, 1<<53 + 1, math.MaxInt64 - 1, math.MaxInt64} {
		digits := strconv.FormatInt(n, 10)
		for noughts := 0; noughts+len(digits) <= mostName; noughts++ {
			x, m, e := From(tokens("-", strings.Repeat("0", noughts)+digits))
			if e != api.OK || m != 2 || x.Nodes[0] != (Node{Num, n, "", -1, -1, -1}) {
				t.Errorf("%d, %d noughts ahead: %v, %d, %d", n, noughts, x, m, e)
			}
		}
	}
	for _, digits := range []string{"9223372036854775808", "9223372036854775809", "9999999999999999999", "10000000000000000000", "18446744073709551615", "18446744073709551616", "18446744073709551617", strings.Repeat("1", 64)} {
		for noughts := 0; noughts+len(digits) <= mostName; noughts++ {
			x, m, e := From(tokens("-", strings.Repeat("0", noughts)+digits, ")"))
			if e != api.ErrOverflow || m != 1 || len(x.Nodes) != 0 {
				t.Errorf("%s, %d noughts ahead: %v, %d, %d", digits, noughts, x, m, e)
			}
		}
	}
}

func TestTheMostDepth(t *testing.T) {
	eachChain(func(op uint8, i int) {
		for depth := 1; depth <= mostDepth+8; depth++ {
			x := chain(depth, op, i)
			l := tokens(x.words(never)...)
			y, n, e := From(append(l, lex.Token{Kind: lex.Sign, Text: ";"}))
			z, at, f := Parse(x.text())
			s, g := Print(x.row())
			c := Check(x.row())
			if d := Depth(x.row()); d != depth {
				t.Errorf("op %d at %d, depth %d: %d", op, i, depth, d)
			}
			if depth <= mostDepth && (!Same(y, x.row()) || n != len(l) || e != api.OK || !Same(z, x.row()) || at != 0 || f != api.OK || s != x.text() || g != api.OK || c != api.OK) {
				t.Errorf("op %d at %d, depth %d: From %d, %d; Parse %d, %d; Print %d; Check %d", op, i, depth, n, e, at, f, g, c)
			}
			if depth > mostDepth && (len(y.Nodes) != 0 || n != 0 || e != api.ErrLimit || len(z.Nodes) != 0 || at != 0 || f != api.ErrLimit || s != "" || g != api.ErrLimit || c != api.ErrLimit) {
				t.Errorf("op %d at %d, depth %d: From %d, %d; Parse %d, %d; Print %d; Check %d", op, i, depth, n, e, at, f, g, c)
			}
		}
	})
}

// Parentheses are no depth, and there may be as many as there is memory for; tokens made by hand have no bound.
func TestManyTokens(t *testing.T) {
	const many = 3000000
	times := func(n int, words ...string) []lex.Token { return slices.Repeat(tokens(words...), n) }
	for i, x := range []struct {
		l     []lex.Token
		n     int
		e     api.Errno
		depth int
	}{
		{times(many, "("), many, api.ErrParse, 0},
		{times(many, "not"), many, api.ErrParse, 0},
		{times(many, "if"), many, api.ErrParse, 0},
		{times(many/3, "a", "+", "("), many, api.ErrParse, 0},
		{append(times(many/3, "-"), tokens("a")...), 0, api.ErrLimit, 0},
		{append(times(many/6, "a", "+"), tokens("a")...), 0, api.ErrLimit, 0},
		{slices.Concat(times(many/6, "("), tokens("a"), times(many/6+1, ")")), many/3 + 1, api.OK, 1},
		{times(many/3, "a"), 1, api.OK, 1},
	} {
		if y, n, e := From(x.l); n != x.n || e != x.e || Depth(y) != x.depth {
			t.Errorf("row %d, of %d: %d, %d", i, len(x.l), n, e)
		}
	}
}

// P8.2

func TestParse(t *testing.T) {
	for _, x := range right {
		y, at, e := Parse(x.s)
		if at != 0 || e != api.OK || shape(y.Nodes, len(y.Nodes)-1) != x.shape {
			t.Errorf("Parse(%q): %v, %d, %d; not %s", x.s, y, at, e, x.shape)
			continue
		}
		checkParse(t, x.s)
	}
}

func TestParseOfWrongOnes(t *testing.T) {
	for _, x := range wrong {
		if y, at, e := Parse(x.s); len(y.Nodes) != 0 || at != x.at || e != x.e {
			t.Errorf("Parse(%.40q): %v, %d, %d; not %d, %d", x.s, y, at, e, x.at, x.e)
		}
		checkParse(t, x.s)
	}
}

func TestEachTextWithoutABit(t *testing.T) {
	for _, x := range right {
		for from := range x.s {
			for to := from; to <= len(x.s); to++ {
				checkParse(t, x.s[:from]+x.s[to:])
				checkParse(t, x.s[from:to])
			}
		}
	}
}

func TestEveryByteAtEachPlace(t *testing.T) {
	for _, s := range []string{"if a<=007 then -1 else not _b endif", "(a + 1)*b -- c\n- d"} {
		for at := range len(s) + 1 {
			for b := range 256 {
				one := string([]byte{byte(b)})
				checkParse(t, s[:at]+one+s[at:])
				if at < len(s) {
					checkParse(t, s[:at]+one+s[at+1:])
				}
			}
		}
	}
}

func TestTheMostBytes(t *testing.T) {
	for _, x := range []struct {
		s     string
		depth int
	}{
		{"a" + strings.Repeat(" ", mostBytes-1), 1}, {strings.Repeat("\n", mostBytes-1) + "a", 1}, {strings.Repeat("(", mostBytes/2-1) + "a " + strings.Repeat(")", mostBytes/2-1), 1}, {"a+b--" + strings.Repeat("x", mostBytes-5), 2},
	} {
		if y, at, e := Parse(x.s); len(x.s) != mostBytes || at != 0 || e != api.OK || Depth(y) != x.depth {
			t.Errorf("Parse of %d bytes: %v, %d, %d", len(x.s), y, at, e)
		}
		for _, much := range []string{x.s + " ", " " + x.s, x.s + x.s, x.s + "!"} {
			if y, at, e := Parse(much); len(y.Nodes) != 0 || at != 0 || e != api.ErrLimit {
				t.Errorf("Parse of %d bytes: %v, %d, %d", len(much), y, at, e)
			}
		}
	}
	for _, s := range []string{strings.Repeat("(", mostBytes), strings.Repeat("a+", mostBytes/2), strings.Repeat("if ", mostBytes/3), strings.Repeat("- ", mostBytes/2)} {
		if y, at, e := Parse(s); len(y.Nodes) != 0 || at != len(s) || e != api.ErrParse {
			t.Errorf("Parse(%.10q ..): %d, %d", s, at, e)
		}
	}
}

// P8.3

// samples are right rows.
func samples() []Expr {
	var all []Expr
	for _, s := range []string{"1", "a", "true", "- 1", "not a", "a + b", "1 * 2", "- a - b", "a + b * c", "if a then 1 else c endif", "if a < 1 then - b else c endif + 2", "not (a and b or c)"} {
		x, _, _ := toldParse(s)
		all = append(all, x)
	}
	return all
}

func TestCheckOfRightOnes(t *testing.T) {
	for _, x := range small() {
		row := x.row()
		if Check(row) != api.OK || Depth(row) != x.depth() {
			t.Errorf("%s: %d, %d", x.text(), Check(row), Depth(row))
		}
		checkRow(t, row.Nodes)
	}
	r := rand.New(rand.NewSource(83))
	for range 2000 {
		checkRow(t, anyTree(r, 6).row().Nodes)
	}
}

func TestCheckOfWrongOnes(t *testing.T) {
	a, one := Node{Name, 0, "a", -1, -1, -1}, Node{Num, 1, "", -1, -1, -1}
	for i, l := range [][]Node{
		nil, {}, {{}}, {a, a}, {a, one}, {a, one, {Op: Add, A: 0, B: 1, C: -1}, a}, {a, a, one, {Op: Add, A: 1, B: 2, C: -1}},
		{a, one, {Op: Add, A: 1, B: 0, C: -1}}, {a, one, {Op: Add, A: 0, B: 0, C: -1}}, {a, {Op: Add, A: 0, B: 0, C: -1}}, {a, one, {Op: Add, A: 0, B: 2, C: -1}}, {a, one, {Op: Add, A: 0, B: 1}}, {a, one, {Op: Add, A: 0, B: -1, C: -1}}, {a, one, {Op: Add, A: -1, B: 1, C: -1}}, {a, {Op: Add, A: 0, B: -1, C: -1}}, {{Op: Add, A: -1, B: -1, C: -1}}, {{Op: Neg, A: 0, B: -1, C: -1}}, {{Op: Neg, A: -1, B: -1, C: -1}},
		{a, {Op: Neg, A: 0}}, {a, {Op: Neg, A: -1, B: 0, C: -1}}, {a, one, {Op: Neg, A: 1, B: -1, C: -1}}, {a, one, {Op: Neg, A: 0, B: -1, C: -1}}, {a, {Op: Neg, A: 1, B: -1, C: -1}}, {a, {Op: Neg, A: 1 << 62, B: -1, C: -1}}, {a, {Op: Neg, A: -1 << 63, B: -1, C: -1}}, {{Op: Neg, A: 1, B: -1, C: -1}, a},
		{a, a, a, {Op: If, A: 0, B: 1, C: -1}}, {a, a, {Op: If, A: 0, B: 1, C: 1}}, {a, a, a, {Op: If, A: 0, B: 2, C: 1}}, {a, a, a, {Op: If, A: 2, B: 1, C: 0}}, {a, a, a, a, {Op: If, A: 0, B: 1, C: 3}}, {a, a, a, a, {Op: If, A: 0, B: 2, C: 3}},
		{a, a, {Op: Add, A: 0, B: 1, C: -1}, a, {Op: Add, A: 0, B: 3, C: -1}}, {a, a, {Op: Add, A: 0, B: 1, C: -1}, a, {Op: Add, A: 1, B: 3, C: -1}}, {a, {Op: Neg, A: 0, B: -1, C: -1}, a, {Op: Add, A: 0, B: 2, C: -1}},
		{{Op: Num, Num: 1}}, {{Op: Num, Num: -1, A: -1, B: -1, C: -1}}, {{Op: Num, Num: -1 << 63, A: -1, B: -1, C: -1}}, {{Op: Num, Name: "1", A: -1, B: -1, C: -1}}, {{Op: True, Num: 1, A: -1, B: -1, C: -1}}, {{Op: False, Name: "false", A: -1, B: -1, C: -1}}, {a, {Op: Not, Num: 1, A: 0, B: -1, C: -1}}, {a, one, {Op: Mul, Name: "*", A: 0, B: 1, C: -1}},
		{{Op: Name, A: -1, B: -1, C: -1}}, {{Op: Name, Name: "and", A: -1, B: -1, C: -1}}, {{Op: Name, Name: "emit", A: -1, B: -1, C: -1}}, {{Op: Name, Name: "1", A: -1, B: -1, C: -1}}, {{Op: Name, Name: "a b", A: -1, B: -1, C: -1}}, {{Op: Name, Name: " a", A: -1, B: -1, C: -1}}, {{Op: Name, Name: "+", A: -1, B: -1, C: -1}}, {{Op: Name, Name: long(65), A: -1, B: -1, C: -1}}, {{Op: Name, Name: "\u00e4", A: -1, B: -1, C: -1}}, {{Op: Name, Name: "a", Num: 1, A: -1, B: -1, C: -1}},
		{{Op: 0, A: -1, B: -1, C: -1}}, {{Op: 23, A: -1, B: -1, C: -1}}, {{Op: 255, A: -1, B: -1, C: -1}}, {a, {Op: 23, A: 0, B: -1, C: -1}}, {a, {Op: 0, A: 0, B: -1, C: -1}},
	} {
		x := Expr{Nodes: l}
		if s, e := Print(x); Check(x) != api.ErrArg || Depth(x) != 0 || s != "" || e != api.ErrArg {
			t.Errorf("%d: %v: Check %d, Depth %d, Print %q, %d", i, l, Check(x), Depth(x), s, e)
		}
		checkRow(t, l)
	}
}

func TestEachFieldChanged(t *testing.T) {
	for _, x := range samples() {
		for i := range x.Nodes {
			try := func(change func(n *Node)) {
				l := slices.Clone(x.Nodes)
				change(&l[i])
				checkRow(t, l)
			}
			for op := range 256 {
				try(func(n *Node) { n.Op = uint8(op) })
				try(func(n *Node) { *n = Node{Op: uint8(op), A: n.A, B: n.B, C: n.C} })
				try(func(n *Node) { *n = Node{Op: uint8(op), Name: "a", A: n.A, B: n.B, C: n.C} })
			}
			for _, m := range []int64{0, 1, -1, 7, math.MaxInt64, math.MinInt64} {
				try(func(n *Node) { n.Num = m })
			}
			for _, s := range []string{"", "a", "b", "if", "emit", "1", "+", "a b", " a", "a ", "_", long(64), long(65), "\xff"} {
				try(func(n *Node) { n.Name = s })
			}
			for p := -3; p <= len(x.Nodes)+2; p++ {
				try(func(n *Node) { n.A = p })
				try(func(n *Node) { n.B = p })
				try(func(n *Node) { n.C = p })
				try(func(n *Node) { n.A, n.B = p, n.A })
			}
			for _, p := range []int{math.MaxInt, math.MinInt, 1 << 32} {
				try(func(n *Node) { n.A = p })
				try(func(n *Node) { n.B = p })
				try(func(n *Node) { n.C = p })
			}
		}
	}
}

func TestRowsPutTogetherOtherwise(t *testing.T) {
	for _, x := range samples() {
		l := x.Nodes
		for i := range l {
			checkRow(t, l[:i])
			checkRow(t, l[i:])
			checkRow(t, slices.Delete(slices.Clone(l), i, i+1))
			checkRow(t, slices.Insert(slices.Clone(l), i, l[i]))
			for j := range l {
				other := slices.Clone(l)
				other[i], other[j] = other[j], other[i]
				checkRow(t, other)
			}
		}
		for _, y := range samples() {
			checkRow(t, slices.Concat(l, y.Nodes))
			moved := slices.Clone(y.Nodes)
			for i := range moved {
				for _, p := range []*int{&moved[i].A, &moved[i].B, &moved[i].C} {
					if *p >= 0 {
						*p += len(l)
					}
				}
			}
			two := slices.Concat(l, moved)
			checkRow(t, two)
			for _, op := range []uint8{Neg, Add, If} {
				checkRow(t, append(slices.Clone(two), Node{Op: op, A: len(l) - 1, B: len(two) - 1, C: -1}))
				checkRow(t, append(slices.Clone(two), Node{Op: op, A: len(two) - 1, B: -1, C: -1}))
				checkRow(t, append(slices.Clone(two), Node{Op: op, A: len(two) - 1, B: len(l) - 1, C: -1}))
			}
		}
	}
}

func TestAllRowsOfTwo(t *testing.T) {
	var all []Node
	for _, op := range []uint8{Num, Name, True, Neg, Add, If} {
		for code := range 64 {
			n := Node{Op: op, A: code%4 - 1, B: code/4%4 - 1, C: code/16 - 1}
			if op == Name {
				n.Name = "a"
			}
			all = append(all, n)
		}
	}
	for _, a := range all {
		checkRow(t, []Node{a})
		for _, b := range all {
			checkRow(t, []Node{a, b})
		}
	}
}

// A row made by hand may be deeper than there is room for calls.
func TestRowsOfMany(t *testing.T) {
	const many = 2000000
	for _, op := range []uint8{Neg, Add, If} {
		l := []Node{{Op: True, A: -1, B: -1, C: -1}}
		for range many / kindOf(op).parts {
			n, last := Node{Op: op, A: len(l) - 1, B: -1, C: -1}, len(l)
			if op != Neg {
				l = append(l, Node{Name, 0, "a", -1, -1, -1})
				n.B = last
			}
			if op == If {
				l = append(l, Node{Num, 1, "", -1, -1, -1})
				n.C = last + 1
			}
			l = append(l, n)
		}
		x := Expr{Nodes: l}
		if s, e := Print(x); Depth(x) != many/kindOf(op).parts+1 || Check(x) != api.ErrLimit || s != "" || e != api.ErrLimit {
			t.Errorf("op %d: %d, %d, %d", op, Depth(x), Check(x), e)
		}
		if !Same(x, Expr{Nodes: slices.Clone(l)}) {
			t.Errorf("op %d: not the same", op)
		}
		l[len(l)/2].Num++
		if Depth(x) != 0 || Check(x) != api.ErrArg {
			t.Errorf("op %d, with a fault: %d, %d", op, Depth(x), Check(x))
		}
	}
}

func TestSame(t *testing.T) {
	all := samples()
	for i, a := range all {
		for j, b := range all {
			if Same(a, b) != (i == j) || Same(a, Expr{Nodes: slices.Clone(b.Nodes)}) != (i == j) {
				t.Errorf("Same of %d and %d: %v", i, j, Same(a, b))
			}
		}
		if Same(a, Expr{}) || Same(Expr{}, a) || Same(a, Expr{Nodes: a.Nodes[:len(a.Nodes)-1]}) || Same(a, Expr{Nodes: append(slices.Clone(a.Nodes), a.Nodes[0])}) {
			t.Errorf("%d is the same as what has not its nodes", i)
		}
		for k := range a.Nodes {
			for f, change := range []func(n *Node){func(n *Node) { n.Op++ }, func(n *Node) { n.Num++ }, func(n *Node) { n.Name += "_" }, func(n *Node) { n.A++ }, func(n *Node) { n.B++ }, func(n *Node) { n.C++ }} {
				b := Expr{Nodes: slices.Clone(a.Nodes)}
				change(&b.Nodes[k])
				if Same(a, b) || Same(b, a) {
					t.Errorf("%d is the same with node %d's field %d changed", i, k, f)
				}
			}
		}
	}
	if !Same(Expr{}, Expr{Nodes: []Node{}}) || !Same(Expr{}, Expr{}) {
		t.Error("none are not the same as none")
	}
	odd := Expr{Nodes: []Node{{Op: 99, Num: -5, Name: "?", A: 9, B: 9, C: -9}, {}}}
	if !Same(odd, Expr{Nodes: slices.Clone(odd.Nodes)}) {
		t.Error("rows that are not right are not the same")
	}
}

// P8.4

func TestPrint(t *testing.T) {
	for _, x := range right {
		y, _, _ := Parse(x.s)
		if s, e := Print(y); s != x.print || e != api.OK {
			t.Errorf("Print of %q: %q, %d; not %q", x.s, s, e, x.print)
		}
	}
	for _, x := range small() {
		if s, e := Print(x.row()); s != x.text() || e != api.OK {
			t.Errorf("Print(%v): %q, %d; not %q", x.row(), s, e, x.text())
		}
	}
}

// A writing has no bound of its own: what is longer than a text may be is printed, and its tokens are read as it was.
func TestPrintOfMuch(t *testing.T) {
	x := named(long(mostName))
	for range 12 {
		x = of(Sub, x, of(Neg, x))
	}
	want := x.words(never)
	s, e := Print(x.row())
	if s != strings.Join(want, " ") || e != api.OK || len(s) <= mostBytes {
		t.Errorf("Print of %d nodes: %d bytes, %d", len(x.row().Nodes), len(s), e)
	}
	if y, n, e := From(tokens(want...)); !Same(y, x.row()) || n != len(want) || e != api.OK {
		t.Errorf("From of %d tokens: %d, %d", len(want), n, e)
	}
}

// Without any one pair of parentheses what was printed would be another expression, or none.
func TestNoParenthesesButWhatMust(t *testing.T) {
	all := small()
	r := rand.New(rand.NewSource(84))
	for range 500 {
		all = append(all, anyTree(r, 5))
	}
	for _, x := range all {
		s, _ := Print(x.row())
		words := strings.Split(s, " ")
		for i, w := range words {
			if w != "(" {
				continue
			}
			j, within := i, 0
			for ; j == i || within > 0; j++ {
				within += map[string]int{"(": 1, ")": -1}[words[j]]
			}
			less := slices.Concat(words[:i], words[i+1:j-1], words[j:])
			if y, _, e := Parse(strings.Join(less, " ")); e == api.OK && Same(y, x.row()) {
				t.Errorf("Print(%v): %q has parentheses, at token %d, that need not be", x.row(), s, i)
			}
		}
	}
}

// P8.5

func TestWhatIsHandedInIsOnlyRead(t *testing.T) {
	more := lex.Token{Kind: lex.Name, Text: "more", At: 99}
	for _, x := range right {
		l := append(cut(t, x.s), more, more)
		before := slices.Clone(l)
		From(l[:len(l)-2])
		From(l[1 : len(l)-2])
		if !slices.Equal(l, before) {
			t.Errorf("%v was handed in, and is %v now", before, l)
		}
		row := append(toldNodes(x.s), Node{Op: 99, Name: "more"}, Node{})
		kept := slices.Clone(row)
		for n := range row {
			y := Expr{Nodes: row[:n]}
			Check(y)
			Depth(y)
			Print(y)
			Same(y, y)
		}
		if !slices.Equal(row, kept) {
			t.Errorf("%v was handed in, and is %v now", kept, row)
		}
	}
}

// toldNodes are the nodes of what a text writes.
func toldNodes(s string) []Node {
	x, _, _ := toldParse(s)
	return x.Nodes
}

// within tells whether part lies in the memory of whole.
func within(part, whole string) bool {
	if part == "" || whole == "" {
		return false
	}
	p, w := uintptr(unsafe.Pointer(unsafe.StringData(part))), uintptr(unsafe.Pointer(unsafe.StringData(whole)))
	return p < w+uintptr(len(whole)) && w < p+uintptr(len(part))
}

func TestWhatIsAnsweredIsNewMemory(t *testing.T) {
	for _, x := range right {
		given := strings.Clone(x.s)
		l := cut(t, given)
		first, _, _ := From(l)
		second, _, _ := From(l)
		third, _, _ := Parse(given)
		for i, n := range first.Nodes {
			for _, token := range l {
				if within(n.Name, token.Text) {
					t.Errorf("From(%q): node %d's name lies in a token", x.s, i)
				}
			}
			for j, m := range slices.Concat(first.Nodes, second.Nodes) {
				if i != j && within(n.Name, m.Name) {
					t.Errorf("From(%q): the names of nodes %d and %d share memory", x.s, i, j)
				}
			}
		}
		for i, n := range third.Nodes {
			if within(n.Name, given) {
				t.Errorf("Parse(%q): node %d's name lies in the text", x.s, i)
			}
		}
		want := slices.Clone(second.Nodes)
		for i := range l {
			l[i] = lex.Token{Kind: 9, Text: "other"}
		}
		for i := range first.Nodes {
			first.Nodes[i], third.Nodes[i] = Node{Op: 9}, Node{Op: 8}
		}
		first.Nodes = append(first.Nodes, Node{Op: 7})
		if again, _, _ := Parse(given); !slices.Equal(second.Nodes, want) || !slices.Equal(again.Nodes, want) {
			t.Errorf("%q: other answers, since one was written on: %v, %v", x.s, second, again)
		}
	}
	for _, s := range []string{"name", "- name", "123", "a + b"} {
		x, _, _ := Parse(s)
		first, _ := Print(x)
		second, _ := Print(x)
		if within(first, second) || within(first, x.Nodes[0].Name) {
			t.Errorf("Print of %q: not new memory", s)
		}
	}
}

// P8.6

func TestThereAndBack(t *testing.T) {
	try := func(x *tree) {
		s, e := Print(x.row())
		y, at, f := Parse(s)
		if e != api.OK || !Same(y, x.row()) || at != 0 || f != api.OK {
			t.Errorf("Print(%v): %q, %d; Parse of that: %v, %d, %d", x.row(), s, e, y, at, f)
		}
	}
	for _, x := range small() {
		try(x)
	}
	r := rand.New(rand.NewSource(86))
	for range 3000 {
		try(anyTree(r, 1+r.Intn(7)))
	}
}

func TestInParenthesesItIsTheSame(t *testing.T) {
	r := rand.New(rand.NewSource(68))
	try := func(x *tree) {
		s := strings.Join(x.words(sometimes(r)), []string{" ", "\n", " -- )\n"}[r.Intn(3)])
		for range r.Intn(3) {
			s = "(" + s + "\n)"
		}
		y, at, e := Parse(s)
		if !Same(y, x.row()) || at != 0 || e != api.OK {
			t.Errorf("Parse(%q): %v, %d, %d; not %v", s, y, at, e, x.row())
		}
		p, _ := Print(y)
		if z, at, e := Parse(p); !Same(z, y) || at != 0 || e != api.OK {
			t.Errorf("Parse(%q): %v, %d, %d; not %v", p, z, at, e, y)
		}
	}
	for _, x := range small() {
		try(x)
	}
	for range 3000 {
		try(anyTree(r, 1+r.Intn(6)))
	}
	for _, x := range right {
		y, _, _ := Parse(x.s)
		p, _ := Print(y)
		if z, at, e := Parse(p); !Same(z, y) || at != 0 || e != api.OK {
			t.Errorf("Parse(%q): %v, %d, %d", p, z, at, e)
		}
		for _, s := range []string{"(" + x.s + ")", "((" + x.s + "\n))"} {
			if z, at, e := Parse(s); !Same(z, y) || at != 0 || e != api.OK {
				t.Errorf("Parse(%q): %v, %d, %d; not %v", s, z, at, e, y)
			}
		}
	}
}

// The ops have the chapter's numbers.
func TestOps(t *testing.T) {
	for i, op := range []uint8{Num, Name, True, False, Neg, Not, Mul, Div, Mod, Add, Sub, Less, LessEq, More, MoreEq, Eq, Ne, And, Or, Xor, Implies, If} {
		if int(op) != i+1 {
			t.Errorf("op %d is %d", i+1, op)
		}
	}
}
