package types

import (
	"math/rand"
	"slices"
	"strconv"
	"strings"
	"testing"
	"unsafe"

	"hopscotch/api"
	"hopscotch/expr"
	"hopscotch/lex"
)

// The chapters' bounds, as their own numbers.
const (
	mostBytes = 65536
	mostDepth = 64
	mostName  = 64
)

// line is a line of the chapter's table, with an op's word: each of its kinds is its parts' kinds, and, behind =, what it is then (i an Int, b a Bool).
type line struct {
	op    uint8
	word  string
	kinds string
}

var lines = []line{
	{expr.Num, "", "=i"}, {expr.Name, "", "=i"}, {expr.True, "true", "=b"}, {expr.False, "false", "=b"},
	{expr.Neg, "-", "i=i"}, {expr.Not, "not", "b=b"},
	{expr.Mul, "*", "ii=i"}, {expr.Div, "div", "ii=i"}, {expr.Mod, "mod", "ii=i"}, {expr.Add, "+", "ii=i"}, {expr.Sub, "-", "ii=i"},
	{expr.Less, "<", "ii=b"}, {expr.LessEq, "<=", "ii=b"}, {expr.More, ">", "ii=b"}, {expr.MoreEq, ">=", "ii=b"},
	{expr.Eq, "=", "ii=b bb=b"}, {expr.Ne, "<>", "ii=b bb=b"},
	{expr.And, "and", "bb=b"}, {expr.Or, "or", "bb=b"}, {expr.Xor, "xor", "bb=b"}, {expr.Implies, "implies", "bb=b"},
	{expr.If, "if", "bii=i bbb=b"},
}

// lineOf tells an op's line.
func lineOf(op uint8) line {
	for _, l := range lines {
		if l.op == op {
			return l
		}
	}
	return line{}
}

// count tells how many parts an op has.
func (l line) count() int { return strings.Index(l.kinds, "=") }

// tree is an expression.
type tree struct {
	op    uint8
	num   int64
	name  string
	parts []*tree
}

func number(n int64) *tree                   { return &tree{op: expr.Num, num: n} }
func named(s string) *tree                   { return &tree{op: expr.Name, name: s} }
func node(op uint8, parts ...*tree) *tree    { return &tree{op: op, parts: parts} }
func (x *tree) row() expr.Expr               { return expr.Expr{Nodes: x.nodes(nil)} }
func (x *tree) kind(known ...string) string  { l, _ := x.kinds(nil, known); return l[len(l)-1] }
func (x *tree) told(known ...string) []uint8 { l, _ := x.kinds(nil, known); return numbers(l) }
func (x *tree) fault(known ...string) int    { _, at := x.kinds(nil, known); return at }

// nodes puts a tree's nodes behind those that are there: each behind its parts.
func (x *tree) nodes(l []expr.Node) []expr.Node {
	places := [3]int{-1, -1, -1}
	for i, p := range x.parts {
		l = p.nodes(l)
		places[i] = len(l) - 1
	}
	return append(l, expr.Node{Op: x.op, Num: x.num, Name: x.name, A: places[0], B: places[1], C: places[2]})
}

// depth is 1 without parts, else 1 more than that of the deepest part.
func (x *tree) depth() int {
	deepest := 0
	for _, p := range x.parts {
		deepest = max(deepest, p.depth())
	}
	return 1 + deepest
}

// text writes a tree, with parentheses about every part.
func (x *tree) text() string {
	var parts []string
	for _, p := range x.parts {
		parts = append(parts, "("+p.text()+")")
	}
	word := lineOf(x.op).word
	switch {
	case x.op == expr.Num:
		return strconv.FormatInt(x.num, 10)
	case x.op == expr.Name:
		return x.name
	case x.op == expr.If:
		return "if" + parts[0] + "then" + parts[1] + "else" + parts[2] + "endif"
	case len(parts) == 2:
		return parts[0] + word + parts[1]
	}
	return word + strings.Join(parts, "")
}

// all are a tree, and all that is in it, in the order of its nodes.
func (x *tree) all() []*tree {
	var l []*tree
	for _, p := range x.parts {
		l = append(l, p.all()...)
	}
	return append(l, x)
}

// kinds tells the kinds of a tree's nodes behind those that are there (n for none), and the place of the first that has none; -1, if each has one.
func (x *tree) kinds(l []string, known []string) ([]string, int) {
	parts := ""
	for _, p := range x.parts {
		l, _ = p.kinds(l, known)
		parts += l[len(l)-1]
	}
	kind := "n"
	for _, k := range strings.Fields(lineOf(x.op).kinds) {
		must, is, _ := strings.Cut(k, "=")
		if must == parts && (x.op != expr.Name || slices.Contains(known, x.name)) {
			kind = is
		}
	}
	l = append(l, kind)
	return l, slices.Index(l, "n")
}

// numbers are the kinds' numbers.
func numbers(l []string) []uint8 {
	var all []uint8
	for _, k := range l {
		all = append(all, map[string]uint8{"i": 1, "b": 2}[k])
	}
	return all
}

// names are the names in a tree, in order, each once.
func (x *tree) names() []string {
	var l []string
	for _, y := range x.all() {
		if y.op == expr.Name && !slices.Contains(l, y.name) {
			l = append(l, y.name)
		}
	}
	return l
}

// check holds all calls but Guard against the chapter's words.
func check(t *testing.T, x *tree, known ...string) {
	t.Helper()
	e := x.row()
	l, kind, at, f := x.told(known...), uint8(0), 0, api.OK
	switch fault := x.fault(known...); {
	case x.depth() > mostDepth:
		l, f = nil, api.ErrLimit
	case fault >= 0:
		l, at, f = nil, fault, api.ErrType
	default:
		kind = l[len(l)-1]
	}
	if got, place, g := Kinds(e, known...); !slices.Equal(got, l) || place != at || g != f {
		t.Fatalf("Kinds(%s, %q): %v, %d, %d; not %v, %d, %d", x.text(), known, got, place, g, l, at, f)
	}
	if got, place, g := Of(e, known...); got != kind || place != at || g != f {
		t.Fatalf("Of(%s, %q): %d, %d, %d; not %d, %d, %d", x.text(), known, got, place, g, kind, at, f)
	}
	if got := Names(e); !slices.Equal(got, x.names()) {
		t.Fatalf("Names(%s): %q, not %q", x.text(), got, x.names())
	}
}

// checkGuard holds Guard, of a tree's writing, against the chapter's words.
func checkGuard(t *testing.T, x *tree, known ...string) {
	t.Helper()
	s := x.text()
	want, f := x.row(), api.OK
	if x.kind(known...) != "b" {
		want, f = expr.Expr{}, api.ErrType
	}
	if e, at, g := Guard(s, known...); !expr.Same(e, want) || at != 0 || g != f {
		t.Fatalf("Guard(%q, %q): %v, %d, %d; not %v, %d", s, known, e, at, g, want, f)
	}
}

// anyLeaf is a node without parts.
func anyLeaf(r *rand.Rand) *tree {
	return []*tree{number(0), number(7), number(1<<63 - 1), named("x"), named("x"), named("z"), named("y"), node(expr.True), node(expr.False)}[r.Intn(9)]
}

// anyTree is a tree of at most that depth, whatever its kinds.
func anyTree(r *rand.Rand, depth int) *tree {
	l := lines[r.Intn(len(lines))]
	if depth == 1 || l.count() == 0 {
		return anyLeaf(r)
	}
	x := node(l.op)
	for range l.count() {
		x.parts = append(x.parts, anyTree(r, depth-1))
	}
	return x
}

// anyOf is a tree of at most that depth that has a kind, x and z being known.
func anyOf(r *rand.Rand, kind string, depth int) *tree {
	for depth > 1 && r.Intn(5) > 0 {
		l := lines[r.Intn(len(lines))]
		all := strings.Fields(l.kinds)
		must, is, _ := strings.Cut(all[r.Intn(len(all))], "=")
		if is != kind || must == "" {
			continue
		}
		x := node(l.op)
		for _, k := range must {
			x.parts = append(x.parts, anyOf(r, string(k), depth-1))
		}
		return x
	}
	if kind == "b" {
		return node([]uint8{expr.True, expr.False}[r.Intn(2)])
	}
	return []*tree{number(int64(r.Intn(100))), named("x"), named("z")}[r.Intn(3)]
}

// other is what has another kind, or none.
func other(r *rand.Rand, kind string) *tree {
	if r.Intn(4) == 0 {
		return []*tree{named("y"), node(expr.Neg, node(expr.True)), node(expr.Not, number(1)), node(expr.Eq, named("y"), named("y"))}[r.Intn(4)]
	}
	return anyOf(r, map[string]string{"i": "b", "b": "i"}[kind], 3)
}

// chain is a tree of that depth: one op in itself, the deep part being the one at place i, around the least part.
func chain(depth int, op uint8, i int, least *tree, beside ...*tree) *tree {
	x := least
	for range depth - 1 {
		parts := slices.Clone(beside)
		x = node(op, slices.Insert(parts, i, x)...)
	}
	return x
}

// parsed is what a text writes.
func parsed(t *testing.T, s string) expr.Expr {
	t.Helper()
	e, at, f := expr.Parse(s)
	if f != api.OK {
		t.Fatalf("%q is no expression: %d, %d", s, at, f)
	}
	return e
}

// long is a name of n bytes.
func long(n int) string { return strings.Repeat("n", n) }

// P9.1

// right are writings that have kinds, x and z being known, with the kinds of all nodes.
var right = []struct{ s, kinds string }{
	{"1", "i"}, {"x", "i"}, {"true", "b"}, {"false", "b"}, {"- x", "ii"}, {"- - 1", "iii"}, {"not true", "bb"}, {"not not false", "bbb"},
	{"x * 2", "iii"}, {"x div 0", "iii"}, {"x mod z", "iii"}, {"x + 1", "iii"}, {"x - x", "iii"},
	{"x < 1", "iib"}, {"x <= 1", "iib"}, {"x > 1", "iib"}, {"x >= 1", "iib"}, {"x = 1", "iib"}, {"x <> 1", "iib"}, {"true = false", "bbb"}, {"true <> false", "bbb"},
	{"true and false", "bbb"}, {"true or false", "bbb"}, {"true xor false", "bbb"}, {"true implies false", "bbb"},
	{"if true then x else 1 endif", "biii"}, {"if true then false else true endif", "bbbb"}, {"if x < 1 then x else z endif", "iibiii"},
	{"x < 1 or true", "iibbb"}, {"x + 1 * - x", "iiiiii"}, {"(x < 1) = (z > 2) = true", "iibiibbbb"}, {"x = 1 = true", "iibbb"},
	{"if true then 1 else 2 endif + 3", "biiiii"}, {"if if true then false else true endif then 1 else 2 endif", "bbbbiii"}, {"not (x = 1) and true implies false", "iibbbbbb"},
	{"if true then true else false endif = (x < 1)", "bbbbiibb"}, {"- (if true then - 1 else x endif)", "biiiii"},
}

// wrong are writings of which a node has no kind, x and z being known, with the first such one's place.
var wrong = []struct {
	s  string
	at int
}{
	{"y", 0}, {"X", 0}, {"xx", 0}, {"_x", 0}, {"- y", 0}, {"- true", 1}, {"not x", 1}, {"not 0", 1}, {"- (x < 1)", 3}, {"not - 1", 2}, {"- not true", 2},
	{"x + true", 2}, {"true + x", 2}, {"true - false", 2}, {"x * true", 2}, {"true * x", 2}, {"true div 1", 2}, {"1 div true", 2}, {"true mod 1", 2}, {"1 mod true", 2}, {"x - (x = x)", 4},
	{"true < false", 2}, {"x < true", 2}, {"true <= x", 2}, {"x > true", 2}, {"true >= true", 2}, {"1 < 2 < 3", 4}, {"x <= z <= 1", 4},
	{"x = true", 2}, {"true = x", 2}, {"x <> false", 2}, {"false <> 1", 2}, {"1 = 2 = 3", 4}, {"true = (1 = 2) <> 3", 6},
	{"x and true", 2}, {"true and x", 2}, {"x or false", 2}, {"true or 1", 2}, {"1 xor 2", 2}, {"true xor 2", 2}, {"1 implies true", 2}, {"true implies 1", 2}, {"true and true and 1", 4},
	{"if x then 1 else 2 endif", 3}, {"if true then 1 else false endif", 3}, {"if true then false else 1 endif", 3}, {"if 1 then true else false endif", 3}, {"if 1 then true else 2 endif", 3},
	{"1 + (true + y)", 2}, {"y + true", 0}, {"true + true + y", 2}, {"x + (1 + - true)", 3}, {"y = y", 0}, {"x = y", 1}, {"if y then y else y endif", 0}, {"if true then y else y endif", 1}, {"if true then x else y endif", 2}, {"x < 1 and y < 1", 3}, {"not y and - true < 1", 0},
	{"if true then 1 else 2 endif and true", 5}, {"1 + if true then true else false endif", 5}, {"x = 1 and (z = 1) + 1", 7},
}

func TestKinds(t *testing.T) {
	for _, x := range right {
		want := numbers(strings.Split(x.kinds, ""))
		if l, at, f := Kinds(parsed(t, x.s), "x", "z"); !slices.Equal(l, want) || at != 0 || f != api.OK {
			t.Errorf("Kinds(%s): %v, %d, %d; not %v", x.s, l, at, f, want)
		}
	}
	for _, x := range wrong {
		if l, at, f := Kinds(parsed(t, x.s), "x", "z"); len(l) != 0 || at != x.at || f != api.ErrType {
			t.Errorf("Kinds(%s): %v, %d, %d; not %d", x.s, l, at, f, x.at)
		}
	}
	if Int != 1 || Bool != 2 {
		t.Errorf("the kinds are %d and %d", Int, Bool)
	}
}

// Each op is asked with all kinds of all parts, and parts that have none.
func TestKindsOfEachOp(t *testing.T) {
	samples := []*tree{number(1), named("x"), node(expr.Neg, number(2)), node(expr.Add, named("x"), number(1)), node(expr.True), node(expr.False), node(expr.Less, number(1), number(2)), node(expr.Eq, node(expr.True), node(expr.True)), named("y"), node(expr.Neg, node(expr.True)), node(expr.Eq, number(1), node(expr.True))}
	for _, l := range lines {
		rows := [][]*tree{{}}
		for range l.count() {
			var more [][]*tree
			for _, row := range rows {
				for _, s := range samples {
					more = append(more, append(slices.Clone(row), s))
				}
			}
			rows = more
		}
		for _, row := range rows {
			x := node(l.op, row...)
			if l.op == expr.Name {
				x.name = "x"
			}
			for _, known := range [][]string{nil, {}, {"x"}, {"y"}, {"x", "y"}, {"y", "z", "x", "x"}} {
				check(t, x, known...)
				checkGuard(t, x, known...)
			}
		}
	}
}

// Trees of one op, and of two in one another, of few leaves.
func TestKindsOfSmallOnes(t *testing.T) {
	leaves := []*tree{number(1), named("x"), named("y"), node(expr.True)}
	inner := slices.Clone(leaves)
	for _, l := range lines {
		switch l.count() {
		case 1:
			for _, a := range leaves {
				inner = append(inner, node(l.op, a))
			}
		case 2:
			for _, a := range leaves {
				for _, b := range leaves {
					inner = append(inner, node(l.op, a, b))
				}
			}
		}
	}
	for _, a := range inner {
		check(t, a, "x")
		for _, l := range lines {
			switch l.count() {
			case 1:
				check(t, node(l.op, a), "x")
			case 2:
				for _, b := range leaves {
					check(t, node(l.op, a, b), "x")
					check(t, node(l.op, b, a), "x")
				}
			case 3:
				for _, b := range leaves {
					for _, c := range leaves {
						check(t, node(l.op, a, b, c), "x")
						check(t, node(l.op, b, a, c), "x")
						check(t, node(l.op, b, c, a), "x")
					}
				}
			}
		}
	}
}

func TestKindsOfManyOnes(t *testing.T) {
	r := rand.New(rand.NewSource(91))
	for range 4000 {
		x := anyTree(r, 1+r.Intn(6))
		check(t, x, "x", "z")
		checkGuard(t, x, "x", "z")
		kind := []string{"i", "b"}[r.Intn(2)]
		x = anyOf(r, kind, 1+r.Intn(6))
		if x.kind("x", "z") != kind {
			t.Fatalf("%s was to be of kind %s", x.text(), kind)
		}
		check(t, x, "x", "z")
		checkGuard(t, x, "x", "z")
		for range 1 + r.Intn(2) {
			all := x.all()
			y := all[r.Intn(len(all))]
			if k := y.kind("x", "z"); k != "n" {
				*y = *other(r, k)
			}
		}
		check(t, x, "x", "z")
		checkGuard(t, x, "x", "z")
	}
}

// P9.1, P9.2: what expr.Check tells goes ahead of what has no kind.
func TestRowsThatAreNotRight(t *testing.T) {
	x, y, b := expr.Node{Op: expr.Name, Name: "x", A: -1, B: -1, C: -1}, expr.Node{Op: expr.Name, Name: "y", A: -1, B: -1, C: -1}, expr.Node{Op: expr.True, A: -1, B: -1, C: -1}
	for i, l := range [][]expr.Node{
		nil, {}, {{}}, {x, x}, {y, y}, {y, x, {Op: expr.Add, A: 0, B: 0, C: -1}}, {x, b, {Op: expr.Add, A: 1, B: 0, C: -1}}, {x, {Op: expr.Neg, A: 0}}, {x, {Op: expr.Neg, A: 1, B: -1, C: -1}}, {{Op: expr.Neg, A: -1, B: -1, C: -1}}, {x, {Op: expr.Neg, A: 9, B: -1, C: -1}}, {x, {Op: expr.Neg, A: -9, B: -1, C: -1}}, {x, {Op: expr.Neg, A: -1 << 63, B: -1, C: -1}}, {x, {Op: expr.Neg, A: 1<<63 - 1, B: -1, C: -1}}, {b, x, x, {Op: expr.If, A: 0, B: 1, C: -1}}, {b, x, x, {Op: expr.If, A: 0, B: 1, C: 1}},
		{{Op: 23, A: -1, B: -1, C: -1}}, {{Op: 0, A: -1, B: -1, C: -1}}, {{Op: 255, A: -1, B: -1, C: -1}}, {x, {Op: 23, A: 0, B: -1, C: -1}}, {x, x, {Op: 200, A: 0, B: 1, C: -1}},
		{{Op: expr.Num, Num: -1, A: -1, B: -1, C: -1}}, {{Op: expr.Num, Num: 1}}, {{Op: expr.Num, Name: "x", A: -1, B: -1, C: -1}}, {{Op: expr.True, Name: "x", A: -1, B: -1, C: -1}}, {{Op: expr.Name, A: -1, B: -1, C: -1}}, {{Op: expr.Name, Name: "if", A: -1, B: -1, C: -1}}, {{Op: expr.Name, Name: " x", A: -1, B: -1, C: -1}}, {{Op: expr.Name, Name: "1", A: -1, B: -1, C: -1}}, {{Op: expr.Name, Name: long(mostName + 1), A: -1, B: -1, C: -1}}, {{Op: expr.Name, Name: "\xff", A: -1, B: -1, C: -1}}, {{Op: expr.Name, Name: "x", Num: 1, A: -1, B: -1, C: -1}},
		{x, b, {Op: expr.Add, A: 0, B: 1, C: -1}, x}, {b, {Op: expr.Neg, A: 0, B: -1, C: -1}, b}, {b, {Op: expr.Neg, A: 0, B: -1, C: -1}, {Op: expr.Neg, A: 0, B: -1, C: -1}},
	} {
		e := expr.Expr{Nodes: l}
		for _, known := range [][]string{nil, {"x"}, {"x", "y", "if", " x", "1", "", "\xff", long(mostName + 1)}} {
			kinds, at, f := Kinds(e, known...)
			kind, place, g := Of(e, known...)
			if len(kinds) != 0 || at != 0 || f != api.ErrArg || kind != 0 || place != 0 || g != api.ErrArg {
				t.Errorf("%d: %v: Kinds %v, %d, %d; Of %d, %d, %d", i, l, kinds, at, f, kind, place, g)
			}
		}
		if names := Names(e); len(names) != 0 {
			t.Errorf("%d: %v: Names %q", i, l, names)
		}
	}
}

// deepOnes are trees of that depth, with and without kinds.
func deepOnes(depth int) []*tree {
	one, x, y, yes := number(1), named("x"), named("y"), node(expr.True)
	return []*tree{
		chain(depth, expr.Neg, 0, x), chain(depth, expr.Neg, 0, y), chain(depth, expr.Neg, 0, yes), chain(depth, expr.Not, 0, yes), chain(depth, expr.Not, 0, one),
		chain(depth, expr.Add, 0, x, one), chain(depth, expr.Add, 1, x, one), chain(depth, expr.Sub, 1, y, x), chain(depth, expr.Mul, 0, yes, one), chain(depth, expr.Mod, 1, one, yes),
		chain(depth, expr.Eq, 0, yes, yes), chain(depth, expr.Ne, 1, yes, yes), chain(depth, expr.Eq, 0, one, one), chain(depth, expr.And, 0, yes, yes), chain(depth, expr.Implies, 1, yes, x),
		chain(depth, expr.If, 0, yes, yes, yes), chain(depth, expr.If, 1, x, yes, one), chain(depth, expr.If, 2, yes, yes, yes), chain(depth, expr.If, 2, x, yes, yes),
		node(expr.Less, chain(depth-1, expr.Neg, 0, x), chain(depth-1, expr.Neg, 0, one)), node(expr.Eq, one, chain(depth-1, expr.Not, 0, yes)), node(expr.Or, y, chain(depth-1, expr.Not, 0, yes)),
	}
}

func TestDeepOnes(t *testing.T) {
	for _, depth := range []int{2, mostDepth - 1, mostDepth, mostDepth + 1, mostDepth + 2, 3 * mostDepth} {
		for _, x := range deepOnes(depth) {
			check(t, x, "x")
			check(t, x)
			_, at, f := Kinds(x.row(), "x")
			if (f == api.ErrLimit) != (depth > mostDepth) || f == api.ErrLimit && at != 0 {
				t.Errorf("Kinds of depth %d: %d, %d", depth, at, f)
			}
		}
	}
	deep := strings.Repeat("not ", mostDepth-1) + "true"
	if e, at, f := Guard(deep); !expr.Same(e, parsed(t, deep)) || at != 0 || f != api.OK {
		t.Errorf("Guard of depth %d: %v, %d, %d", mostDepth, e, at, f)
	}
}

// The rows may have many nodes, and there may be many names.
func TestMany(t *testing.T) {
	var build func(from, to int) *tree
	build = func(from, to int) *tree {
		if to-from == 1 {
			return named("n" + strconv.Itoa(from))
		}
		middle := (from + to) / 2
		return node(expr.Add, build(from, middle), build(middle, to))
	}
	const many = 1 << 15
	e := build(0, many).row()
	var known []string
	for i := range many {
		known = append(known, "n"+strconv.Itoa(i))
	}
	l, at, f := Kinds(e, known...)
	if !slices.Equal(l, slices.Repeat([]uint8{Int}, 2*many-1)) || at != 0 || f != api.OK {
		t.Errorf("Kinds of %d nodes: %d, %d, %d", len(e.Nodes), len(l), at, f)
	}
	if got := Names(e); !slices.Equal(got, known) {
		t.Errorf("Names of %d nodes: %d", len(e.Nodes), len(got))
	}
	last := len(e.Nodes) - 1
	for e.Nodes[last].Op != expr.Name {
		last--
	}
	if kind, at, f := Of(e, known[:many-1]...); kind != 0 || at != last || f != api.ErrType {
		t.Errorf("Of %d nodes, without the last name: %d, %d, %d", len(e.Nodes), kind, at, f)
	}
}

// P9.2

func TestOf(t *testing.T) {
	for _, x := range right {
		want := map[byte]uint8{'i': Int, 'b': Bool}[x.kinds[len(x.kinds)-1]]
		if kind, at, f := Of(parsed(t, x.s), "x", "z"); kind != want || at != 0 || f != api.OK {
			t.Errorf("Of(%s): %d, %d, %d; not %d", x.s, kind, at, f, want)
		}
	}
	for _, x := range wrong {
		if kind, at, f := Of(parsed(t, x.s), "x", "z"); kind != 0 || at != x.at || f != api.ErrType {
			t.Errorf("Of(%s): %d, %d, %d; not %d", x.s, kind, at, f, x.at)
		}
	}
}

// A name is known, if the row has it just so, wherever, and however often.
func TestNamesThatAreKnown(t *testing.T) {
	full := long(mostName)
	for _, x := range []struct {
		name  string
		known []string
		is    bool
	}{
		{"x", nil, false}, {"x", []string{}, false}, {"x", []string{"x"}, true}, {"x", []string{"y", "x"}, true}, {"x", []string{"x", "y"}, true}, {"x", []string{"y", "x", "z"}, true}, {"x", []string{"x", "x"}, true}, {"x", []string{"y", "y", "z"}, false},
		{"x", []string{"X"}, false}, {"X", []string{"x"}, false}, {"x", []string{"xx", "", " x", "x ", "x\n", "_x", "x_", "x1", "\xff", "if"}, false}, {"xx", []string{"x"}, false}, {"x", []string{""}, false}, {"x", []string{"", "x", "+"}, true}, {"x", []string{"x y"}, false}, {"x", []string{"x,y"}, false},
		{"_", []string{"_"}, true}, {"_", []string{"__"}, false}, {full, []string{full}, true}, {full, []string{full[1:], full + "n"}, false}, {full[1:], []string{full}, false}, {"arg", nil, false}, {"arg", []string{"arg"}, true}, {"Int", nil, false},
	} {
		check(t, named(x.name), x.known...)
		kind, at, f := Of(named(x.name).row(), x.known...)
		if (kind == Int) != x.is || (f == api.OK) != x.is || at != 0 || kind == Bool {
			t.Errorf("Of(%s, %q): %d, %d, %d", x.name, x.known, kind, at, f)
		}
		for _, y := range []*tree{node(expr.Neg, named(x.name)), node(expr.Less, number(1), named(x.name)), node(expr.If, node(expr.True), named(x.name), named(x.name))} {
			check(t, y, x.known...)
			checkGuard(t, y, x.known...)
		}
	}
}

// P9.3

func TestNames(t *testing.T) {
	for s, want := range map[string]string{
		"1": "", "true": "", "not (1 < 2)": "", "x": "x", "- x": "x", "x + x": "x", "b + a": "b a", "b + a * b": "b a", "a * b + a": "a b", "c - (b - (a - b))": "c b a", "if c then b else a endif": "c b a", "if c then b else c endif + a": "c b a",
		"x + true": "x", "not y": "y", "x and y = x": "x y", "A + a + _a + a_": "A a _a a_", "arg + Int": "arg Int", "aa + a + aaa + aa": "aa a aaa", long(mostName) + "+" + long(mostName-1): long(mostName) + " " + long(mostName-1),
	} {
		if l := Names(parsed(t, s)); strings.Join(l, " ") != want || len(l) != len(strings.Fields(want)) {
			t.Errorf("Names(%s): %q, not %q", s, l, want)
		}
	}
}

// A row that is right has names, however deep it is.
func TestNamesOfDeepOnes(t *testing.T) {
	for _, depth := range []int{mostDepth, mostDepth + 1, 1000, 100000} {
		l := []expr.Node{{Op: expr.Name, Name: "b", A: -1, B: -1, C: -1}}
		for range depth - 1 {
			l = append(l, expr.Node{Op: expr.Name, Name: "a", A: -1, B: -1, C: -1}, expr.Node{Op: expr.Add, A: len(l) - 1, B: len(l), C: -1})
		}
		e := expr.Expr{Nodes: l}
		if got := Names(e); !slices.Equal(got, []string{"b", "a"}) {
			t.Errorf("Names of depth %d: %q", depth, got)
		}
		l[len(l)-1].Num = 1
		if got := Names(e); len(got) != 0 {
			t.Errorf("Names of depth %d, with a fault: %q", depth, got)
		}
	}
}

// P9.4

func TestGuardWithoutTokens(t *testing.T) {
	want := expr.Expr{Nodes: []expr.Node{{Op: expr.True, A: -1, B: -1, C: -1}}}
	for _, s := range []string{"", " ", "\t\r\n ", "--", "-- none", "--\n", " -- a\n\t-- b ! \xff\r\n", "---", strings.Repeat(" ", mostBytes), "--" + strings.Repeat("!", mostBytes-2), strings.Repeat("\n", mostBytes)} {
		for _, known := range [][]string{nil, {}, {"x"}, {"true"}} {
			if e, at, f := Guard(s, known...); !expr.Same(e, want) || at != 0 || f != api.OK {
				t.Errorf("Guard(%.10q): %v, %d, %d", s, e, at, f)
			}
		}
	}
}

func TestGuard(t *testing.T) {
	for _, x := range right {
		want, f := parsed(t, x.s), api.OK
		if !strings.HasSuffix(x.kinds, "b") {
			want, f = expr.Expr{}, api.ErrType
		}
		for _, s := range []string{x.s, "(" + x.s + ")", "\n" + x.s + " -- !"} {
			if e, at, g := Guard(s, "x", "z"); !expr.Same(e, want) || at != 0 || g != f {
				t.Errorf("Guard(%q): %v, %d, %d; not %v, %d", s, e, at, g, want, f)
			}
		}
	}
	for _, x := range wrong {
		for _, s := range []string{x.s, "(" + x.s + ")", "  " + x.s} {
			if e, at, f := Guard(s, "x", "z"); len(e.Nodes) != 0 || at != 0 || f != api.ErrType {
				t.Errorf("Guard(%q): %v, %d, %d", s, e, at, f)
			}
		}
	}
}

// noGuards are texts that are no expressions, each with the place and the error.
var noGuards = []struct {
	s  string
	at int
	f  api.Errno
}{
	{"x =", 3, api.ErrParse}, {"x = ", 4, api.ErrParse}, {"x <", 3, api.ErrParse}, {"a b", 2, api.ErrParse}, {"else", 0, api.ErrParse}, {" else ", 1, api.ErrParse}, {"x := 1", 2, api.ErrParse}, {")", 0, api.ErrParse}, {"()", 1, api.ErrParse}, {"true true", 5, api.ErrParse}, {"true;", 4, api.ErrParse}, {"(true", 5, api.ErrParse}, {"if true then true", 17, api.ErrParse}, {"y +", 3, api.ErrParse}, {"x + true )", 9, api.ErrParse}, {"not", 3, api.ErrParse}, {"-- a\n-", 6, api.ErrParse},
	{"x ! 1", 2, api.ErrLex}, {"!", 0, api.ErrLex}, {"  :", 2, api.ErrLex}, {"y b !", 4, api.ErrLex}, {"true\x00", 4, api.ErrLex}, {"\xff", 0, api.ErrLex}, {"-- a\n ?", 6, api.ErrLex}, {"x < " + long(mostName+1), 4, api.ErrLex},
	{"x < 9223372036854775808", 4, api.ErrOverflow}, {"99999999999999999999", 0, api.ErrOverflow}, {"true + 9223372036854775808", 7, api.ErrOverflow},
	{strings.Repeat("not ", mostDepth) + "true", 0, api.ErrLimit}, {strings.Repeat("- ", mostDepth) + "true", 0, api.ErrLimit}, {strings.Repeat("not ", mostDepth) + "y", 0, api.ErrLimit},
	{strings.Repeat(" ", mostBytes+1), 0, api.ErrLimit}, {"--" + strings.Repeat(" ", mostBytes), 0, api.ErrLimit}, {"true" + strings.Repeat(" ", mostBytes-3), 0, api.ErrLimit}, {strings.Repeat("!", mostBytes+1), 0, api.ErrLimit},
}

func TestNoGuards(t *testing.T) {
	for _, x := range noGuards {
		for _, known := range [][]string{nil, {"x"}, {"x", "y", "a", "b"}} {
			if e, at, f := Guard(x.s, known...); len(e.Nodes) != 0 || at != x.at || f != x.f {
				t.Errorf("Guard(%.40q, %q): %v, %d, %d; not %d, %d", x.s, known, e, at, f, x.at, x.f)
			}
		}
	}
	if e, at, f := Guard("true" + strings.Repeat(" ", mostBytes-4)); len(e.Nodes) != 1 || at != 0 || f != api.OK {
		t.Errorf("Guard of %d bytes: %v, %d, %d", mostBytes, e, at, f)
	}
}

// All short rows of words are read as expr.Parse reads them.
func TestGuardOfShortOnes(t *testing.T) {
	words := []string{"1", "x", "y", "true", "-", "not", "+", "<", "=", "and", "(", ")", "if", "then", "else", "endif", "emit", ";", "!", "--"}
	try := func(s string) {
		e, at, f := expr.Parse(s)
		if l, _, g := lex.Tokens(s); g == api.OK && len(l) == 0 {
			e, at, f = expr.Expr{Nodes: []expr.Node{{Op: expr.True, A: -1, B: -1, C: -1}}}, 0, api.OK
		} else if f == api.OK {
			if kind, _, _ := Of(e, "x"); kind != Bool {
				e, at, f = expr.Expr{}, 0, api.ErrType
			}
		}
		if got, place, g := Guard(s, "x"); !expr.Same(got, e) || place != at || g != f {
			t.Fatalf("Guard(%q): %v, %d, %d; not %v, %d, %d", s, got, place, g, e, at, f)
		}
	}
	for _, a := range words {
		try(a)
		for _, b := range words {
			try(a + " " + b)
			for _, c := range words {
				try(a + " " + b + " " + c)
				try(a + b + c)
			}
		}
	}
}

// P9.5

func TestWhatIsHandedInIsOnlyRead(t *testing.T) {
	var all []expr.Expr
	for _, x := range right {
		all = append(all, parsed(t, x.s))
	}
	for _, x := range wrong {
		all = append(all, parsed(t, x.s))
	}
	for _, e := range all {
		row := append(slices.Clone(e.Nodes), expr.Node{Op: 99, Name: "more"}, expr.Node{})
		kept := slices.Clone(row)
		known := []string{"x", "z", "x", "more", "y"}
		for n := range row {
			x := expr.Expr{Nodes: row[:n]}
			Kinds(x, known[:3]...)
			Of(x, known[:3]...)
			Names(x)
		}
		Guard("x < 1", known[:3]...)
		Guard("", known[:3]...)
		if !slices.Equal(row, kept) || !slices.Equal(known, []string{"x", "z", "x", "more", "y"}) {
			t.Errorf("%v was handed in, and is %v now; names %q", kept, row, known)
		}
	}
}

// within tells whether part lies in the memory of whole.
func within(part, whole string) bool {
	if part == "" || whole == "" {
		return false
	}
	p, w := uintptr(unsafe.Pointer(unsafe.StringData(part))), uintptr(unsafe.Pointer(unsafe.StringData(whole)))
	return p < w+uintptr(len(whole)) && w < p+uintptr(len(part))
}

// newNames tells whether no two of some texts share memory.
func newNames(l []string) bool {
	for i, a := range l {
		for _, b := range l[:i] {
			if within(a, b) {
				return false
			}
		}
	}
	return true
}

func TestNamesAreNewMemory(t *testing.T) {
	for _, s := range []string{"name", "some + name * some", "if c then b else a endif", "xx + x"} {
		e := parsed(t, s)
		first, second := Names(e), Names(e)
		all := slices.Concat(first, second)
		for _, n := range e.Nodes {
			all = append(all, n.Name)
		}
		if !newNames(all) {
			t.Errorf("Names(%s): not new memory", s)
		}
		want := slices.Clone(second)
		first = append(first, "more")
		for i := range first {
			first[i] = "other"
		}
		if !slices.Equal(second, want) || !slices.Equal(Names(e), want) {
			t.Errorf("Names(%s): other answers, since one was written on: %q", s, second)
		}
	}
}

func TestKindsAreNewMemory(t *testing.T) {
	for _, x := range right {
		e := parsed(t, x.s)
		first, _, _ := Kinds(e, "x", "z")
		second, _, _ := Kinds(e, "x", "z")
		want := slices.Clone(second)
		first = append(first, 9)
		for i := range first {
			first[i] = 9
		}
		third, _, _ := Kinds(e, "x", "z")
		if !slices.Equal(second, want) || !slices.Equal(third, want) {
			t.Errorf("Kinds(%s): other answers, since one was written on: %v, %v", x.s, second, third)
		}
	}
}

func TestGuardsAreNewMemory(t *testing.T) {
	for _, s := range []string{"", "-- none", "name < other", "true", "name = name", "not (other > name)"} {
		given, known := strings.Clone(s), []string{strings.Clone("name"), strings.Clone("other")}
		first, _, _ := Guard(given, known...)
		second, _, _ := Guard(given, known...)
		all := append([]string{given}, known...)
		for _, n := range slices.Concat(first.Nodes, second.Nodes) {
			all = append(all, n.Name)
		}
		if !newNames(all) {
			t.Errorf("Guard(%q): not new memory", s)
		}
		want := slices.Clone(second.Nodes)
		for i := range first.Nodes {
			first.Nodes[i] = expr.Node{Op: 9}
		}
		third, _, f := Guard(given, known...)
		if !slices.Equal(second.Nodes, want) || !slices.Equal(third.Nodes, want) || f != api.OK {
			t.Errorf("Guard(%q): other answers, since one was written on: %v, %v", s, second, third)
		}
	}
}

// What was known in one call is not known in the next one.
func TestNothingIsKept(t *testing.T) {
	e := parsed(t, "x < y")
	for range 3 {
		if kind, at, f := Of(e, "x", "y"); kind != Bool || at != 0 || f != api.OK {
			t.Errorf("Of, both known: %d, %d, %d", kind, at, f)
		}
		if kind, at, f := Of(e, "x"); kind != 0 || at != 1 || f != api.ErrType {
			t.Errorf("Of, x known: %d, %d, %d", kind, at, f)
		}
		if kind, at, f := Of(e); kind != 0 || at != 0 || f != api.ErrType {
			t.Errorf("Of, none known: %d, %d, %d", kind, at, f)
		}
	}
}

// P9.6

func TestWithMoreNamesItIsTheSame(t *testing.T) {
	r := rand.New(rand.NewSource(96))
	for range 1000 {
		e := anyTree(r, 1+r.Intn(5)).row()
		if r.Intn(2) == 0 {
			e = anyOf(r, []string{"i", "b"}[r.Intn(2)], 1+r.Intn(6)).row()
		}
		l, _, f := Kinds(e, "x", "z")
		if f != api.OK {
			continue
		}
		for _, more := range [][]string{{"x", "z", "y"}, {"y", "z", "x"}, {"x", "z", "x", "z"}, {"", "true", "x", "1", "z", "a b"}} {
			if k, at, g := Kinds(e, more...); !slices.Equal(k, l) || at != 0 || g != api.OK {
				t.Errorf("Kinds(%v, %q): %v, %d, %d; not %v", e, more, k, at, g, l)
			}
		}
		names := Names(e)
		if k, at, g := Kinds(e, names...); !slices.Equal(k, l) || at != 0 || g != api.OK {
			t.Errorf("Kinds(%v), with its names %q alone: %v, %d, %d; not %v", e, names, k, at, g, l)
		}
		for i, s := range names {
			first := slices.IndexFunc(e.Nodes, func(n expr.Node) bool { return n.Op == expr.Name && n.Name == s })
			less := slices.Delete(slices.Clone(names), i, i+1)
			if kind, at, g := Of(e, less...); kind != 0 || at != first || g != api.ErrType {
				t.Errorf("Of(%v), without %s: %d, %d, %d", e, s, kind, at, g)
			}
		}
	}
}

func TestPartsHaveKinds(t *testing.T) {
	r := rand.New(rand.NewSource(69))
	for range 500 {
		x := anyOf(r, []string{"i", "b"}[r.Intn(2)], 1+r.Intn(6))
		l, _, f := Kinds(x.row(), "x", "z")
		if f != api.OK {
			t.Fatalf("Kinds(%s): %d", x.text(), f)
		}
		for i, y := range x.all() {
			if kind, at, g := Of(y.row(), "x", "z"); kind != l[i] || kind == 0 || at != 0 || g != api.OK {
				t.Errorf("Of(%s), a part of %s: %d, %d, %d; not %d", y.text(), x.text(), kind, at, g, l[i])
			}
		}
	}
}
