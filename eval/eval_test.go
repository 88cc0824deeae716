package eval

import (
	"math"
	"math/big"
	"math/rand"
	"slices"
	"strconv"
	"strings"
	"testing"

	"hopscotch/api"
	"hopscotch/expr"
	"hopscotch/types"
)

// The chapters' bounds, as their own numbers.
const (
	mostDepth = 64
	mostName  = 64
	least     = math.MinInt64
	greatest  = math.MaxInt64
)

// tree is an expression.
type tree struct {
	op    uint8
	num   int64
	name  string
	parts []*tree
}

func number(n int64) *tree                { return &tree{op: expr.Num, num: n} }
func named(s string) *tree                { return &tree{op: expr.Name, name: s} }
func node(op uint8, parts ...*tree) *tree { return &tree{op: op, parts: parts} }
func (x *tree) row() expr.Expr            { return expr.Expr{Nodes: x.nodes(nil)} }

// nodes puts a tree's nodes behind those that are there: each behind its parts.
func (x *tree) nodes(l []expr.Node) []expr.Node {
	places := [3]int{-1, -1, -1}
	for i, p := range x.parts {
		l = p.nodes(l)
		places[i] = len(l) - 1
	}
	return append(l, expr.Node{Op: x.op, Num: x.num, Name: x.name, A: places[0], B: places[1], C: places[2]})
}

// depth is 1 without parts, else 1 more than that of the deepest part.
func (x *tree) depth() int {
	deepest := 0
	for _, p := range x.parts {
		deepest = max(deepest, p.depth())
	}
	return 1 + deepest
}

// all are a tree, and all that is in it.
func (x *tree) all() []*tree {
	l := []*tree{x}
	for _, p := range x.parts {
		l = append(l, p.all()...)
	}
	return l
}

// line is a line of the chapter's table: the kinds that an op's parts must have (i an Int, b a Bool, a any, s that of the part ahead), and its writing in the tests.
type line struct {
	op   uint8
	must string
	word string
}

var lines = []line{
	{expr.Num, "", ""}, {expr.Name, "", ""}, {expr.True, "", "true"}, {expr.False, "", "false"}, {expr.Neg, "i", "-"}, {expr.Not, "b", "not"},
	{expr.Mul, "ii", "*"}, {expr.Div, "ii", "div"}, {expr.Mod, "ii", "mod"}, {expr.Add, "ii", "+"}, {expr.Sub, "ii", "-"},
	{expr.Less, "ii", "<"}, {expr.LessEq, "ii", "<="}, {expr.More, "ii", ">"}, {expr.MoreEq, "ii", ">="}, {expr.Eq, "as", "="}, {expr.Ne, "as", "<>"},
	{expr.And, "bb", "and"}, {expr.Or, "bb", "or"}, {expr.Xor, "bb", "xor"}, {expr.Implies, "bb", "implies"}, {expr.If, "baa", "if"},
}

// lineOf tells an op's line.
func lineOf(op uint8) line {
	return lines[slices.IndexFunc(lines, func(l line) bool { return l.op == op })]
}

// text writes a tree, with parentheses about every part.
func (x *tree) text() string {
	var parts []string
	for _, p := range x.parts {
		parts = append(parts, "("+p.text()+")")
	}
	word := lineOf(x.op).word
	switch {
	case x.op == expr.Num:
		return strconv.FormatInt(x.num, 10)
	case x.op == expr.Name:
		return x.name
	case x.op == expr.If:
		return "if" + parts[0] + "then" + parts[1] + "else" + parts[2] + "endif"
	case len(parts) == 2:
		return parts[0] + word + parts[1]
	}
	return word + strings.Join(parts, "")
}

// result is what a call tells.
type result struct {
	v Value
	e api.Errno
}

func anInt(n int64) result         { return result{v: Value{Kind: 1, Int: n}} }
func aBool(b bool) result          { return result{v: Value{Kind: 2, Bool: b}} }
func failed(e api.Errno) result    { return result{e: e} }
func (r result) is(kind byte) bool { return r.v.Kind == map[byte]uint8{'i': 1, 'b': 2}[kind] }

// worth tells what a tree is worth by the chapter's table: all parts are looked at, and it is told which of them count.
func (x *tree) worth(env []Bind) result {
	var parts []result
	for _, p := range x.parts {
		parts = append(parts, p.worth(env))
	}
	must := lineOf(x.op).must
	for i, p := range parts {
		if !x.counts(i, parts) {
			continue
		}
		if p.e != api.OK {
			return p
		}
		if kind := must[i]; kind == 's' && p.v.Kind != parts[0].v.Kind || strings.Contains("ib", string(kind)) && !p.is(kind) {
			return failed(api.ErrType)
		}
	}
	return x.told(parts, env)
}

// counts tells whether a part is looked at, those ahead of it being right.
func (x *tree) counts(i int, parts []result) bool {
	first := parts[0].v.Bool
	switch {
	case i == 0:
		return true
	case x.op == expr.And:
		return first
	case x.op == expr.Or:
		return !first
	case x.op == expr.Implies:
		return first
	case x.op == expr.If:
		return first == (i == 1)
	}
	return true
}

// told tells what a tree is worth, by its parts that count, which are right.
func (x *tree) told(parts []result, env []Bind) result {
	at := func(i int) Value {
		if i < len(parts) {
			return parts[i].v
		}
		return Value{}
	}
	a, b := at(0), at(1)
	switch x.op {
	case expr.Num:
		return anInt(x.num)
	case expr.Name:
		if i := slices.IndexFunc(env, func(b Bind) bool { return b.Name == x.name }); i >= 0 {
			return anInt(env[i].Value)
		}
		return failed(api.ErrType)
	case expr.True, expr.False:
		return aBool(x.op == expr.True)
	case expr.Not:
		return aBool(!a.Bool)
	case expr.Less, expr.LessEq, expr.More, expr.MoreEq:
		sign := big.NewInt(a.Int).Cmp(big.NewInt(b.Int))
		return aBool(slices.Contains(map[uint8][]int{expr.Less: {-1}, expr.LessEq: {-1, 0}, expr.More: {1}, expr.MoreEq: {0, 1}}[x.op], sign))
	case expr.Eq, expr.Ne:
		alike := a.Kind == 1 && big.NewInt(a.Int).Cmp(big.NewInt(b.Int)) == 0 || a.Kind == 2 && a.Bool == b.Bool
		return aBool(alike == (x.op == expr.Eq))
	case expr.And, expr.Or, expr.Xor, expr.Implies:
		of := map[uint8]string{expr.And: "0001", expr.Or: "0111", expr.Xor: "0110", expr.Implies: "1101"}[x.op]
		return aBool(of[2*bit(a.Bool)+bit(b.Bool)] == '1')
	case expr.If:
		return parts[2-bit(a.Bool)]
	}
	return reckon(x.op, a.Int, b.Int)
}

// bit is 1 for true.
func bit(b bool) int {
	if b {
		return 1
	}
	return 0
}

// reckon tells what an op makes of numbers, by numbers without bounds.
func reckon(op uint8, a, b int64) result {
	x, y, z := big.NewInt(a), big.NewInt(b), new(big.Int)
	switch op {
	case expr.Neg:
		z.Neg(x)
	case expr.Mul:
		z.Mul(x, y)
	case expr.Add:
		z.Add(x, y)
	case expr.Sub:
		z.Sub(x, y)
	case expr.Div, expr.Mod:
		if b == 0 {
			return failed(api.ErrDivide)
		}
		z.Quo(x, y)
		if op == expr.Mod {
			z.Rem(x, y)
		}
	}
	if !z.IsInt64() {
		return failed(api.ErrOverflow)
	}
	return anInt(z.Int64())
}

// ask holds all calls, of one expression, against what is to be told.
func ask(t *testing.T, called string, e expr.Expr, env []Bind, want result) {
	t.Helper()
	if v, f := Eval(e, env); v != want.v || f != want.e {
		t.Fatalf("Eval(%s; %v): %v, %d; not %v, %d", called, env, v, f, want.v, want.e)
	}
	n, b, nf, bf := want.v.Int, want.v.Bool, want.e, want.e
	switch {
	case want.e != api.OK:
	case want.v.Kind == 1:
		bf = api.ErrType
	default:
		nf = api.ErrType
	}
	if got, f := Number(e, env); got != n || f != nf {
		t.Fatalf("Number(%s; %v): %d, %d; not %d, %d", called, env, got, f, n, nf)
	}
	if got, f := Truth(e, env); got != b || f != bf {
		t.Fatalf("Truth(%s; %v): %t, %d; not %t, %d", called, env, got, f, b, bf)
	}
}

// check holds all calls, of a tree, against the chapter's words.
func check(t *testing.T, x *tree, env []Bind) {
	t.Helper()
	want := failed(api.ErrLimit)
	if x.depth() <= mostDepth {
		want = x.worth(env)
	}
	ask(t, x.text(), x.row(), env, want)
}

// parsed is what a text writes.
func parsed(t *testing.T, s string) expr.Expr {
	t.Helper()
	e, at, f := expr.Parse(s)
	if f != api.OK {
		t.Fatalf("%q is no expression: %d, %d", s, at, f)
	}
	return e
}

// usual is what names are worth in most tests.
func usual() []Bind {
	return []Bind{{"x", 5}, {"z", -3}, {"o", 0}, {"l", least}, {"g", greatest}}
}

// chain is a tree of that depth: one op in itself, the deep part being the one at place i, around the innermost part.
func chain(depth int, op uint8, i int, inner *tree, beside ...*tree) *tree {
	x := inner
	for range depth - 1 {
		x = node(op, slices.Insert(slices.Clone(beside), i, x)...)
	}
	return x
}

// P10.1

func TestNumbers(t *testing.T) {
	for s, want := range map[string]int64{
		"0": 0, "7": 7, "9223372036854775807": greatest, "x": 5, "z": -3, "l": least, "g": greatest,
		"7 div 2 - x": -2, "- x": -5, "- z": 3, "- - x": 5, "- o": 0, "- g": least + 1, "- g - 1": least, "- (l + 1)": greatest,
		"2 + 3": 5, "2 - 3": -1, "2 * 3": 6, "7 div 2": 3, "7 mod 2": 1, "-7 div 2": -3, "-7 mod 2": -1, "7 mod -2": 1, "7 div -2": -3, "-7 div -2": 3, "-7 mod -2": -1, "0 div 7": 0, "0 mod -7": 0,
		"l mod -1": 0, "l div 1": least, "l * 1": least, "l + g": -1, "g - g": 0, "g + 0": greatest, "o * l": 0, "l div l": 1, "l mod g": -1,
		"1 + 2 * 3": 7, "(1 + 2) * 3": 9, "10 - 3 - 2": 5, "10 - (3 - 2)": 9, "100 div 10 div 5": 2, "100 div (10 div 5)": 50, "- 2 * 3": -6, "x * x + z * z": 34,
		"if true then 1 else false endif": 1, "if false then true else 2 endif": 2, "if x > 4 then x else z endif": 5, "if x < 4 then x else z endif": -3, "if true then if false then 1 else 2 endif else 3 endif": 2, "1 + if o = 0 then 1 else 2 endif": 2,
		"if true then 1 else 1 div 0 endif": 1, "if false then 1 div 0 else 2 endif": 2, "if true then 1 else y endif": 1, "if false then g + 1 else 2 endif": 2, "if true then 1 else 1 + true endif": 1, "if if true then true else 1 endif then 1 else 2 endif": 1,
	} {
		ask(t, s, parsed(t, s), usual(), anInt(want))
	}
	if types.Int != 1 || types.Bool != 2 {
		t.Errorf("the kinds are %d and %d", types.Int, types.Bool)
	}
}

func TestTruths(t *testing.T) {
	for s, want := range map[string]bool{
		"true": true, "false": false, "not true": false, "not false": true, "not not true": true, "1 < 2 and x = 5": true,
		"1 < 2": true, "2 < 2": false, "3 < 2": false, "1 <= 2": true, "2 <= 2": true, "3 <= 2": false, "1 > 2": false, "2 > 2": false, "3 > 2": true, "1 >= 2": false, "2 >= 2": true, "3 >= 2": true,
		"z < o": true, "l < g": true, "g < l": false, "l <= l": true, "g >= g": true, "l > g": false, "g > l": true, "l >= g": false, "g <= l": false,
		"1 = 1": true, "1 = 2": false, "1 <> 1": false, "1 <> 2": true, "l = g": false, "l <> g": true, "- o = o": true, "true = true": true, "false = false": true, "true = false": false, "false = true": false, "true <> true": false, "false <> false": false, "true <> false": true, "false <> true": true, "false = (1 = 2)": true, "0 = 1 = false": true,
		"false and false": false, "false and true": false, "true and false": false, "true and true": true, "false or false": false, "false or true": true, "true or false": true, "true or true": true,
		"false xor false": false, "false xor true": true, "true xor false": true, "true xor true": false, "false implies false": true, "false implies true": true, "true implies false": false, "true implies true": true,
		"if true then false else true endif": false, "if false then false else true endif": true, "if true then true else 1 endif": true, "if false then 1 else false endif": false,
		"false and y": false, "false and 1": false, "false and 1 div 0 = 1": false, "false and not 1": false, "true or y": true, "true or 0": true, "true or 1 div 0 = 1": true, "true or g + 1 = 0": true, "false implies y": true, "false implies 1": true, "false implies 1 div 0 = 1": true, "false implies - true = 1": true,
		"true or 1 and 2": true, "false and 1 or true": true, "false and (y and y)": false, "if true then true else y endif": true,
	} {
		ask(t, s, parsed(t, s), usual(), aBool(want))
	}
}

// The first error that comes is told: a part's own one, then that it is of another kind, then the next part's.
func TestErrors(t *testing.T) {
	for s, want := range map[string]api.Errno{
		"y": api.ErrType, "X": api.ErrType, "xx": api.ErrType, "_x": api.ErrType, "- y": api.ErrType, "not y": api.ErrType, "y + 1": api.ErrType, "1 + y": api.ErrType,
		"1 + true": api.ErrType, "true + 1": api.ErrType, "1 - true": api.ErrType, "true - 1": api.ErrType, "1 * true": api.ErrType, "true * 1": api.ErrType, "1 div true": api.ErrType, "true div 1": api.ErrType, "1 mod true": api.ErrType, "true mod 1": api.ErrType, "true + true": api.ErrType, "0 * true": api.ErrType,
		"1 < true": api.ErrType, "true < 1": api.ErrType, "1 <= true": api.ErrType, "true <= false": api.ErrType, "false > true": api.ErrType, "1 > true": api.ErrType, "true >= 1": api.ErrType, "true >= true": api.ErrType, "1 = true": api.ErrType, "true = 1": api.ErrType, "0 = false": api.ErrType, "1 <> true": api.ErrType, "false <> 0": api.ErrType,
		"- true": api.ErrType, "not 1": api.ErrType, "not 0": api.ErrType, "1 and true": api.ErrType, "0 and true": api.ErrType, "true and 1": api.ErrType, "1 or true": api.ErrType, "false or 1": api.ErrType, "1 xor true": api.ErrType, "true xor 1": api.ErrType, "false xor 0": api.ErrType, "0 implies true": api.ErrType, "true implies 1": api.ErrType,
		"if 1 then 2 else 3 endif": api.ErrType, "if 0 then true else true endif": api.ErrType, "if true then y else 1 endif": api.ErrType, "if false then 1 else y endif": api.ErrType, "if y then 1 else 1 endif": api.ErrType,
		"g + 1": api.ErrOverflow, "1 + g": api.ErrOverflow, "l - 1": api.ErrOverflow, "0 - l": api.ErrOverflow, "- l": api.ErrOverflow, "g * 2": api.ErrOverflow, "l * -1": api.ErrOverflow, "l div -1": api.ErrOverflow, "g + 1 - 1": api.ErrOverflow, "9223372036854775807 + 1": api.ErrOverflow, "- (- g - 1)": api.ErrOverflow,
		"1 div 0": api.ErrDivide, "1 mod 0": api.ErrDivide, "0 div 0": api.ErrDivide, "0 mod o": api.ErrDivide, "l div 0": api.ErrDivide, "x div (x - 5)": api.ErrDivide,
		"true + 1 div 0": api.ErrType, "1 div 0 + true": api.ErrDivide, "true + (g + 1)": api.ErrType, "g + 1 + true": api.ErrOverflow, "1 div 0 + (g + 1)": api.ErrDivide, "g + 1 + 1 div 0": api.ErrOverflow, "y + 1 div 0": api.ErrType, "1 div 0 + y": api.ErrDivide, "(1 div 0) div 0": api.ErrDivide, "(g + 1) div 0": api.ErrOverflow, "true div 0": api.ErrType, "1 + 2 div (x - x) + true": api.ErrDivide,
		"true < 1 div 0": api.ErrType, "1 div 0 < true": api.ErrDivide, "g + 1 >= 1 mod 0": api.ErrOverflow, "1 = 1 div 0": api.ErrDivide, "true = 1 div 0": api.ErrDivide, "true <> g + 1": api.ErrOverflow, "1 div 0 = true": api.ErrDivide, "y = 1 div 0": api.ErrType, "1 mod 0 <> g * g": api.ErrDivide,
		"- (1 div 0)": api.ErrDivide, "not (1 div 0)": api.ErrDivide, "not (g + 1)": api.ErrOverflow, "1 and 1 div 0 = 1": api.ErrType, "1 div 0 and true": api.ErrDivide, "true and 1 div 0": api.ErrDivide, "1 or 1 div 0 = 1": api.ErrType, "0 or 1 div 0 = 1": api.ErrType, "false or 1 div 0": api.ErrDivide, "g + 1 or true": api.ErrOverflow, "0 implies 1 mod 0 = 0": api.ErrType, "true implies 1 mod 0": api.ErrDivide, "1 xor 1 div 0": api.ErrType, "false xor 1 div 0": api.ErrDivide, "true xor (g + 1 = 0)": api.ErrOverflow,
		"if 1 then 1 div 0 else 1 div 0 endif": api.ErrType, "if 1 div 0 then 1 else 1 endif": api.ErrDivide, "if g + 1 then y else y endif": api.ErrOverflow, "if true then 1 div 0 else g + 1 endif": api.ErrDivide, "if false then 1 div 0 else g + 1 endif": api.ErrOverflow, "if true then 1 + true else g + 1 endif": api.ErrType,
		"(if true then 1 else true endif) and true": api.ErrType, "1 + if false then 1 else true endif": api.ErrType, "if true then 1 else 2 endif = true": api.ErrType,
	} {
		ask(t, s, parsed(t, s), usual(), failed(want))
	}
}

// samples are parts of all kinds, and with all errors.
func samples() []*tree {
	return []*tree{
		number(0), number(1), number(2), number(7), number(greatest), named("x"), named("z"), named("l"), node(expr.Neg, number(1)), node(expr.Sub, named("x"), number(8)),
		node(expr.True), node(expr.False), node(expr.Less, number(1), number(2)), node(expr.Eq, node(expr.True), node(expr.False)),
		named("y"), node(expr.Neg, node(expr.True)), node(expr.Neg, named("l")), node(expr.Add, named("g"), number(1)), node(expr.Div, number(1), number(0)),
	}
}

// Each op is asked with all samples in the places of all parts.
func TestEachOp(t *testing.T) {
	for _, l := range lines {
		rows := [][]*tree{{}}
		for range len(l.must) {
			var more [][]*tree
			for _, row := range rows {
				for _, s := range samples() {
					more = append(more, append(slices.Clone(row), s))
				}
			}
			rows = more
		}
		for _, row := range rows {
			x := node(l.op, row...)
			if l.op == expr.Name {
				x.name = "x"
			}
			check(t, x, usual())
			check(t, x, nil)
		}
	}
}

// The ops of numbers are asked with all pairs of telling numbers.
func TestOpsOfNumbers(t *testing.T) {
	var all []int64
	for _, n := range []int64{0, 3, 10, 1 << 31, 1 << 32, 3037000499, least, greatest} {
		all = append(all, n-1, n, n+1, -n)
	}
	for _, l := range lines {
		for _, a := range all {
			for _, b := range all {
				env := []Bind{{"a", a}, {"b", b}}
				switch l.must {
				case "i":
					check(t, node(l.op, named("a")), env)
				case "ii", "as":
					check(t, node(l.op, named("a"), named("b")), env)
				}
			}
		}
	}
}

// anyLeaf is a node without parts.
func anyLeaf(r *rand.Rand) *tree {
	l := []*tree{number(0), number(1), number(int64(r.Intn(20))), number(greatest), named("x"), named("z"), named("o"), named("l"), named("g"), named("y"), node(expr.True), node(expr.True), node(expr.False), node(expr.False)}
	return l[r.Intn(len(l))]
}

// anyTree is a tree of at most that depth, whatever its kinds.
func anyTree(r *rand.Rand, depth int) *tree {
	l := lines[r.Intn(len(lines))]
	if depth == 1 || l.must == "" {
		return anyLeaf(r)
	}
	x := node(l.op)
	for range len(l.must) {
		x.parts = append(x.parts, anyTree(r, depth-1))
	}
	return x
}

// anyOf is a tree of at most that depth that has a kind (1 or 2), x, z, o, l and g being known.
func anyOf(r *rand.Rand, kind uint8, depth int) *tree {
	if depth == 1 || r.Intn(6) == 0 {
		if kind == 2 {
			return node([]uint8{expr.True, expr.False}[r.Intn(2)])
		}
		return []*tree{number(int64(r.Intn(6))), named("x"), named("z"), named("o"), named([]string{"l", "g"}[r.Intn(2)])}[r.Intn(5)]
	}
	var parts []uint8
	op := uint8(0)
	switch n := r.Intn(4); {
	case n == 0:
		op, parts = expr.If, []uint8{2, kind, kind}
	case kind == 1:
		op, parts = []uint8{expr.Mul, expr.Div, expr.Mod, expr.Add, expr.Sub, expr.Neg}[r.Intn(6)], []uint8{1, 1}
	case n == 1:
		op, parts = []uint8{expr.Less, expr.LessEq, expr.More, expr.MoreEq, expr.Eq, expr.Ne}[r.Intn(6)], []uint8{1, 1}
	default:
		op, parts = []uint8{expr.And, expr.Or, expr.Xor, expr.Implies, expr.Eq, expr.Ne, expr.Not}[r.Intn(7)], []uint8{2, 2}
	}
	x := node(op)
	for _, k := range parts[:len(lineOf(op).must)] {
		x.parts = append(x.parts, anyOf(r, k, depth-1))
	}
	return x
}

func TestManyOnes(t *testing.T) {
	r := rand.New(rand.NewSource(101))
	for range 20000 {
		check(t, anyTree(r, 1+r.Intn(6)), usual())
		x := anyOf(r, uint8(1+r.Intn(2)), 1+r.Intn(7))
		check(t, x, usual())
		all := x.all()
		*all[r.Intn(len(all))] = *anyTree(r, 1+r.Intn(2))
		check(t, x, usual())
	}
}

// Of one name the first one counts; it must be there just so.
func TestWhatNamesAreWorth(t *testing.T) {
	full := strings.Repeat("n", mostName)
	for _, x := range []struct {
		name string
		env  []Bind
		is   result
	}{
		{"x", nil, failed(api.ErrType)}, {"x", []Bind{}, failed(api.ErrType)}, {"x", []Bind{{"x", 0}}, anInt(0)}, {"x", []Bind{{"x", least}}, anInt(least)}, {"x", []Bind{{"x", greatest}}, anInt(greatest)},
		{"x", []Bind{{"x", 5}, {"x", 6}}, anInt(5)}, {"x", []Bind{{"x", 0}, {"x", 6}}, anInt(0)}, {"x", []Bind{{"y", 1}, {"x", 6}, {"x", 5}, {"y", 2}, {"x", 7}}, anInt(6)}, {"y", []Bind{{"x", 1}, {"y", 2}, {"x", 3}}, anInt(2)}, {"y", []Bind{{"x", 1}, {"x", 2}}, failed(api.ErrType)},
		{"x", []Bind{{"X", 1}, {"xx", 2}, {"", 3}, {" x", 4}, {"x ", 5}, {"x\n", 6}, {"_x", 7}, {"\xff", 8}, {"if", 9}, {"x y", 10}}, failed(api.ErrType)}, {"x", []Bind{{"", 3}, {"if", 4}, {"\xff", 5}, {"+", 6}, {"x", 7}}, anInt(7)}, {"X", []Bind{{"x", 1}, {"X", 2}}, anInt(2)},
		{full, []Bind{{full[1:], 1}, {full + "n", 2}, {full, 3}}, anInt(3)}, {full, []Bind{{full[1:], 1}, {full + "n", 2}}, failed(api.ErrType)}, {"arg", nil, failed(api.ErrType)}, {"arg", []Bind{{"arg", 4}}, anInt(4)}, {"_", []Bind{{"__", 1}, {"_", 2}}, anInt(2)},
	} {
		ask(t, x.name, named(x.name).row(), x.env, x.is)
		for _, y := range []*tree{node(expr.Neg, named(x.name)), node(expr.Add, named(x.name), named(x.name)), node(expr.LessEq, number(3), named(x.name)), node(expr.And, node(expr.False), named(x.name)), node(expr.If, node(expr.True), named(x.name), named("w"))} {
			check(t, y, x.env)
		}
	}
}

// What expr.Check tells goes ahead of what an expression is worth.
func TestRowsThatAreNotRight(t *testing.T) {
	x, y, b := expr.Node{Op: expr.Name, Name: "x", A: -1, B: -1, C: -1}, expr.Node{Op: expr.Name, Name: "y", A: -1, B: -1, C: -1}, expr.Node{Op: expr.True, A: -1, B: -1, C: -1}
	for _, l := range [][]expr.Node{
		nil, {}, {{}}, {x, x}, {y, y}, {b, b}, {x, y, {Op: expr.Add, A: 0, B: 0, C: -1}}, {x, b, {Op: expr.Add, A: 1, B: 0, C: -1}}, {x, {Op: expr.Neg, A: 0}}, {x, {Op: expr.Neg, A: 1, B: -1, C: -1}}, {{Op: expr.Neg, A: 0, B: -1, C: -1}}, {{Op: expr.Neg, A: -1, B: -1, C: -1}}, {x, {Op: expr.Neg, A: 9, B: -1, C: -1}}, {x, {Op: expr.Neg, A: -9, B: -1, C: -1}}, {x, {Op: expr.Neg, A: least, B: -1, C: -1}}, {x, {Op: expr.Neg, A: greatest, B: -1, C: -1}},
		{b, x, x, {Op: expr.If, A: 0, B: 1, C: -1}}, {b, x, x, {Op: expr.If, A: 0, B: 1, C: 1}}, {b, x, x, {Op: expr.If, A: 0, B: 2, C: 1}}, {b, x, x, {Op: expr.If, A: 0, B: 1, C: 3}}, {b, {Op: expr.Not, A: 0, B: 0, C: -1}}, {b, {Op: expr.And, A: 0, B: 0, C: -1}},
		{{Op: 23, A: -1, B: -1, C: -1}}, {{Op: 0, A: -1, B: -1, C: -1}}, {{Op: 255, A: -1, B: -1, C: -1}}, {x, {Op: 23, A: 0, B: -1, C: -1}}, {x, x, {Op: 200, A: 0, B: 1, C: -1}},
		{{Op: expr.Num, Num: -1, A: -1, B: -1, C: -1}}, {{Op: expr.Num, Num: 1}}, {{Op: expr.Num, Name: "x", A: -1, B: -1, C: -1}}, {{Op: expr.True, Num: 1, A: -1, B: -1, C: -1}}, {{Op: expr.True, Name: "x", A: -1, B: -1, C: -1}}, {{Op: expr.Name, A: -1, B: -1, C: -1}}, {{Op: expr.Name, Name: "if", A: -1, B: -1, C: -1}}, {{Op: expr.Name, Name: " x", A: -1, B: -1, C: -1}}, {{Op: expr.Name, Name: "\xff", A: -1, B: -1, C: -1}}, {{Op: expr.Name, Name: strings.Repeat("n", mostName+1), A: -1, B: -1, C: -1}}, {{Op: expr.Name, Name: "x", Num: 1, A: -1, B: -1, C: -1}},
		{x, b, {Op: expr.Add, A: 0, B: 1, C: -1}, x}, {b, {Op: expr.Neg, A: 0, B: -1, C: -1}, b}, {b, {Op: expr.Neg, A: 0, B: -1, C: -1}, {Op: expr.Neg, A: 0, B: -1, C: -1}}, {b, y, {Op: expr.Or, A: 0, B: 2, C: -1}},
	} {
		for _, env := range [][]Bind{nil, usual(), {{"", 1}, {"if", 2}, {" x", 3}, {"\xff", 4}, {strings.Repeat("n", mostName+1), 5}}} {
			ask(t, "a wrong row", expr.Expr{Nodes: l}, env, failed(api.ErrArg))
		}
	}
	for _, x := range []*tree{named("y"), node(expr.Div, number(1), number(0)), node(expr.True), chain(100, expr.Not, 0, node(expr.True))} {
		e := x.row()
		e.Nodes = append(e.Nodes, b)
		ask(t, "one node too many", e, nil, failed(api.ErrArg))
	}
}

// deepOnes are trees of that depth, of all kinds and with all errors.
func deepOnes(depth int) []*tree {
	one, x, y, yes, no := number(1), named("x"), named("y"), node(expr.True), node(expr.False)
	return []*tree{
		chain(depth, expr.Neg, 0, x), chain(depth, expr.Neg, 0, y), chain(depth, expr.Neg, 0, named("l")), chain(depth, expr.Not, 0, yes), chain(depth, expr.Not, 0, one),
		chain(depth, expr.Add, 0, x, one), chain(depth, expr.Sub, 1, x, one), chain(depth, expr.Mul, 0, number(2), number(2)), chain(depth, expr.Mul, 0, number(0), number(2)), chain(depth, expr.Mod, 1, one, x), chain(depth, expr.Div, 1, number(0), x),
		chain(depth, expr.Eq, 0, yes, yes), chain(depth, expr.Ne, 1, yes, yes), chain(depth, expr.Eq, 0, one, one), chain(depth, expr.And, 0, yes, yes), chain(depth, expr.And, 1, y, no), chain(depth, expr.Or, 1, y, yes), chain(depth, expr.Implies, 1, y, yes), chain(depth, expr.Implies, 1, y, no), chain(depth, expr.Xor, 0, yes, yes),
		chain(depth, expr.If, 0, yes, yes, no), chain(depth, expr.If, 1, x, yes, one), chain(depth, expr.If, 2, y, yes, one), chain(depth, expr.If, 2, x, no, yes),
	}
}

func TestDeepOnes(t *testing.T) {
	for _, depth := range []int{2, mostDepth - 1, mostDepth, mostDepth + 1, mostDepth + 2, 1000} {
		for _, x := range deepOnes(depth) {
			check(t, x, usual())
			check(t, x, nil)
			if _, f := Eval(x.row(), usual()); (f == api.ErrLimit) != (depth > mostDepth) {
				t.Errorf("Eval of depth %d: %d", depth, f)
			}
		}
	}
	l := []expr.Node{{Op: expr.Name, Name: "x", A: -1, B: -1, C: -1}}
	for i := range 1000000 {
		l = append(l, expr.Node{Op: expr.Neg, A: i, B: -1, C: -1})
	}
	ask(t, "a very deep one", expr.Expr{Nodes: l}, usual(), failed(api.ErrLimit))
}

// The rows may have many nodes, and there may be many names.
func TestMany(t *testing.T) {
	const many = 1 << 16
	var build func(from, to int) *tree
	build = func(from, to int) *tree {
		if to-from == 1 {
			return named("n" + strconv.Itoa(from))
		}
		middle := (from + to) / 2
		return node(expr.Add, build(from, middle), build(middle, to))
	}
	e := build(0, many).row()
	var env []Bind
	for i := range many {
		env = append(env, Bind{"n" + strconv.Itoa(i), int64(i)})
	}
	slices.Reverse(env)
	if n, f := Number(e, env); n != many*(many-1)/2 || f != api.OK {
		t.Errorf("Number of %d nodes: %d, %d", len(e.Nodes), n, f)
	}
	if n, f := Number(e, env[1:]); n != 0 || f != api.ErrType {
		t.Errorf("Number of %d nodes, without the last name: %d, %d", len(e.Nodes), n, f)
	}
}

// P10.2

func TestWhatIsHandedInIsOnlyRead(t *testing.T) {
	r := rand.New(rand.NewSource(102))
	for range 500 {
		x := anyTree(r, 1+r.Intn(5))
		row := append(x.row().Nodes, expr.Node{Op: 99, Name: "more"}, expr.Node{})
		env := append(usual(), Bind{"x", 7}, Bind{"y", 8}, Bind{})
		kept, known := slices.Clone(row), slices.Clone(env)
		for n := range row {
			for m := range env {
				e := expr.Expr{Nodes: row[:n]}
				Eval(e, env[:m])
				Number(e, env[:m])
				Truth(e, env[:m])
			}
		}
		if !slices.Equal(row, kept) || !slices.Equal(env, known) {
			t.Fatalf("%v and %v were handed in, and are %v and %v now", kept, known, row, env)
		}
	}
}

// What was known, or failed, in one call counts for nothing in the next one.
func TestNothingIsKept(t *testing.T) {
	e := parsed(t, "10 div (x - y)")
	for range 3 {
		ask(t, "first", e, []Bind{{"x", 7}, {"y", 2}}, anInt(2))
		ask(t, "second", e, []Bind{{"x", 7}, {"y", 7}}, failed(api.ErrDivide))
		ask(t, "third", e, []Bind{{"x", 7}}, failed(api.ErrType))
		ask(t, "fourth", e, []Bind{{"x", least}, {"y", 1}}, failed(api.ErrOverflow))
		ask(t, "fifth", expr.Expr{Nodes: e.Nodes[1:]}, []Bind{{"x", 7}}, failed(api.ErrArg))
	}
	env := []Bind{{"x", 7}, {"y", 2}}
	ask(t, "ahead of writing", e, env, anInt(2))
	env[1].Value, e.Nodes[0].Num = 6, 20
	ask(t, "behind writing", e, env, anInt(20))
}

// P10.3

// names are the names of what is known in most tests.
func names() []string {
	var l []string
	for _, b := range usual() {
		l = append(l, b.Name)
	}
	return l
}

func TestWhatHasAKindIsWorthOne(t *testing.T) {
	r := rand.New(rand.NewSource(103))
	counts := map[api.Errno]int{}
	for range 20000 {
		kind := uint8(1 + r.Intn(2))
		x := anyOf(r, kind, 1+r.Intn(7))
		if r.Intn(3) == 0 {
			x = anyTree(r, 1+r.Intn(4))
			kind, _, _ = types.Of(x.row(), names()...)
		}
		if kind == 0 {
			continue
		}
		if k, at, f := types.Of(x.row(), names()...); k != kind || f != api.OK {
			t.Fatalf("Of(%s): %d, %d, %d; not %d", x.text(), k, at, f, kind)
		}
		v, f := Eval(x.row(), usual())
		counts[f]++
		if f == api.OK && v.Kind != kind || f != api.OK && f != api.ErrOverflow && f != api.ErrDivide {
			t.Fatalf("Eval(%s), of kind %d: %v, %d", x.text(), kind, v, f)
		}
	}
	if counts[api.OK] < 1000 || counts[api.ErrOverflow] < 1000 || counts[api.ErrDivide] < 1000 {
		t.Errorf("too few of a sort: %v", counts)
	}
}

func TestNamesThatAreNotThereChangeNothing(t *testing.T) {
	r := rand.New(rand.NewSource(104))
	for range 3000 {
		x := anyTree(r, 1+r.Intn(5))
		e := x.row()
		v, f := Eval(e, usual())
		has := types.Names(e)
		var alone, more []Bind
		for _, b := range usual() {
			more = append(more, Bind{"w", 3}, b, Bind{"", 4}, Bind{b.Name, b.Value + 1})
			if slices.Contains(has, b.Name) {
				alone = append(alone, b)
			}
		}
		ask(t, x.text(), e, alone, result{v, f})
		ask(t, x.text(), e, more, result{v, f})
	}
}

// A part that is not looked at may be anything that is right.
func TestPartsThatAreNotLookedAt(t *testing.T) {
	r := rand.New(rand.NewSource(105))
	yes, no := node(expr.True), node(expr.False)
	for range 3000 {
		other, told := anyTree(r, 1+r.Intn(5)), anyTree(r, 1+r.Intn(5))
		want := told.worth(usual())
		for _, x := range []struct {
			x    *tree
			want result
		}{
			{node(expr.And, no, other), aBool(false)}, {node(expr.Or, yes, other), aBool(true)}, {node(expr.Implies, no, other), aBool(true)}, {node(expr.If, yes, told, other), want}, {node(expr.If, no, other, told), want},
		} {
			ask(t, x.x.text(), x.x.row(), usual(), x.want)
		}
	}
}
