package run

import (
	"fmt"
	"math"
	"math/rand"
	"slices"
	"strconv"
	"strings"
	"testing"
	"unsafe"

	"hopscotch/act"
	"hopscotch/api"
	"hopscotch/eval"
	"hopscotch/expr"
)

// The chapters' bounds, as their own numbers.
const (
	mostBytes = 65536
	mostParts = 512
	mostDepth = 64
	mostName  = 64
	least     = math.MinInt64
	greatest  = math.MaxInt64
)

// bind is a variable.
func bind(name string, value int64) eval.Bind { return eval.Bind{Name: name, Value: value} }

// usual are the variables of most tests: n is there twice.
func usual() []eval.Bind {
	return []eval.Bind{bind("n", 2), bind("m", -1), bind("n", 9), bind("l", least), bind("g", greatest)}
}

// body is the body that a text writes.
func body(s string) act.Body {
	b, at, e := act.Parse(s)
	if e != api.OK {
		panic(fmt.Sprintf("%q is no body: %d, %d", s, at, e))
	}
	return b
}

// copiedBody is a body in memory of its own.
func copiedBody(b act.Body) act.Body {
	l := slices.Clone(b.Stmts)
	for i := range l {
		l[i].Expr.Nodes = slices.Clone(l[i].Expr.Nodes)
	}
	return act.Body{Stmts: l}
}

// long is a name of that many bytes.
func long(n int) string { return strings.Repeat("n", n) }

// number and chain put expressions together by hand: a number, and an op in itself, of that depth.
func number(n int64) expr.Expr {
	return expr.Expr{Nodes: []expr.Node{{Op: expr.Num, Num: n, A: -1, B: -1, C: -1}}}
}

func chain(depth int, op uint8, inner expr.Node) expr.Expr {
	l := []expr.Node{inner}
	for i := range depth - 1 {
		l = append(l, expr.Node{Op: op, A: i, B: -1, C: -1})
	}
	return expr.Expr{Nodes: l}
}

// told is what a call tells.
type told struct {
	Result
	e api.Errno
}

// String shows what a call tells: v=1 e(2) 3 says what variables are worth, what was emitted, and how many statements were done.
func (x told) String() string {
	var l []string
	for _, v := range x.Vars {
		l = append(l, fmt.Sprintf("%s=%d", v.Name, v.Value))
	}
	for _, m := range x.Emits {
		l = append(l, fmt.Sprintf("%s(%d)", m.Name, m.Arg))
	}
	return strings.Join(append(l, strconv.Itoa(x.Done)), " ") + ", error " + strconv.Itoa(int(x.e))
}

// is holds what is told against what is to be told.
func (x told) is(y told) bool {
	return slices.Equal(x.Vars, y.Vars) && slices.Equal(x.Emits, y.Emits) && x.Done == y.Done && x.e == y.e
}

// ran and ranText are what the calls tell.
func ran(b act.Body, vars []eval.Bind, arg int64) told {
	r, e := Run(b, vars, arg)
	return told{r, e}
}

func ranText(s string, vars []eval.Bind, arg int64) told {
	r, e := Text(s, vars, arg)
	return told{r, e}
}

// shouldRun tells by the chapter's words what Run must tell of a body that is right.
func shouldRun(b act.Body, vars []eval.Bind, arg int64) told {
	x := told{Result: Result{Vars: slices.Clone(vars)}}
	for _, s := range b.Stmts {
		place := slices.IndexFunc(x.Vars, func(v eval.Bind) bool { return v.Name == s.Name })
		if s.Kind == 1 && place < 0 {
			x.e = api.ErrType
			return x
		}
		var n int64
		if len(s.Expr.Nodes) > 0 {
			n, x.e = eval.Number(s.Expr, slices.Concat(x.Vars, []eval.Bind{bind("arg", arg)}))
		}
		if x.e != api.OK {
			return x
		}
		if s.Kind == 1 {
			x.Vars[place].Value = n
		} else {
			x.Emits = append(x.Emits, Emit{s.Name, n})
		}
		x.Done++
	}
	return x
}

// expect holds both calls, of a text that is a body, against what is to be told.
func expect(t *testing.T, s string, vars []eval.Bind, arg int64, want told) {
	t.Helper()
	if got := ranText(s, vars, arg); !got.is(want) {
		t.Fatalf("Text(%.300q, %v, %d): %v; not %v", s, vars, arg, got, want)
	}
	if got := ran(body(s), vars, arg); !got.is(want) {
		t.Fatalf("Run(%.300q, %v, %d): %v; not %v", s, vars, arg, got, want)
	}
}

// check holds both calls, of a text that is a body, against the chapter's words.
func check(t *testing.T, s string, vars []eval.Bind, arg int64) {
	t.Helper()
	expect(t, s, vars, arg, shouldRun(body(s), vars, arg))
}

// expectNothing holds Run against that it tells nothing but ErrArg.
func expectNothing(t *testing.T, b act.Body) {
	t.Helper()
	for _, vars := range [][]eval.Bind{nil, usual(), {bind("x", 1), bind("arg", 2)}} {
		if got := ran(b, vars, 3); !got.is(told{e: api.ErrArg}) {
			t.Fatalf("Run(%v, %v): %v", b, vars, got)
		}
	}
}

// pick is one of several.
func pick[T any](r *rand.Rand, l ...T) T { return l[r.Intn(len(l))] }

// anyInt and anyBool write expressions of their kinds, with names out of some.
func anyInt(r *rand.Rand, depth int, names ...string) string {
	if depth == 1 || r.Intn(4) == 0 {
		return pick(r, strconv.Itoa(r.Intn(4)), strconv.FormatInt(r.Int63(), 10), pick(r, names...), pick(r, names...), pick(r, names...))
	}
	a, b := anyInt(r, depth-1, names...), anyInt(r, depth-1, names...)
	if r.Intn(5) == 0 {
		return "if " + anyBool(r, depth-1, names...) + " then " + a + " else " + b + " endif"
	}
	if r.Intn(6) == 0 {
		return "- (" + a + ")"
	}
	return "(" + a + ")" + pick(r, " + ", " - ", " + ", " - ", " * ", " div ", " mod ") + "(" + b + ")"
}

func anyBool(r *rand.Rand, depth int, names ...string) string {
	if depth == 1 {
		return pick(r, "true", "false")
	}
	if r.Intn(2) == 0 {
		return "(" + anyInt(r, depth-1, names...) + ")" + pick(r, " < ", " <= ", " > ", " >= ", " = ", " <> ") + "(" + anyInt(r, depth-1, names...) + ")"
	}
	a, b := anyBool(r, depth-1, names...), anyBool(r, depth-1, names...)
	return pick(r, "not ("+a+")", "("+a+")"+pick(r, " and ", " or ", " xor ", " implies ", " = ")+"("+b+")")
}

// anyStmt writes a statement, with names out of some.
func anyStmt(r *rand.Rand, names ...string) string {
	x := anyInt(r, 1+r.Intn(4), names...)
	switch r.Intn(12) {
	case 0:
		x = anyBool(r, 1+r.Intn(3), names...)
	case 1, 2:
		return "emit " + pick(r, names...) + "();"
	}
	if r.Intn(3) == 0 {
		return "emit " + pick(r, names...) + "(" + x + ");"
	}
	return pick(r, names...) + " := " + x + ";"
}

// anyText writes a body of at most that many statements, with blanks and remarks between.
func anyText(r *rand.Rand, most int, names ...string) string {
	s := pick(r, "", " ", "-- n := 1;\n")
	for range r.Intn(most + 1) {
		s += anyStmt(r, names...) + pick(r, "", " ", "\n", "\r\n\t", " -- emit go(;\n")
	}
	return s + pick(r, "", "\n", " \t")
}

// anyVars are variables, with names out of some, and numbers of all lengths.
func anyVars(r *rand.Rand, most int, names ...string) []eval.Bind {
	var l []eval.Bind
	for range r.Intn(most + 1) {
		l = append(l, bind(pick(r, names...), pick(r, int64(r.Intn(7)-3), r.Int63(), -r.Int63(), least, greatest, 0, 1)))
	}
	return l
}

// P12.1

func TestExamples(t *testing.T) {
	n, m := bind("n", 2), bind("m", 1)
	expect(t, "n := n + arg; emit go(n); emit go();", []eval.Bind{n}, 3, told{Result: Result{[]eval.Bind{bind("n", 5)}, []Emit{{"go", 5}, {"go", 0}}, 3}})
	expect(t, "emit go(1); n := n div 0; n := 7;", []eval.Bind{n}, 3, told{Result{[]eval.Bind{n}, []Emit{{"go", 1}}, 1}, api.ErrDivide})
	expect(t, "m := 1 div 0;", []eval.Bind{n}, 3, told{Result{[]eval.Bind{n}, nil, 0}, api.ErrType})
	expect(t, "m := 1 div 0;", []eval.Bind{n, m}, 3, told{Result{[]eval.Bind{n, m}, nil, 0}, api.ErrDivide})
}

// shown are bodies, with what is told of them, with the usual variables and 3 as arg; the variables l and g, which none assigns, are left out.
var shown = []struct{ s, want string }{
	{"", "n=2 m=-1 n=9 0, error 0"}, {" \t\r\n-- n := 7;", "n=2 m=-1 n=9 0, error 0"},
	{"n := 7;", "n=7 m=-1 n=9 1, error 0"}, {"m := 7;", "n=2 m=7 n=9 1, error 0"}, {"n := n;", "n=2 m=-1 n=9 1, error 0"}, {"n := m; m := n;", "n=-1 m=-1 n=9 2, error 0"}, {"n := 1; n := 2; n := 3;", "n=3 m=-1 n=9 3, error 0"}, {"n := n + 1; n := n + 1; n := n * n;", "n=16 m=-1 n=9 3, error 0"}, {"m := n; n := m * m; emit up(n - m);", "n=4 m=2 n=9 up(2) 3, error 0"},
	{"emit go();", "n=2 m=-1 n=9 go(0) 1, error 0"}, {"emit go(0);", "n=2 m=-1 n=9 go(0) 1, error 0"}, {"emit go(n);", "n=2 m=-1 n=9 go(2) 1, error 0"}, {"emit go(- n);", "n=2 m=-1 n=9 go(-2) 1, error 0"}, {"emit n(m);", "n=2 m=-1 n=9 n(-1) 1, error 0"}, {"emit arg();", "n=2 m=-1 n=9 arg(0) 1, error 0"}, {"emit none(if n = 2 then 3 else 4 endif);", "n=2 m=-1 n=9 none(3) 1, error 0"},
	{"emit b(1); emit a(2); emit b(1); emit a();", "n=2 m=-1 n=9 b(1) a(2) b(1) a(0) 4, error 0"}, {"emit go(n); n := 7; emit go(n); n := 8; emit go(n);", "n=8 m=-1 n=9 go(2) go(7) go(8) 5, error 0"},
	{"n := arg;", "n=3 m=-1 n=9 1, error 0"}, {"emit go(arg * arg);", "n=2 m=-1 n=9 go(9) 1, error 0"}, {"n := arg; n := arg + n; emit arg(arg);", "n=6 m=-1 n=9 arg(3) 3, error 0"},
	{"n := g; n := n + 1; n := 7;", "n=9223372036854775807 m=-1 n=9 1, error 60"}, {"n := l;", "n=-9223372036854775808 m=-1 n=9 1, error 0"}, {"emit go(l); emit go(- l); emit go();", "n=2 m=-1 n=9 go(-9223372036854775808) 1, error 60"}, {"n := 7 div (n - 2);", "n=2 m=-1 n=9 0, error 61"}, {"n := 5; emit go(7 mod 0);", "n=5 m=-1 n=9 1, error 61"}, {"emit go(g * g);", "n=2 m=-1 n=9 0, error 60"},
	{"n := true;", "n=2 m=-1 n=9 0, error 90"}, {"n := n < 1;", "n=2 m=-1 n=9 0, error 90"}, {"n := 1 + true;", "n=2 m=-1 n=9 0, error 90"}, {"emit go(false);", "n=2 m=-1 n=9 0, error 90"}, {"emit go(n = m);", "n=2 m=-1 n=9 0, error 90"}, {"n := if n then 1 else 2 endif;", "n=2 m=-1 n=9 0, error 90"}, {"emit go(if true then true else 1 endif);", "n=2 m=-1 n=9 0, error 90"},
	{"w := 1;", "n=2 m=-1 n=9 0, error 90"}, {"n := w;", "n=2 m=-1 n=9 0, error 90"}, {"emit go(w);", "n=2 m=-1 n=9 0, error 90"}, {"N := 1;", "n=2 m=-1 n=9 0, error 90"}, {"go := 1;", "n=2 m=-1 n=9 0, error 90"}, {"emit go(go);", "n=2 m=-1 n=9 0, error 90"}, {"emit go(1); n := go;", "n=2 m=-1 n=9 go(1) 1, error 90"}, {"arg := 1;", "n=2 m=-1 n=9 0, error 90"}, {"n := 1; arg := n; n := 7;", "n=1 m=-1 n=9 1, error 90"}, {"emit go(Arg);", "n=2 m=-1 n=9 0, error 90"},
	{"n := if true then 1 else w endif;", "n=1 m=-1 n=9 1, error 0"}, {"n := if false then 1 div 0 else 5 endif;", "n=5 m=-1 n=9 1, error 0"}, {"n := if true or w = 1 then 5 else 6 endif;", "n=5 m=-1 n=9 1, error 0"}, {"n := if true then 1 else true endif;", "n=1 m=-1 n=9 1, error 0"},
}

func TestRun(t *testing.T) {
	for _, x := range shown {
		got := ranText(x.s, usual(), 3)
		if len(got.Vars) != 5 || got.Vars[3] != bind("l", least) || got.Vars[4] != bind("g", greatest) {
			t.Fatalf("Text(%q): %v", x.s, got)
		}
		short := told{Result{got.Vars[:3], got.Emits, got.Done}, got.e}
		if short.String() != x.want {
			t.Errorf("Text(%q): %v; not %s", x.s, short, x.want)
		}
		check(t, x.s, usual(), 3)
		// Behind a statement that changes nothing, one more is done.
		got = ranText("m := m;"+x.s, usual(), 3)
		got.Done--
		if !got.is(ranText(x.s, usual(), 3)) {
			t.Errorf("Text(m := m; %q): %v", x.s, got)
		}
	}
}

func TestRunOfNothing(t *testing.T) {
	for _, b := range []act.Body{{}, {Stmts: []act.Stmt{}}} {
		for _, vars := range [][]eval.Bind{nil, {}, usual(), {bind("", 1), bind("", 2)}} {
			if got := ran(b, vars, 7); !got.is(told{Result: Result{Vars: vars}}) {
				t.Fatalf("Run(%v, %v): %v", b, vars, got)
			}
		}
	}
}

// Without variables there is arg alone.
func TestRunWithoutVariables(t *testing.T) {
	for _, vars := range [][]eval.Bind{nil, {}} {
		expect(t, "emit go(arg); emit go(); emit go(arg - 1);", vars, 8, told{Result: Result{nil, []Emit{{"go", 8}, {"go", 0}, {"go", 7}}, 3}})
		expect(t, "emit go(arg); n := 1;", vars, 8, told{Result{nil, []Emit{{"go", 8}}, 1}, api.ErrType})
		expect(t, "arg := 1;", vars, 8, told{e: api.ErrType})
	}
}

func TestArg(t *testing.T) {
	for _, arg := range []int64{0, 1, -1, 3, least, least + 1, greatest, greatest - 1} {
		expect(t, "n := arg; emit go(n); emit go(arg);", []eval.Bind{bind("n", 5)}, arg, told{Result: Result{[]eval.Bind{bind("n", arg)}, []Emit{{"go", arg}, {"go", arg}}, 3}})
		for _, s := range []string{"n := arg + 1;", "n := arg - 1;", "n := - arg;", "emit go(arg * 2);", "n := arg mod 2; n := 1 div arg;", "n := if arg < 0 then - 1 else 1 endif; n := n * arg;"} {
			check(t, s, usual(), arg)
		}
	}
}

// A variable of that name stands ahead of arg, wherever it stands, and may be assigned.
func TestArgAsAVariable(t *testing.T) {
	n := bind("n", 0)
	for _, x := range []struct {
		s, want string
		vars    []eval.Bind
	}{
		{"n := arg;", "n=8 arg=8 1, error 0", []eval.Bind{n, bind("arg", 8)}}, {"n := arg;", "arg=8 n=8 1, error 0", []eval.Bind{bind("arg", 8), n}}, {"n := arg;", "arg=8 n=8 arg=9 1, error 0", []eval.Bind{bind("arg", 8), n, bind("arg", 9)}}, {"n := arg;", "arg=0 n=0 1, error 0", []eval.Bind{bind("arg", 0), bind("n", 5)}},
		{"arg := 7; n := arg;", "n=7 arg=7 2, error 0", []eval.Bind{n, bind("arg", 8)}}, {"arg := 7; n := arg;", "n=7 arg=7 arg=9 2, error 0", []eval.Bind{n, bind("arg", 8), bind("arg", 9)}}, {"arg := arg + 1; emit arg(arg);", "arg=9 arg(9) 2, error 0", []eval.Bind{bind("arg", 8)}},
		{"n := arg;", "n=3 Arg=8 1, error 0", []eval.Bind{n, bind("Arg", 8)}}, {"arg := 1;", "n=0 args=1 0, error 90", []eval.Bind{n, bind("args", 1)}},
	} {
		if got := ranText(x.s, x.vars, 3); got.String() != x.want {
			t.Errorf("Text(%q, %v): %v; not %s", x.s, x.vars, got, x.want)
		}
		check(t, x.s, x.vars, 3)
	}
}

// Of one name the first variable counts, is assigned, and is asked from then on.
func TestFirstOfAName(t *testing.T) {
	var vars []eval.Bind
	for i, name := range []string{"z", "x", "y", "x", "x", "y", "z", "x"} {
		vars = append(vars, bind(name, int64(i)+10))
	}
	for _, name := range []string{"x", "y", "z"} {
		place := slices.IndexFunc(vars, func(v eval.Bind) bool { return v.Name == name })
		want := slices.Clone(vars)
		want[place].Value = 5
		first := vars[place].Value
		expect(t, "emit go("+name+"); "+name+" := 5; emit go("+name+");", vars, 0, told{Result: Result{want, []Emit{{"go", first}, {"go", 5}}, 3}})
	}
	check(t, "x := y; y := x + 1; z := y * x; emit z(z); y := z - x;", vars, 0)
}

// The variables' names may be any texts, in any order.
func TestOddNamesOfVariables(t *testing.T) {
	odd := []eval.Bind{bind("", 1), bind(" ", 2), bind("emit", 3), bind("1", 4), bind("x y", 5), bind("\xff", 6), bind("true", 7), bind("x ", 8), bind(long(mostName+1), 9), bind("--", 10)}
	for _, s := range []string{"", "emit go(1);", "n := 1;", "x := 1;", "emit go(x);", "n := n + arg; emit go(n);", long(mostName) + " := 1;"} {
		check(t, s, odd, 3)
		check(t, s, slices.Concat(odd, usual()), 3)
		check(t, s, slices.Concat(usual(), odd, odd), 3)
	}
	full := long(mostName)
	expect(t, full+" := "+full+" + 1; emit "+full+"("+full+");", []eval.Bind{bind(full+"n", 1), bind(full[1:], 2), bind(full, 3)}, 0, told{Result: Result{[]eval.Bind{bind(full+"n", 1), bind(full[1:], 2), bind(full, 4)}, []Emit{{full, 4}}, 2}})
}

// That there is no such variable goes ahead of all that the expression has.
func TestOrderOfErrors(t *testing.T) {
	for _, x := range []struct {
		s string
		e api.Errno
	}{
		{"w := 1 div 0;", api.ErrType}, {"w := g + 1;", api.ErrType}, {"w := true;", api.ErrType}, {"w := w;", api.ErrType}, {"n := 1 div 0;", api.ErrDivide}, {"n := g + 1;", api.ErrOverflow}, {"n := - l;", api.ErrOverflow},
		{"n := 1 div 0 + w;", api.ErrDivide}, {"n := w + 1 div 0;", api.ErrType}, {"n := (g + 1) div 0;", api.ErrOverflow}, {"n := 1 div 0 + (g + 1);", api.ErrDivide}, {"n := 1 div 0 = 1;", api.ErrDivide}, {"emit go(1 div 0 = 1);", api.ErrDivide}, {"emit go(true + 1 div 0);", api.ErrType}, {"emit go(1 div 0 + true);", api.ErrDivide}, {"emit w(1 mod 0);", api.ErrDivide}, {"emit go(g - l);", api.ErrOverflow},
	} {
		expect(t, x.s, usual(), 3, told{Result{usual(), nil, 0}, x.e})
		for _, behind := range []string{"w := 1;", "n := 1 div 0;", "n := g + 1;", "n := 5;", "emit go(5);"} {
			expect(t, x.s+behind, usual(), 3, told{Result{usual(), nil, 0}, x.e})
		}
	}
}

// The first error ends it, wherever it comes: what was done ahead stays done, and nothing behind is.
func TestWhereItEnds(t *testing.T) {
	for _, fault := range []struct {
		s string
		e api.Errno
	}{{"n := 1 div 0;", api.ErrDivide}, {"n := g + n;", api.ErrOverflow}, {"w := 1;", api.ErrType}, {"n := true;", api.ErrType}, {"emit go(w);", api.ErrType}, {"emit go(1 mod 0);", api.ErrDivide}, {"emit go(g * 2);", api.ErrOverflow}, {"emit go(true);", api.ErrType}, {"arg := 1;", api.ErrType}} {
		for _, n := range []int{0, 1, 2, 3, 10, mostParts/2 - 1} {
			want := told{Result{usual(), nil, 2 * n}, fault.e}
			for i := range n {
				want.Vars[0].Value++
				want.Emits = append(want.Emits, Emit{"on", int64(i) + 3})
			}
			ahead := strings.Repeat("n := n + 1; emit on(n);", n)
			for _, behind := range []string{"", "n := 7;", "emit go();", fault.s, "w := w;", strings.Repeat("m := 5; ", mostParts-2*n-1)} {
				expect(t, ahead+fault.s+behind, usual(), 3, want)
			}
		}
	}
}

func TestRunOfManyStatements(t *testing.T) {
	for _, n := range []int{1, 2, mostParts - 1, mostParts} {
		vars := []eval.Bind{bind("n", int64(n))}
		expect(t, strings.Repeat("n:=n+1;", n), []eval.Bind{bind("n", 0)}, 0, told{Result: Result{Vars: vars, Done: n}})
		want := told{Result: Result{Vars: vars, Done: n}}
		for range n {
			want.Emits = append(want.Emits, Emit{"go", int64(n)})
		}
		expect(t, strings.Repeat("emit go(n);", n), vars, 0, want)
	}
}

// wrongStmts are statements that may not stand in a body.
func wrongStmts() []act.Stmt {
	l := []act.Stmt{{}, {Kind: act.Assign, Name: "n"}, {Kind: act.Assign, Name: "n", Expr: expr.Expr{Nodes: []expr.Node{}}}, {Kind: act.Emit}, {Kind: act.Assign, Expr: number(1)}}
	for k := range 256 {
		if kind := uint8(k); kind != 1 && kind != 2 {
			l = append(l, act.Stmt{Kind: kind, Name: "n", Expr: number(1)}, act.Stmt{Kind: kind, Name: "n"})
		}
	}
	for _, name := range []string{"", " ", "1", "n ", "a b", "emit", "true", "if", "--", "é", "\xff", long(mostName + 1)} {
		l = append(l, act.Stmt{Kind: act.Assign, Name: name, Expr: number(1)}, act.Stmt{Kind: act.Emit, Name: name, Expr: number(1)}, act.Stmt{Kind: act.Emit, Name: name})
	}
	n, one := expr.Node{Op: expr.Name, Name: "n", A: -1, B: -1, C: -1}, number(1).Nodes[0]
	wrong := []expr.Expr{{Nodes: []expr.Node{{}}}, {Nodes: []expr.Node{n, n}}, {Nodes: []expr.Node{{Op: 23, A: -1, B: -1, C: -1}}}, {Nodes: []expr.Node{{Op: expr.Num, Num: -1, A: -1, B: -1, C: -1}}}, {Nodes: []expr.Node{{Op: expr.Name, Name: "emit", A: -1, B: -1, C: -1}}}, {Nodes: []expr.Node{{Op: expr.Name, A: -1, B: -1, C: -1}}}, {Nodes: []expr.Node{n, {Op: expr.Neg, A: 9, B: -1, C: -1}}}, {Nodes: []expr.Node{{Op: expr.Neg, A: 0, B: -1, C: -1}}}, {Nodes: []expr.Node{n, {Op: expr.Neg, A: least, B: -1, C: -1}}}, {Nodes: []expr.Node{n, one, {Op: expr.Add, A: 1, B: 0, C: -1}}}, chain(mostDepth+1, expr.Neg, n), chain(mostDepth+1, expr.Not, one), chain(3*mostDepth, expr.Neg, one)}
	for _, x := range wrong {
		l = append(l, act.Stmt{Kind: act.Assign, Name: "n", Expr: x}, act.Stmt{Kind: act.Emit, Name: "n", Expr: x}, act.Stmt{Kind: act.Assign, Name: "w", Expr: x})
	}
	return l
}

// A body that is not right does nothing at all, not even what stands ahead of what is wrong.
func TestRunOfWhatIsNotRight(t *testing.T) {
	right := body("n := 7; emit go(n); n := 1 div 0; w := 1;").Stmts
	for _, s := range wrongStmts() {
		for _, l := range [][]act.Stmt{{s}, {s, right[0]}, {right[0], s}, {right[0], right[1], s, right[0]}, {right[2], s}, {right[3], s}, {s, s}} {
			expectNothing(t, act.Body{Stmts: l})
		}
	}
	for _, s := range right {
		expectNothing(t, act.Body{Stmts: slices.Repeat([]act.Stmt{s}, mostParts+1)})
		expectNothing(t, act.Body{Stmts: slices.Repeat([]act.Stmt{s}, 10*mostParts)})
		expectNothing(t, act.Body{Stmts: append(slices.Repeat([]act.Stmt{s}, mostParts), act.Stmt{})})
	}
}

// Hand-made bodies: nothing but the promised errors comes of them, and no panic.
func TestRunOfAnything(t *testing.T) {
	r := rand.New(rand.NewSource(121))
	for range 20000 {
		var b act.Body
		for range 1 + r.Intn(2) {
			s := act.Stmt{Kind: pick[uint8](r, 1, 2, 2, 0, 3), Name: pick(r, "n", "m", "arg", "go", "", "if")}
			for i := range r.Intn(4) {
				s.Expr.Nodes = append(s.Expr.Nodes, expr.Node{Op: uint8(r.Intn(24)), Num: pick[int64](r, 0, 0, 1, -1), Name: pick(r, "", "", "n", "w"), A: pick(r, -1, 0, i-1), B: pick(r, -1, -1, i-1, i), C: pick(r, -1, -1, -1, 7)})
			}
			b.Stmts = append(b.Stmts, s)
		}
		want := told{e: api.ErrArg}
		if act.Check(b) == api.OK {
			want = shouldRun(b, usual(), 3)
		}
		if got := ran(b, usual(), 3); !got.is(want) {
			t.Fatalf("Run(%v): %v; not %v", b, got, want)
		}
	}
}

// An emission's expression is none as well where its row is there, but empty.
func TestEmissionOfAnEmptyRow(t *testing.T) {
	b := act.Body{Stmts: []act.Stmt{{Kind: act.Emit, Name: "go", Expr: expr.Expr{Nodes: []expr.Node{}}}, {Kind: act.Emit, Name: "go", Expr: number(4)}, {Kind: act.Emit, Name: "go"}}}
	if got := ran(b, nil, 9); got.String() != "go(0) go(4) go(0) 3, error 0" {
		t.Errorf("Run(%v): %v", b, got)
	}
}

// Expressions as deep as may be.
func TestRunOfDeepExpressions(t *testing.T) {
	n := expr.Node{Op: expr.Name, Name: "n", A: -1, B: -1, C: -1}
	for depth, want := range map[int]int64{1: 2, 2: -2, mostDepth - 1: 2, mostDepth: -2} {
		b := act.Body{Stmts: []act.Stmt{{Kind: act.Emit, Name: "go", Expr: chain(depth, expr.Neg, n)}, {Kind: act.Assign, Name: "m", Expr: chain(depth, expr.Neg, n)}}}
		if got := ran(b, []eval.Bind{bind("n", 2), bind("m", 0)}, 0); !got.is(told{Result: Result{[]eval.Bind{bind("n", 2), bind("m", want)}, []Emit{{"go", want}}, 2}}) {
			t.Errorf("Run of depth %d: %v", depth, got)
		}
	}
}

func TestRunOfMany(t *testing.T) {
	r := rand.New(rand.NewSource(122))
	counts := map[api.Errno]int{}
	for range 20000 {
		names := pick(r, []string{"n"}, []string{"n", "m", "arg"}, []string{"n", "m", "k", "go", "arg"})
		s, vars, arg := anyText(r, 6, names...), anyVars(r, 6, names...), pick(r, 0, 1, -1, r.Int63(), least, greatest)
		check(t, s, vars, arg)
		counts[ranText(s, vars, arg).e]++
	}
	for _, e := range []api.Errno{api.OK, api.ErrType, api.ErrOverflow, api.ErrDivide} {
		if counts[e] < 500 {
			t.Errorf("only %d had error %d", counts[e], e)
		}
	}
}

// All short rows out of a few statements.
func TestRunOfShortRows(t *testing.T) {
	few := []string{"n := m;", "m := n + arg;", "n := n div m;", "emit go(n);", "emit m();", "w := 1;", "m := m - 1;"}
	var try func(most int, s string)
	try = func(most int, s string) {
		check(t, s, []eval.Bind{bind("m", 1), bind("n", 5)}, 2)
		if most == 0 {
			return
		}
		for _, x := range few {
			try(most-1, s+x)
		}
	}
	try(4, "")
}

// Many variables, and the bodies are as great as they may be.
func TestRunOfMuch(t *testing.T) {
	const many = 50000
	var vars []eval.Bind
	for i := range many {
		vars = append(vars, bind("n"+strconv.Itoa(i), int64(i)))
	}
	want := told{Result: Result{Vars: slices.Clone(vars), Done: mostParts}}
	var b act.Body
	for i := range mostParts / 2 {
		from := "n" + strconv.Itoa(many-1-i)
		b.Stmts = append(b.Stmts, body("n"+strconv.Itoa(i)+" := "+from+" + arg; emit e"+strconv.Itoa(i)+"("+from+");").Stmts...)
		want.Vars[i].Value = int64(many-1-i) + 7
		want.Emits = append(want.Emits, Emit{"e" + strconv.Itoa(i), int64(many - 1 - i)})
	}
	if got := ran(b, vars, 7); !got.is(want) {
		t.Error("Run of much is wrong")
	}
}

// P12.2

func TestTextOfWhatIsNoBody(t *testing.T) {
	deep := strings.Repeat("- ", mostDepth) + "1"
	for _, x := range []struct {
		s string
		e api.Errno
	}{
		{"n := 1", api.ErrAct}, {"n", api.ErrAct}, {";", api.ErrAct}, {"n = 1;", api.ErrAct}, {"emit go;", api.ErrAct}, {"emit go()", api.ErrAct}, {"emit", api.ErrAct}, {"1 := n;", api.ErrAct}, {"true := 1;", api.ErrAct}, {"n := 1 2;", api.ErrAct}, {"n := 7; n", api.ErrAct}, {"n := 7;;", api.ErrAct},
		{"n := ;", api.ErrParse}, {"n := 1 +;", api.ErrParse}, {"emit go(", api.ErrParse}, {"emit go(1+);", api.ErrParse}, {"n := (1;", api.ErrParse}, {"n := 7; n := ;", api.ErrParse},
		{"n ! 1", api.ErrLex}, {"n := 1.5;", api.ErrLex}, {"\xff", api.ErrLex}, {"n := 7; \x00", api.ErrLex}, {long(mostName+1) + " := 1;", api.ErrLex}, {"n := ; !", api.ErrLex},
		{"n := 9223372036854775808;", api.ErrOverflow}, {"emit go(99999999999999999999);", api.ErrOverflow}, {"n := 7; n := 1 + 9223372036854775808;", api.ErrOverflow},
		{"n := " + deep + ";", api.ErrLimit}, {"emit go(" + deep + ");", api.ErrLimit}, {strings.Repeat("n := 7;", mostParts+1), api.ErrLimit}, {strings.Repeat("emit go();", mostParts) + ";", api.ErrLimit}, {"n := 7;" + strings.Repeat(" ", mostBytes), api.ErrLimit}, {strings.Repeat("!", mostBytes+1), api.ErrLimit},
		// What is wrong as a text goes ahead of what could not be done.
		{"w := 1; n := ;", api.ErrParse}, {"n := 1 div 0; n", api.ErrAct}, {"n := true; !", api.ErrLex},
	} {
		for _, vars := range [][]eval.Bind{nil, usual(), {bind("n", 1)}} {
			if got := ranText(x.s, vars, 3); !got.is(told{e: x.e}) {
				t.Errorf("Text(%.100q, %v): %v; not error %d", x.s, vars, got, x.e)
			}
		}
		if _, _, e := act.Parse(x.s); e != x.e {
			t.Errorf("Parse(%.100q): %d", x.s, e)
		}
	}
}

// Texts as long as may be, and with as many statements.
func TestTextAtTheBounds(t *testing.T) {
	want := told{Result: Result{Vars: []eval.Bind{bind("n", 7)}, Done: 1}}
	expect(t, "n := 7;"+strings.Repeat(" ", mostBytes-7), []eval.Bind{bind("n", 1)}, 0, want)
	expect(t, "n:="+strings.Repeat("-  ", mostDepth-1)+"7;", []eval.Bind{bind("n", 1)}, 0, told{Result: Result{Vars: []eval.Bind{bind("n", -7)}, Done: 1}})
	want.Done = mostParts
	expect(t, strings.Repeat("n := 7;", mostParts)+" -- n := 8;", []eval.Bind{bind("n", 1)}, 0, want)
}

// Texts that were changed: what Parse tells of them, and what Run tells of the body.
func TestTextOfChangedOnes(t *testing.T) {
	r := rand.New(rand.NewSource(123))
	all := []string{"n", "m", "1", "0", ":=", "(", ")", ";", "+", "-", "emit", "true", "!", "endif", "9223372036854775808", " ", "\n"}
	none := 0
	for range 10000 {
		s := anyText(r, 3, "n", "m", "arg", "go")
		i := r.Intn(len(s) + 1)
		s = pick(r, s[:i], s[i:], s[:i]+pick(r, all...)+s[i:])
		b, _, e := act.Parse(s)
		want := told{e: e}
		if e == api.OK {
			want = shouldRun(b, usual(), 5)
		} else {
			none++
		}
		if got := ranText(s, usual(), 5); !got.is(want) {
			t.Fatalf("Text(%q): %v; not %v", s, got, want)
		}
	}
	if none < 1000 {
		t.Errorf("only %d were no bodies", none)
	}
}

// P12.3

func TestWhatIsHandedInIsOnlyRead(t *testing.T) {
	r := rand.New(rand.NewSource(124))
	odd := bind("behind", 99)
	for range 1000 {
		s := anyText(r, 5, "n", "m", "arg")
		b := body(s)
		b.Stmts = append(b.Stmts, act.Stmt{Kind: 9, Name: "?"})[:len(b.Stmts)]
		for i := range b.Stmts {
			nodes := b.Stmts[i].Expr.Nodes
			b.Stmts[i].Expr.Nodes = append(slices.Clone(nodes), expr.Node{Op: 99})[:len(nodes)]
		}
		vars := anyVars(r, 5, "n", "m", "arg")
		vars = append(vars, odd, odd)[:len(vars)]
		kept, keptVars := copiedBody(b), slices.Clone(vars)
		Run(b, vars, 3)
		Run(act.Body{Stmts: b.Stmts[:len(b.Stmts)+1]}, vars, 3)
		Text(s, vars, 3)
		if !act.Same(b, kept) || !slices.Equal(vars, keptVars) {
			t.Fatalf("%q, %v were handed in, and are %v, %v now", s, keptVars, b, vars)
		}
		for _, x := range b.Stmts {
			if n := len(x.Expr.Nodes); x.Expr.Nodes[:n+1][n] != (expr.Node{Op: 99}) {
				t.Fatalf("%q: there is something else behind the nodes now", s)
			}
		}
		if n := len(b.Stmts); b.Stmts[:n+1][n].Kind != 9 {
			t.Fatalf("%q: there is something else behind the statements now", s)
		}
		if n := len(vars); !slices.Equal(vars[n:n+2], []eval.Bind{odd, odd}) {
			t.Fatalf("%q: there is something else behind the variables now", s)
		}
	}
}

// within tells whether two texts share memory.
func within(a, b string) bool {
	if a == "" || b == "" {
		return false
	}
	p, w := uintptr(unsafe.Pointer(unsafe.StringData(a))), uintptr(unsafe.Pointer(unsafe.StringData(b)))
	return p < w+uintptr(len(b)) && w < p+uintptr(len(a))
}

// texts are all texts in results.
func texts(l ...Result) []string {
	var all []string
	for _, r := range l {
		for _, v := range r.Vars {
			all = append(all, v.Name)
		}
		for _, m := range r.Emits {
			all = append(all, m.Name)
		}
	}
	return all
}

func TestTextsAreNewMemory(t *testing.T) {
	for _, x := range shown {
		b, vars := body(x.s), usual()
		first, _ := Run(b, vars, 3)
		second, _ := Run(b, vars, 3)
		given := texts(Result{Vars: vars})
		for _, s := range b.Stmts {
			given = append(given, s.Name)
			for _, n := range s.Expr.Nodes {
				given = append(given, n.Name)
			}
		}
		answered := texts(first, second)
		for i, a := range answered {
			for _, c := range append(given, answered[:i]...) {
				if within(a, c) {
					t.Fatalf("Run(%q): %q is not new memory", x.s, a)
				}
			}
		}
	}
}

// Whoever writes on an answer, or on what was handed in, changes no other one.
func TestRowsAreNewMemory(t *testing.T) {
	r := rand.New(rand.NewSource(125))
	for range 1000 {
		s := anyText(r, 5, "n", "m", "arg")
		b, vars := body(s), anyVars(r, 5, "n", "m", "arg")
		kept := slices.Clone(vars)
		first, second := ran(b, vars, 3), ran(b, vars, 3)
		want := shouldRun(b, kept, 3)
		for i := range first.Vars[:cap(first.Vars)] {
			first.Vars[:cap(first.Vars)][i] = bind("other", 99)
		}
		for i := range first.Emits[:cap(first.Emits)] {
			first.Emits[:cap(first.Emits)][i] = Emit{"other", 99}
		}
		if !slices.Equal(vars, kept) || !second.is(want) {
			t.Fatalf("Run(%q, %v): writing on an answer changed %v, %v", s, kept, vars, second)
		}
		for i := range vars {
			vars[i] = bind("other", 99)
		}
		for i := range b.Stmts {
			b.Stmts[i] = act.Stmt{}
		}
		if !second.is(want) {
			t.Fatalf("Run(%q, %v): writing on what was handed in changed %v", s, kept, second)
		}
	}
	// A row without variables, but with memory behind it, is not handed back.
	row := []eval.Bind{bind("n", 1)}
	if got := ran(act.Body{}, row[:0], 3); len(got.Vars) != 0 || cap(got.Vars) != 0 {
		t.Errorf("Run with an empty row: %v", got)
	}
}

// What one call did another one does not know.
func TestNothingIsKept(t *testing.T) {
	for range 3 {
		for _, s := range []string{"n := n + 1; emit go(n);", "emit go(1); n := 1 div 0;", "w := 1;", ""} {
			check(t, s, usual(), 3)
			check(t, s, nil, 4)
			check(t, s, []eval.Bind{bind("w", 3), bind("n", 4)}, 5)
		}
		if got := ranText("n := ;", usual(), 3); !got.is(told{e: api.ErrParse}) {
			t.Errorf("Text(n := ;): %v", got)
		}
	}
}

// P12.4

// namesOf are the variables' names.
func namesOf(vars []eval.Bind) []string {
	var l []string
	for _, v := range vars {
		l = append(l, v.Name)
	}
	return l
}

func TestWhatHasTypes(t *testing.T) {
	r := rand.New(rand.NewSource(126))
	counts := map[api.Errno]int{}
	for range 20000 {
		b, vars := body(anyText(r, 4, "n", "m", "arg", "go")), anyVars(r, 6, "n", "m", "arg", "go")
		events := []string{"go", "n", "m"}[:r.Intn(4)]
		if _, e := act.Types(b, namesOf(vars), events); e != api.OK {
			continue
		}
		got := ran(b, vars, pick[int64](r, 0, 1, -1, least, greatest))
		counts[got.e]++
		if got.e != api.OK && got.e != api.ErrOverflow && got.e != api.ErrDivide {
			t.Fatalf("Run(%v, %v): %v", b, vars, got)
		}
		if (got.e == api.OK) != (got.Done == len(b.Stmts)) {
			t.Fatalf("Run(%v, %v): %v, of %d statements", b, vars, got, len(b.Stmts))
		}
		for _, m := range got.Emits {
			if !slices.Contains(events, m.Name) {
				t.Fatalf("Run(%v, %v): %v is emitted", b, vars, m)
			}
		}
	}
	if counts[api.OK] < 1000 || counts[api.ErrOverflow] < 50 || counts[api.ErrDivide] < 50 {
		t.Errorf("too few had types, or errors: %v", counts)
	}
}

func TestOneBehindTheOther(t *testing.T) {
	r := rand.New(rand.NewSource(127))
	for range 5000 {
		a, b := anyText(r, 4, "n", "m", "arg"), anyText(r, 4, "n", "m", "arg")
		vars, arg := anyVars(r, 5, "n", "m", "arg"), pick[int64](r, 0, 1, greatest)
		want := ranText(a, vars, arg)
		if want.e == api.OK {
			second := ranText(b, want.Vars, arg)
			want = told{Result{second.Vars, slices.Concat(want.Emits, second.Emits), want.Done + second.Done}, second.e}
		}
		expect(t, a+"\n"+b, vars, arg, want)
	}
}

func TestVariablesThatAreNotAssignedStay(t *testing.T) {
	r := rand.New(rand.NewSource(128))
	for range 5000 {
		b, vars := body(anyText(r, 5, "n", "m", "k", "arg")), anyVars(r, 8, "n", "m", "k", "arg", "go", "")
		got := ran(b, vars, 3)
		if !slices.Equal(namesOf(got.Vars), namesOf(vars)) {
			t.Fatalf("Run(%v, %v): %v", b, vars, got)
		}
		for i, v := range vars {
			assigned := slices.ContainsFunc(b.Stmts[:got.Done], func(s act.Stmt) bool { return s.Kind == act.Assign && s.Name == v.Name })
			if first := slices.Index(namesOf(vars), v.Name) == i; got.Vars[i] != v && !(assigned && first) {
				t.Fatalf("Run(%v, %v): %v; %v did not stay", b, vars, got, v)
			}
		}
	}
}
