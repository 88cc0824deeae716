package act

import (
	"math/rand"
	"slices"
	"strconv"
	"strings"
	"testing"
	"unsafe"

	"hopscotch/api"
	"hopscotch/expr"
	"hopscotch/lex"
	"hopscotch/types"
)

// The chapters' bounds, as their own numbers.
const (
	mostBytes = 65536
	mostParts = 512
	mostDepth = 64
	mostName  = 64
)

// noWords are the words that are no names.
var noWords = strings.Fields("and div else emit endif false if implies mod not or then true xor")

// number, named and node put expressions together.
func number(n int64) expr.Expr {
	return expr.Expr{Nodes: []expr.Node{{Op: expr.Num, Num: n, A: -1, B: -1, C: -1}}}
}

func named(s string) expr.Expr {
	return expr.Expr{Nodes: []expr.Node{{Op: expr.Name, Name: s, A: -1, B: -1, C: -1}}}
}

func node(op uint8, parts ...expr.Expr) expr.Expr {
	var l []expr.Node
	whole := expr.Node{Op: op, A: -1, B: -1, C: -1}
	ends := []*int{&whole.A, &whole.B, &whole.C}
	for i, p := range parts {
		first := len(l)
		for _, n := range p.Nodes {
			for _, at := range []*int{&n.A, &n.B, &n.C} {
				if *at >= 0 {
					*at += first
				}
			}
			l = append(l, n)
		}
		*ends[i] = len(l) - 1
	}
	return expr.Expr{Nodes: append(l, whole)}
}

// chain is an expression of that depth, least within.
func chain(depth int, op uint8, least expr.Expr) expr.Expr {
	x := least
	for range depth - 1 {
		x = node(op, x)
	}
	return x
}

// parsed is the expression that a text writes.
func parsed(s string) expr.Expr {
	x, _, e := expr.Parse(s)
	if e != api.OK {
		panic(s + " is no expression")
	}
	return x
}

// sets and emits are statements; that which emits no text is one with nothing.
func sets(name, x string) Stmt { return Stmt{Kind: 1, Name: name, Expr: parsed(x)} }

func emits(name, x string) Stmt {
	if x == "" {
		return Stmt{Kind: 2, Name: name}
	}
	return Stmt{Kind: 2, Name: name, Expr: parsed(x)}
}

func body(l ...Stmt) Body { return Body{Stmts: l} }

// same holds two rows of statements against each other, field by field.
func same(a, b []Stmt) bool {
	return slices.EqualFunc(a, b, func(x, y Stmt) bool {
		return x.Kind == y.Kind && x.Name == y.Name && slices.Equal(x.Expr.Nodes, y.Expr.Nodes)
	})
}

// copied is a body in memory of its own.
func copied(b Body) Body {
	l := slices.Clone(b.Stmts)
	for i := range l {
		l[i].Expr.Nodes = slices.Clone(l[i].Expr.Nodes)
	}
	return Body{Stmts: l}
}

// long is a name of n bytes.
func long(n int) string { return strings.Repeat("n", n) }

// ways are how statements are written.
var ways = []struct {
	kind  uint8
	words string
}{{1, "NAME := EXPR ;"}, {2, "emit NAME ( EXPR ) ;"}, {2, "emit NAME ( ) ;"}}

// told is what a call of Parse tells.
type told struct {
	stmts []Stmt
	at    int
	e     api.Errno
}

// inWay reads a statement in one way, and tells how many tokens it has, or how many it goes on for, and why no further.
func inWay(kind uint8, words string, l []lex.Token) (Stmt, int, api.Errno) {
	s, n := Stmt{Kind: kind}, 0
	for _, w := range strings.Fields(words) {
		switch {
		case w == "EXPR":
			x, m, e := expr.From(l[n:])
			n += m
			if e != api.OK {
				return Stmt{}, n, e
			}
			s.Expr = x
			continue
		case n == len(l):
			return Stmt{}, n, api.ErrAct
		case w == "NAME" && l[n].Kind == lex.Name:
			s.Name = l[n].Text
		case w != l[n].Text:
			return Stmt{}, n, api.ErrAct
		}
		n++
	}
	return s, n, api.OK
}

// toldStmt reads the statement with which tokens begin in that way which goes furthest; of two of these an expression's error holds.
func toldStmt(l []lex.Token) (Stmt, int, api.Errno) {
	best, n, e := Stmt{}, -1, api.OK
	for _, w := range ways {
		s, m, f := inWay(w.kind, w.words, l)
		if m > n || m == n && e == api.ErrAct {
			best, n, e = s, m, f
		}
	}
	return best, n, e
}

// toldParse reads a text by the chapter's words.
func toldParse(s string) told {
	l, at, e := lex.Tokens(s)
	if e != api.OK {
		return told{nil, at, e}
	}
	ends := append(slices.Clone(l), lex.Token{At: len(s)})
	var all []Stmt
	for i := 0; i < len(l); {
		if len(all) == mostParts {
			return told{nil, l[i].At, api.ErrLimit}
		}
		x, n, e := toldStmt(l[i:])
		i += n
		if e != api.OK {
			return told{nil, ends[i].At, e}
		}
		all = append(all, x)
	}
	return told{all, 0, api.OK}
}

// expect holds a call of Parse against what it must tell.
func expect(t *testing.T, s string, want told) {
	t.Helper()
	b, at, e := Parse(s)
	if !same(b.Stmts, want.stmts) || at != want.at || e != want.e {
		t.Fatalf("Parse(%.200q): %v, %d, %d; not %v, %d, %d", s, b, at, e, want.stmts, want.at, want.e)
	}
}

// check holds a call of Parse against the chapter's words.
func check(t *testing.T, s string) {
	t.Helper()
	expect(t, s, toldParse(s))
}

// pick is one of several.
func pick[T any](r *rand.Rand, l ...T) T { return l[r.Intn(len(l))] }

// anyInt and anyBool are expressions of at most that depth, of their kinds, with names out of some.
func anyInt(r *rand.Rand, depth int, names ...string) expr.Expr {
	if depth == 1 || r.Intn(4) == 0 {
		return pick(r, number(r.Int63n(10)), number(1<<63-1), named(pick(r, names...)), named(pick(r, names...)))
	}
	a, b := anyInt(r, depth-1, names...), anyInt(r, depth-1, names...)
	if r.Intn(5) == 0 {
		return node(expr.If, anyBool(r, depth-1, names...), a, b)
	}
	return pick(r, node(expr.Neg, a), node(pick(r, expr.Add, expr.Sub, expr.Mul, expr.Div, expr.Mod), a, b))
}

func anyBool(r *rand.Rand, depth int, names ...string) expr.Expr {
	if depth == 1 {
		return node(pick(r, expr.True, expr.False))
	}
	if r.Intn(2) == 0 {
		return node(pick(r, expr.Less, expr.MoreEq, expr.Eq, expr.Ne), anyInt(r, depth-1, names...), anyInt(r, depth-1, names...))
	}
	a, b := anyBool(r, depth-1, names...), anyBool(r, depth-1, names...)
	return pick(r, node(expr.Not, a), node(pick(r, expr.And, expr.Or, expr.Xor, expr.Implies, expr.Eq), a, b))
}

// anyStmt is a statement, with names out of some.
func anyStmt(r *rand.Rand, names ...string) Stmt {
	s := Stmt{Kind: pick[uint8](r, 1, 2), Name: pick(r, names...)}
	switch {
	case s.Kind == 2 && r.Intn(3) == 0:
	case r.Intn(4) == 0:
		s.Expr = anyBool(r, 1+r.Intn(4), names...)
	default:
		s.Expr = anyInt(r, 1+r.Intn(5), names...)
	}
	return s
}

// anyBody is a body of at most that many statements.
func anyBody(r *rand.Rand, most int) Body {
	var b Body
	for range r.Intn(most + 1) {
		b.Stmts = append(b.Stmts, anyStmt(r, "x", "y", "go", "arg", "_", "Emit", long(mostName)))
	}
	return b
}

// words are the tokens of a body that is right, as texts.
func words(b Body) []string {
	var l []string
	for _, s := range b.Stmts {
		x := ""
		if len(s.Expr.Nodes) > 0 {
			x, _ = expr.Print(s.Expr)
		}
		if s.Kind == 1 {
			l = append(l, strings.Fields(s.Name+" := "+x+" ;")...)
		} else {
			l = append(l, strings.Fields("emit "+s.Name+" ( "+x+" ) ;")...)
		}
	}
	return l
}

// spread puts blanks of any kind between, ahead of and behind tokens.
func spread(r *rand.Rand, l []string) string {
	blank := func() string {
		return pick(r, " ", " ", "\n", "\t ", "\r\n", " -- emit x ( ; !\n", "\t--\n", "   ")
	}
	s := pick(r, "", blank())
	for i, w := range l {
		if i > 0 {
			s += blank()
		}
		s += w
	}
	return s + pick(r, "", blank(), " -- :=", "\n--")
}

// P11.1

// right are texts that are bodies, with their writings and their statements.
var right = []struct {
	s, print string
	stmts    []Stmt
}{
	{"", "", nil}, {" \t\r\n", "", nil}, {"-- none", "", nil}, {"--\n -- x := 1;\n", "", nil},
	{"x := x + 1; emit go(x);", "x := x + 1 ; emit go ( x ) ;", []Stmt{sets("x", "x + 1"), emits("go", "x")}},
	{"x:=1;", "x := 1 ;", []Stmt{sets("x", "1")}}, {"emit go();", "emit go ( ) ;", []Stmt{emits("go", "")}}, {"emit go(1);", "emit go ( 1 ) ;", []Stmt{emits("go", "1")}},
	{"emit\ngo\n(\n)\n;\n", "emit go ( ) ;", []Stmt{emits("go", "")}}, {"x -- ;\n:= -- 2;\n1;", "x := 1 ;", []Stmt{sets("x", "1")}},
	{"x:=1;y:=2;", "x := 1 ; y := 2 ;", []Stmt{sets("x", "1"), sets("y", "2")}}, {"x:=1;x:=1;", "x := 1 ; x := 1 ;", []Stmt{sets("x", "1"), sets("x", "1")}},
	{"emit a();emit b();emit a();", "emit a ( ) ; emit b ( ) ; emit a ( ) ;", []Stmt{emits("a", ""), emits("b", ""), emits("a", "")}},
	{"emit go((1));", "emit go ( 1 ) ;", []Stmt{emits("go", "1")}}, {"emit go((1)+(2));", "emit go ( 1 + 2 ) ;", []Stmt{emits("go", "1 + 2")}}, {"x:=(1+2)*3;", "x := ( 1 + 2 ) * 3 ;", []Stmt{sets("x", "(1 + 2) * 3")}}, {"x:=((a-(b-c)));", "x := a - ( b - c ) ;", []Stmt{sets("x", "a - (b - c)")}},
	{"x:=- - 1;", "x := - - 1 ;", []Stmt{sets("x", "- - 1")}}, {"x:=a=b;", "x := a = b ;", []Stmt{sets("x", "a = b")}}, {"x:=true;", "x := true ;", []Stmt{sets("x", "true")}}, {"emit go(x<1 and not y);", "emit go ( x < 1 and not y ) ;", []Stmt{emits("go", "x < 1 and not y")}},
	{"x := if x < 1 then 2 else 3 endif;", "x := if x < 1 then 2 else 3 endif ;", []Stmt{sets("x", "if x < 1 then 2 else 3 endif")}}, {"emit go(if(a)then(1)else(2)endif);", "emit go ( if a then 1 else 2 endif ) ;", []Stmt{emits("go", "if a then 1 else 2 endif")}},
	{"emits:=1;", "emits := 1 ;", []Stmt{sets("emits", "1")}}, {"Emit:=1;emit Emit();", "Emit := 1 ; emit Emit ( ) ;", []Stmt{sets("Emit", "1"), emits("Emit", "")}}, {"arg:=arg;emit arg(arg);", "arg := arg ; emit arg ( arg ) ;", []Stmt{sets("arg", "arg"), emits("arg", "arg")}}, {"_:=007;", "_ := 7 ;", []Stmt{sets("_", "7")}},
	{"x:=9223372036854775807;", "x := 9223372036854775807 ;", []Stmt{sets("x", "9223372036854775807")}}, {long(mostName) + ":=" + long(mostName) + ";", long(mostName) + " := " + long(mostName) + " ;", []Stmt{sets(long(mostName), long(mostName))}},
}

func TestParse(t *testing.T) {
	for _, x := range right {
		expect(t, x.s, told{x.stmts, 0, api.OK})
		check(t, x.s)
	}
	if Assign != 1 || Emit != 2 {
		t.Errorf("the kinds are %d and %d", Assign, Emit)
	}
}

// wrong are texts that are none, each with the place and the error.
var wrong = []struct {
	s  string
	at int
	e  api.Errno
}{
	{"x := 1", 6, api.ErrAct}, {"emit go;", 7, api.ErrAct}, {"x = 1;", 2, api.ErrAct}, {"x := 1  ", 8, api.ErrAct}, {"x := 1 -- ;", 11, api.ErrAct}, {"x", 1, api.ErrAct}, {"x ", 2, api.ErrAct}, {"x;", 1, api.ErrAct}, {"x 1;", 2, api.ErrAct}, {"x x := 1;", 2, api.ErrAct}, {"x := 1 2;", 7, api.ErrAct}, {"x := 1 y := 2;", 7, api.ErrAct}, {"x := 1);", 6, api.ErrAct}, {"x := (1));", 8, api.ErrAct}, {"x := 1 := 2;", 7, api.ErrAct}, {"x := 1,", 6, api.ErrAct}, {"x := 1 emit go();", 7, api.ErrAct}, {"x := y(1);", 6, api.ErrAct}, {"x := 1 else;", 7, api.ErrAct}, {"x := if a then 1 else 2 endif endif;", 30, api.ErrAct},
	{";", 0, api.ErrAct}, {" ;", 1, api.ErrAct}, {"x := 1;;", 7, api.ErrAct}, {"x := 1; y", 9, api.ErrAct}, {"x := 1; ;", 8, api.ErrAct}, {"x := 1; )", 8, api.ErrAct}, {"x := 1; 1", 8, api.ErrAct}, {"1 := x;", 0, api.ErrAct}, {":= 1;", 0, api.ErrAct}, {"(x) := 1;", 0, api.ErrAct}, {"(", 0, api.ErrAct}, {"true := 1;", 0, api.ErrAct}, {"if := 1;", 0, api.ErrAct}, {"else", 0, api.ErrAct}, {"- x := 1;", 0, api.ErrAct}, {"1", 0, api.ErrAct}, {",", 0, api.ErrAct},
	{"emit", 4, api.ErrAct}, {"emit\n", 5, api.ErrAct}, {"emit;", 4, api.ErrAct}, {"emit 1();", 5, api.ErrAct}, {"emit emit();", 5, api.ErrAct}, {"emit true();", 5, api.ErrAct}, {"emit ();", 5, api.ErrAct}, {"emit go", 7, api.ErrAct}, {"emit go := 1;", 8, api.ErrAct}, {"emit := 1;", 5, api.ErrAct}, {"emit go 1;", 8, api.ErrAct}, {"emit go)", 7, api.ErrAct}, {"emit a b();", 7, api.ErrAct},
	{"emit go()", 9, api.ErrAct}, {"emit go())", 9, api.ErrAct}, {"emit go());", 9, api.ErrAct}, {"emit go()1;", 9, api.ErrAct}, {"emit go() emit go();", 10, api.ErrAct}, {"emit go(1;", 9, api.ErrAct}, {"emit go(1)", 10, api.ErrAct}, {"emit go(1", 9, api.ErrAct}, {"emit go(1 ", 10, api.ErrAct}, {"emit go(1));", 10, api.ErrAct}, {"emit go(1 2);", 10, api.ErrAct}, {"emit go(1, 2);", 9, api.ErrAct}, {"emit go(1)(2);", 10, api.ErrAct}, {"emit go((1);", 11, api.ErrAct}, {"emit go((1;", 10, api.ErrParse}, {"emit go(1) x := 1;", 11, api.ErrAct},
	{"x := ;", 5, api.ErrParse}, {"x :=", 4, api.ErrParse}, {"x := ", 5, api.ErrParse}, {"x := -- 1;", 10, api.ErrParse}, {"x := );", 5, api.ErrParse}, {"x := ();", 6, api.ErrParse}, {"x := (1;", 7, api.ErrParse}, {"x := 1 +;", 8, api.ErrParse}, {"x := 1 + ", 9, api.ErrParse}, {"x := * 1;", 5, api.ErrParse}, {"x := := 1;", 5, api.ErrParse}, {"x := emit go();", 5, api.ErrParse}, {"x := if a then 1;", 16, api.ErrParse}, {"x := if a then 1 else 2;", 23, api.ErrParse}, {"x := not", 8, api.ErrParse}, {"x := else;", 5, api.ErrParse}, {"y := 1; x := (1 2);", 16, api.ErrParse}, {"emit a(); x := ;", 15, api.ErrParse},
	{"emit go(", 8, api.ErrParse}, {"emit go(  ", 10, api.ErrParse}, {"emit go(;", 8, api.ErrParse}, {"emit go(;)", 8, api.ErrParse}, {"emit go(,);", 8, api.ErrParse}, {"emit go(1+);", 10, api.ErrParse}, {"emit go(());", 9, api.ErrParse}, {"emit go(x := 1);", 10, api.ErrAct}, {"emit go(emit go(););", 8, api.ErrParse}, {"emit go(- );", 10, api.ErrParse},
	{"x := 99999999999999999999;", 5, api.ErrOverflow}, {"x := 1 + 9223372036854775808;", 9, api.ErrOverflow}, {"emit go(9223372036854775808);", 8, api.ErrOverflow}, {"x := - (1 * 9223372036854775808", 12, api.ErrOverflow}, {"x := 1 9223372036854775808;", 7, api.ErrAct}, {"9223372036854775808 := 1;", 0, api.ErrAct}, {"emit 9223372036854775808();", 5, api.ErrAct}, {"x := 1 9;y := 9223372036854775808;", 7, api.ErrAct}, {"x := 9223372036854775808; y", 5, api.ErrOverflow}, {"emit go() 9223372036854775808", 10, api.ErrAct},
	{"x ! 1", 2, api.ErrLex}, {"!", 0, api.ErrLex}, {"x := 1; !", 8, api.ErrLex}, {"; !", 2, api.ErrLex}, {"x := ; :", 7, api.ErrLex}, {"x := 99999999999999999999; \xff", 27, api.ErrLex}, {"x : = 1;", 2, api.ErrLex}, {"x := 1.5;", 6, api.ErrLex}, {"x := \"1\";", 5, api.ErrLex}, {"\x00", 0, api.ErrLex}, {"x := 1;\x00", 7, api.ErrLex}, {long(mostName+1) + " := 1;", 0, api.ErrLex}, {"emit " + long(mostName+1) + "();", 5, api.ErrLex},
}

func TestParseOfWhatIsNoBody(t *testing.T) {
	for _, x := range wrong {
		expect(t, x.s, told{nil, x.at, x.e})
		check(t, x.s)
		// Behind right statements, and blanks, it is just as wrong, only further on.
		for _, ahead := range []string{"  ", "y := 1;", "emit on(2 * x);emit on();\n", "-- ;\n"} {
			expect(t, ahead+x.s, told{nil, len(ahead) + x.at, x.e})
		}
	}
}

// No word is a name, but what has a word in it, or is written otherwise, may be.
func TestParseOfWords(t *testing.T) {
	for _, w := range noWords {
		expect(t, "emit "+w+"();", told{nil, 5, api.ErrAct})
		expect(t, "emit\n"+w+"(1);", told{nil, 5, api.ErrAct})
		if w != "emit" {
			expect(t, w+":=1;", told{nil, 0, api.ErrAct})
			expect(t, "x := 1; "+w+" go();", told{nil, 8, api.ErrAct})
		}
		for _, name := range []string{w + "_", "_" + w, strings.ToUpper(w), w + "s", w + "1"} {
			expect(t, name+":=1;", told{[]Stmt{sets(name, "1")}, 0, api.OK})
			expect(t, "emit "+name+"("+name+");", told{[]Stmt{emits(name, name)}, 0, api.OK})
		}
	}
}

// All short rows of tokens.
func TestParseOfShortRows(t *testing.T) {
	var try func(all []string, most int, s string)
	try = func(all []string, most int, s string) {
		check(t, s)
		if most == 0 {
			return
		}
		for _, w := range all {
			try(all, most-1, s+w+" ")
		}
	}
	try([]string{"x", "emit", ":=", "(", ")", ";", "1", "-"}, 5, "")
	try([]string{"x", "emit", ":=", "(", ")", ";", "1", "<", "not", "if", "then", "9999999999999999999", ",", "!"}, 3, "")
	for _, ahead := range []string{"x := ", "emit x ( ", "x := 1 ; emit x ( ", "emit x ( ) ; x := ", "x := if x then 1 "} {
		try([]string{"x", "(", ")", ";", "1", "-", "*", "else", "endif", ":=", "emit"}, 4, ahead)
	}
}

// Bodies with a token that is taken out, put in, or put in the place of another one, and those that end early.
func TestParseOfChangedOnes(t *testing.T) {
	r := rand.New(rand.NewSource(111))
	all := append(strings.Fields("x go 1 0 9223372036854775808 := ( ) ; + - * < = , <> ! :"), noWords...)
	for range 4000 {
		l := words(anyBody(r, 4))
		check(t, spread(r, l))
		if len(l) == 0 {
			continue
		}
		for range 1 + r.Intn(2) {
			i := r.Intn(len(l))
			switch r.Intn(4) {
			case 0:
				l = slices.Delete(l, i, i+1)
			case 1:
				l = slices.Insert(l, i, pick(r, all...))
			case 2:
				l[i] = pick(r, all...)
			default:
				l = l[:i]
			}
			if len(l) == 0 {
				break
			}
		}
		check(t, spread(r, l))
	}
}

func TestParseOfMany(t *testing.T) {
	r := rand.New(rand.NewSource(112))
	for range 4000 {
		b := anyBody(r, 6)
		expect(t, spread(r, words(b)), told{b.Stmts, 0, api.OK})
	}
}

// Each byte, at each place of a body.
func TestParseOfEachByte(t *testing.T) {
	for _, s := range []string{"x:=1+y;emit go(x);emit go();", "emit a(2*3);\ny := -x;"} {
		for i := range len(s) + 1 {
			for b := range 256 {
				c := string([]byte{byte(b)})
				check(t, s[:i]+c+s[i:])
				if i < len(s) {
					check(t, s[:i]+c+s[i+1:])
				}
			}
			check(t, s[:i])
			check(t, s[i:])
		}
	}
}

// What ends ahead of its last token has its fault where the text ends.
func TestParseOfWhatEndsEarly(t *testing.T) {
	r := rand.New(rand.NewSource(113))
	for range 300 {
		l := words(body(anyStmt(r, "x", "go")))
		for n := 1; n < len(l); n++ {
			for _, behind := range []string{"", " ", "\n\n", " -- x;\n", " -- ;"} {
				s := strings.Join(l[:n], " ") + behind
				b, at, e := Parse(s)
				if len(b.Stmts) != 0 || at != len(s) || e != api.ErrAct && e != api.ErrParse {
					t.Fatalf("Parse(%q): %v, %d, %d", s, b, at, e)
				}
				check(t, s)
			}
		}
	}
}

// Wherever an expression should begin it is expr.From that tells what is wrong with it.
func TestParseTellsFromsErrors(t *testing.T) {
	deep, tooDeep := strings.Repeat("- ", mostDepth-1)+"1", strings.Repeat("- ", mostDepth)+"1"
	for _, x := range []struct {
		s string
		n int
		e api.Errno
	}{
		{";", 0, api.ErrParse}, {"+ 1", 0, api.ErrParse}, {"1 + ;", 2, api.ErrParse}, {"( 1 ;", 2, api.ErrParse}, {"( 1 2 )", 2, api.ErrParse}, {"if 1 then 2 )", 4, api.ErrParse}, {"x + emit", 2, api.ErrParse}, {"not and", 1, api.ErrParse}, {"- := 1", 1, api.ErrParse}, {deep + " + ;", mostDepth + 1, api.ErrParse}, {tooDeep + " + ;", mostDepth + 2, api.ErrParse},
		{"9223372036854775808 ;", 0, api.ErrOverflow}, {"1 + 9223372036854775808 ;", 2, api.ErrOverflow}, {"( 1 - 9223372036854775808 2 ;", 3, api.ErrOverflow}, {tooDeep + " + 9223372036854775808", mostDepth + 2, api.ErrOverflow},
		{tooDeep, 0, api.ErrLimit}, {tooDeep + " ;", 0, api.ErrLimit}, {tooDeep + " 2 ;", 0, api.ErrLimit}, {"1 + ( " + tooDeep + " ) ;", 0, api.ErrLimit}, {tooDeep + " ) ;", 0, api.ErrLimit}, {tooDeep + " := 9223372036854775808", 0, api.ErrLimit},
	} {
		for _, ahead := range []string{"x := ", "emit go ( ", "y := 1 ; x := ", "emit a ( ) ; emit go ( ", "emit a ( 1 ) ; x := "} {
			s := ahead + x.s
			l, _, _ := lex.Tokens(s)
			at := l[len(strings.Fields(ahead))+x.n].At
			expect(t, s, told{nil, at, x.e})
			check(t, s)
		}
	}
	for _, s := range []string{"x := " + deep + ";", "emit go(" + deep + ");", "x := " + strings.Repeat("(", 1000) + "1" + strings.Repeat(")", 1000) + ";"} {
		if b, at, e := Parse(s); len(b.Stmts) != 1 || at != 0 || e != api.OK {
			t.Errorf("Parse(%.20q..): %v, %d, %d", s, b, at, e)
		}
	}
}

func TestParseOfManyStatements(t *testing.T) {
	for _, one := range []string{"emit e();", "x:=1;", "emit e(x+1);\n"} {
		for _, n := range []int{1, 2, mostParts - 1, mostParts} {
			s := strings.Repeat(one, n)
			if b, at, e := Parse(s); len(b.Stmts) != n || at != 0 || e != api.OK {
				t.Errorf("Parse of %d statements: %d, %d, %d", n, len(b.Stmts), at, e)
			}
			check(t, s+" -- more")
			if _, _, e := Parse(s + "--;\n \t"); e != api.OK {
				t.Errorf("Parse of %d statements, and blanks: %d", n, e)
			}
		}
		full := strings.Repeat(one, mostParts)
		for _, more := range []string{one, one + one, one + ";", "x", "emit", ";", "(", "1", "9223372036854775808", "x := ", "x := 9223372036854775808;", "else", strings.Repeat("x := 1;", mostParts+1)} {
			expect(t, full+more, told{nil, len(full), api.ErrLimit})
			expect(t, full+" -- more\n"+more, told{nil, len(full) + 9, api.ErrLimit})
		}
		expect(t, full+one+"!", told{nil, len(full + one), api.ErrLex})
		// A fault in a statement ahead goes ahead of there being too many.
		less := strings.Repeat(one, mostParts-1)
		expect(t, less+"x = 1;"+full, told{nil, len(less) + 2, api.ErrAct})
		expect(t, less+"x := ;"+full, told{nil, len(less) + 5, api.ErrParse})
		expect(t, less+"x := 9223372036854775808;"+full, told{nil, len(less) + 5, api.ErrOverflow})
		expect(t, "x := 1 2;"+full+full, told{nil, 7, api.ErrAct})
		expect(t, ";"+full, told{nil, 0, api.ErrAct})
	}
}

func TestParseOfManyBytes(t *testing.T) {
	for _, s := range []string{"x := 1;", "", "-- x", "emit go(x + 1);", "x", "x := ", ";"} {
		full := s + strings.Repeat(" ", mostBytes-len(s))
		check(t, full)
		if _, _, e := Parse(full); e == api.ErrLimit || e == api.ErrLex {
			t.Errorf("Parse of %q, with blanks up to the bound: %d", s, e)
		}
		expect(t, full+" ", told{nil, 0, api.ErrLimit})
		expect(t, "!"+full, told{nil, 0, api.ErrLimit})
		expect(t, full+";"+full, told{nil, 0, api.ErrLimit})
	}
	wide := "x := 1" + strings.Repeat("*(1)", 50)
	for len(wide)*2 < mostBytes/2 {
		wide += " + (" + wide[5:] + ")"
	}
	check(t, wide+";")
	check(t, wide)
}

// P11.2

// wrongExprs are expressions that are not right, or too deep; of an emission one without nodes is right.
func wrongExprs() []expr.Expr {
	x, yes := named("x").Nodes[0], node(expr.True).Nodes[0]
	var l []expr.Expr
	for _, nodes := range [][]expr.Node{
		{{}}, {x, x}, {x, yes, {Op: expr.Add, A: 1, B: 0, C: -1}}, {x, {Op: expr.Neg, A: 0}}, {x, {Op: expr.Neg, A: 9, B: -1, C: -1}}, {{Op: expr.Neg, A: -1, B: -1, C: -1}}, {x, {Op: expr.Neg, A: -1 << 63, B: -1, C: -1}},
		{{Op: 23, A: -1, B: -1, C: -1}}, {{Op: 0, A: -1, B: -1, C: -1}}, {{Op: expr.Num, Num: -1, A: -1, B: -1, C: -1}}, {{Op: expr.Num, Num: 1}}, {{Op: expr.Num, Name: "x", A: -1, B: -1, C: -1}}, {{Op: expr.Name, A: -1, B: -1, C: -1}}, {{Op: expr.Name, Name: "emit", A: -1, B: -1, C: -1}}, {{Op: expr.Name, Name: "a b", A: -1, B: -1, C: -1}}, {{Op: expr.Name, Name: long(mostName + 1), A: -1, B: -1, C: -1}},
	} {
		l = append(l, expr.Expr{Nodes: nodes})
	}
	return append(l, chain(mostDepth+1, expr.Neg, named("x")), chain(mostDepth+1, expr.Not, node(expr.True)), chain(3*mostDepth, expr.Neg, number(1)))
}

// expectWrong holds all calls that ask for a right body against that it is none.
func expectWrong(t *testing.T, b Body) {
	t.Helper()
	if e := Check(b); e != api.ErrArg {
		t.Errorf("Check(%v): %d", b, e)
	}
	if s, e := Print(b); s != "" || e != api.ErrArg {
		t.Errorf("Print(%v): %q, %d", b, s, e)
	}
	for _, vars := range [][]string{nil, {"x", "y"}} {
		for _, events := range [][]string{nil, {"x", "y", "go"}} {
			if at, e := Types(b, vars, events); at != 0 || e != api.ErrArg {
				t.Errorf("Types(%v): %d, %d", b, at, e)
			}
		}
	}
}

// expectWrongWith holds bodies with a statement, wherever it stands, against that they are not right.
func expectWrongWith(t *testing.T, s Stmt) {
	t.Helper()
	a, b := sets("x", "1"), emits("go", "")
	for _, l := range [][]Stmt{{s}, {s, a}, {a, s}, {a, s, b}, {s, s}, {b, a, b, a, s}} {
		expectWrong(t, body(l...))
	}
}

func TestCheckOfWhatIsNotRight(t *testing.T) {
	for k := range 256 {
		if kind := uint8(k); kind != 1 && kind != 2 {
			expectWrongWith(t, Stmt{Kind: kind, Name: "x", Expr: number(1)})
			expectWrongWith(t, Stmt{Kind: kind, Name: "x"})
			expectWrongWith(t, Stmt{Kind: kind})
		}
	}
	for _, name := range append([]string{"", " ", "1", "x ", " x", "x\n", "a b", "x;", "x--", "--", ":=", "(", "1x", "-x", "x.y", "é", "\xff", "x\x00", long(mostName + 1), long(mostBytes + 1)}, noWords...) {
		expectWrongWith(t, Stmt{Kind: Assign, Name: name, Expr: number(1)})
		expectWrongWith(t, Stmt{Kind: Emit, Name: name, Expr: number(1)})
		expectWrongWith(t, Stmt{Kind: Emit, Name: name})
	}
	for _, x := range wrongExprs() {
		expectWrongWith(t, Stmt{Kind: Assign, Name: "x", Expr: x})
		expectWrongWith(t, Stmt{Kind: Emit, Name: "x", Expr: x})
	}
	expectWrongWith(t, Stmt{Kind: Assign, Name: "x"})
	expectWrongWith(t, Stmt{Kind: Assign, Name: "x", Expr: expr.Expr{Nodes: []expr.Node{}}})
	expectWrongWith(t, Stmt{})
	for _, s := range []Stmt{sets("x", "1"), emits("go", ""), emits("go", "x")} {
		expectWrong(t, Body{Stmts: slices.Repeat([]Stmt{s}, mostParts+1)})
		expectWrong(t, Body{Stmts: slices.Repeat([]Stmt{s}, 10*mostParts)})
	}
}

func TestCheckOfWhatIsRight(t *testing.T) {
	var all []Stmt
	for _, name := range []string{"x", "_", "Emit", "emits", "arg", "iff", "x9", long(mostName)} {
		for _, x := range []expr.Expr{number(0), named("x"), named("nobody"), node(expr.True), node(expr.Add, node(expr.True), number(1)), chain(mostDepth, expr.Neg, number(1)), chain(mostDepth, expr.Not, named("y"))} {
			all = append(all, Stmt{Kind: Assign, Name: name, Expr: x}, Stmt{Kind: Emit, Name: name, Expr: x})
		}
		all = append(all, Stmt{Kind: Emit, Name: name}, Stmt{Kind: Emit, Name: name, Expr: expr.Expr{Nodes: []expr.Node{}}})
	}
	for _, s := range all {
		for _, n := range []int{1, 2, mostParts} {
			if e := Check(Body{Stmts: slices.Repeat([]Stmt{s}, n)}); e != api.OK {
				t.Errorf("Check of %d times %v: %d", n, s, e)
			}
		}
	}
	for _, b := range []Body{{}, {Stmts: []Stmt{}}, {Stmts: all}} {
		if e := Check(b); e != api.OK {
			t.Errorf("Check(%v): %d", b, e)
		}
	}
	r := rand.New(rand.NewSource(114))
	for range 500 {
		if b := anyBody(r, 5); Check(b) != api.OK {
			t.Errorf("Check(%v): %d", b, Check(b))
		}
	}
}

func TestPrint(t *testing.T) {
	for _, x := range right {
		if s, e := Print(body(x.stmts...)); s != x.print || e != api.OK {
			t.Errorf("Print of %q: %q, %d; not %q", x.s, s, e, x.print)
		}
	}
	if s, e := Print(Body{Stmts: []Stmt{}}); s != "" || e != api.OK {
		t.Errorf("Print of nothing: %q, %d", s, e)
	}
	r := rand.New(rand.NewSource(115))
	for range 1000 {
		b := anyBody(r, 5)
		if s, e := Print(b); s != strings.Join(words(b), " ") || e != api.OK {
			t.Errorf("Print(%v): %q, %d", b, s, e)
		}
	}
}

// A writing has no bound of its own: it may be longer than a text may be.
func TestPrintOfMuch(t *testing.T) {
	var b Body
	for range mostParts {
		b.Stmts = append(b.Stmts, Stmt{Kind: Assign, Name: long(mostName), Expr: node(expr.Sub, named(long(mostName)), node(expr.Sub, named(long(mostName)), number(1)))})
	}
	s, e := Print(b)
	if s != strings.Join(words(b), " ") || e != api.OK || len(s) <= mostBytes {
		t.Errorf("Print of much: %d bytes, %d", len(s), e)
	}
}

// P11.3

// hasTypes tells whether a statement has types, by the chapter's words.
func hasTypes(s Stmt, vars, events []string) bool {
	if s.Kind == 1 && !slices.Contains(vars, s.Name) || s.Kind == 2 && !slices.Contains(events, s.Name) {
		return false
	}
	if len(s.Expr.Nodes) == 0 {
		return true
	}
	kind, _, e := types.Of(s.Expr, append([]string{"arg"}, vars...)...)
	return kind == types.Int && e == api.OK
}

// checkTypes holds Types against the chapter's words.
func checkTypes(t *testing.T, b Body, vars, events []string) {
	t.Helper()
	at, e := 0, api.OK
	if i := slices.IndexFunc(b.Stmts, func(s Stmt) bool { return !hasTypes(s, vars, events) }); i >= 0 {
		at, e = i, api.ErrType
	}
	if i, f := Types(b, vars, events); i != at || f != e {
		t.Fatalf("Types(%v, %q, %q): %d, %d; not %d, %d", b, vars, events, i, f, at, e)
	}
}

func TestTypes(t *testing.T) {
	for _, x := range []struct {
		s, vars, events string
		at              int
		e               api.Errno
	}{
		{"", "", "", 0, api.OK}, {"", "x", "go", 0, api.OK}, {"x := 1;", "x", "", 0, api.OK}, {"x := 1;", "", "", 0, api.ErrType}, {"x := 1;", "y", "x", 0, api.ErrType}, {"x := 1;", "y x z", "", 0, api.OK}, {"x := 1;", "x x", "", 0, api.OK}, {"x := 1;", "X xx _x x_", "", 0, api.ErrType},
		{"emit go();", "", "go", 0, api.OK}, {"emit go();", "", "", 0, api.ErrType}, {"emit go();", "go", "", 0, api.ErrType}, {"emit go();", "", "stop go", 0, api.OK}, {"emit go();", "go", "stop", 0, api.ErrType}, {"emit go();", "", "Go goo g", 0, api.ErrType},
		{"x := x + 1; emit go(x);", "x", "go", 0, api.OK}, {"x := y;", "x", "", 0, api.ErrType}, {"x := y;", "x y", "", 0, api.OK}, {"x := y;", "x", "y", 0, api.ErrType}, {"x := x + (y + x);", "x", "", 0, api.ErrType}, {"emit go(x);", "", "go x", 0, api.ErrType}, {"emit go(go);", "go", "go", 0, api.OK}, {"emit go(go);", "", "go", 0, api.ErrType},
		{"x := arg;", "x", "", 0, api.OK}, {"x := arg + 1; emit go(arg * x);", "x", "go", 0, api.OK}, {"arg := 1;", "x", "", 0, api.ErrType}, {"arg := arg;", "arg", "", 0, api.OK}, {"arg := 1;", "", "arg", 0, api.ErrType}, {"emit arg();", "", "", 0, api.ErrType}, {"emit arg();", "arg", "", 0, api.ErrType}, {"emit arg(arg);", "", "arg", 0, api.OK}, {"x := Arg;", "x", "", 0, api.ErrType},
		{"x := true;", "x", "", 0, api.ErrType}, {"x := x < 1;", "x", "", 0, api.ErrType}, {"emit go(x < 1);", "x", "go", 0, api.ErrType}, {"emit go(false);", "", "go", 0, api.ErrType}, {"x := 1 + true;", "x", "", 0, api.ErrType}, {"x := - not x;", "x", "", 0, api.ErrType}, {"x := if x < 1 then x else 1 endif;", "x", "", 0, api.OK}, {"x := if x then x else 1 endif;", "x", "", 0, api.ErrType}, {"x := if x < 1 then true else false endif;", "x", "", 0, api.ErrType}, {"x := if true then 1 else y endif;", "x", "", 0, api.ErrType}, {"x := 1 div 0;", "x", "", 0, api.OK}, {"x := y = y;", "x", "", 0, api.ErrType},
		{"x := 1; y := 2;", "x", "go", 1, api.ErrType}, {"x := 1; emit go(x < 1);", "x", "go", 1, api.ErrType}, {"x := 1; emit stop(); y := 1;", "x", "go", 1, api.ErrType}, {"x := y; emit go();", "x", "go", 0, api.ErrType}, {"emit go(); x := 1; x := 2; x := true;", "x", "go", 3, api.ErrType}, {"y := 1; x := 1;", "x", "go", 0, api.ErrType}, {"x := 1; y := x; emit go(y);", "x y", "go", 0, api.OK},
	} {
		b, _, e := Parse(x.s)
		if at, f := Types(b, strings.Fields(x.vars), strings.Fields(x.events)); at != x.at || f != x.e || e != api.OK {
			t.Errorf("Types(%s, %s, %s): %d, %d; not %d, %d", x.s, x.vars, x.events, at, f, x.at, x.e)
		}
		checkTypes(t, b, strings.Fields(x.vars), strings.Fields(x.events))
	}
}

// The rows of names may be any texts.
func TestTypesOfOddNames(t *testing.T) {
	odd := []string{"", " ", "x y", "1", "true", "emit", "\xff", " x", "x ", long(mostName + 1)}
	for _, x := range right {
		b := body(x.stmts...)
		for _, vars := range [][]string{nil, {}, odd, append(slices.Clone(odd), "x", "y", "a", "b", "c", "arg")} {
			for _, events := range [][]string{nil, {}, odd, append([]string{"go", "a", "b", "Emit"}, odd...)} {
				checkTypes(t, b, vars, events)
			}
		}
	}
}

func TestTypesOfMany(t *testing.T) {
	r := rand.New(rand.NewSource(116))
	rows := [][]string{nil, {"x"}, {"x", "y"}, {"go", "x"}, {"y", "go", "_", "Emit"}, {"arg", "x", "y", "go"}, {"x", "y", "go", "arg", "_", "Emit", long(mostName)}}
	for range 4000 {
		checkTypes(t, anyBody(r, 5), pick(r, rows...), pick(r, rows...))
		var b Body
		for range 1 + r.Intn(8) {
			b.Stmts = append(b.Stmts, pick(r, Stmt{Kind: 1, Name: pick(r, "x", "y"), Expr: anyInt(r, 4, "x", "y", "arg")}, Stmt{Kind: 2, Name: pick(r, "go", "stop"), Expr: anyInt(r, 4, "y", "x", "arg")}, emits("go", "")))
		}
		vars, events := []string{"x", "y"}, []string{"stop", "go"}
		if at, e := Types(b, vars, events); at != 0 || e != api.OK {
			t.Fatalf("Types(%v): %d, %d", b, at, e)
		}
		i := r.Intn(len(b.Stmts))
		b.Stmts[i] = pick(r, sets("x", "true"), sets("z", "1"), sets("go", "1"), sets("x", "z"), sets("x", "go"), emits("x", ""), emits("z", "1"), emits("go", "x = y"), emits("go", "stop"), Stmt{Kind: 1, Name: "x", Expr: anyBool(r, 4, "x", "y")})
		if at, e := Types(b, vars, events); at != i || e != api.ErrType {
			t.Fatalf("Types(%v): %d, %d; not %d", b, at, e, i)
		}
		checkTypes(t, b, vars, events)
	}
}

// Many names are known, and the bodies are as great as they may be.
func TestTypesOfMuch(t *testing.T) {
	const many = 20000
	var names []string
	for i := range many {
		names = append(names, "n"+strconv.Itoa(i))
	}
	var b Body
	for i := range mostParts {
		b.Stmts = append(b.Stmts, Stmt{Kind: 1 + uint8(i%2), Name: names[i], Expr: chain(mostDepth, expr.Neg, named(names[many-1-i]))})
	}
	if at, e := Types(b, names, names); at != 0 || e != api.OK {
		t.Errorf("Types of much: %d, %d", at, e)
	}
	if at, e := Types(b, names[:many-mostParts+1], names); at != 0 || e != api.ErrType {
		t.Errorf("Types of much, with fewer variables: %d, %d", at, e)
	}
	if at, e := Types(b, names, names[:mostParts-1]); at != mostParts-1 || e != api.ErrType {
		t.Errorf("Types of much, with fewer events: %d, %d", at, e)
	}
}

// P11.4

func TestSame(t *testing.T) {
	odd := []Stmt{{Kind: 9, Name: "?"}, {}, {Kind: 1, Name: "", Expr: expr.Expr{Nodes: []expr.Node{{Op: 99, A: 7}}}}}
	bodies := []Body{{}, body(odd...), body(odd[1], odd[1])}
	for _, x := range right {
		if b := body(x.stmts...); !slices.ContainsFunc(bodies, func(c Body) bool { return same(b.Stmts, c.Stmts) }) {
			bodies = append(bodies, b)
		}
	}
	for i, a := range bodies {
		for j, b := range bodies {
			if Same(a, copied(b)) != (i == j) {
				t.Errorf("Same(%v, %v): %t", a, b, i != j)
			}
		}
		for k := range a.Stmts {
			for f, change := range []func(s *Stmt){func(s *Stmt) { s.Kind++ }, func(s *Stmt) { s.Name += "_" }, func(s *Stmt) { s.Name = "other" }, func(s *Stmt) { s.Expr.Nodes = append(s.Expr.Nodes, expr.Node{}) }, func(s *Stmt) { s.Expr = named("other") }} {
				b := copied(a)
				change(&b.Stmts[k])
				if Same(a, b) || Same(b, a) {
					t.Errorf("%v is the same with statement %d changed (%d)", a, k, f)
				}
			}
			for n := range a.Stmts[k].Expr.Nodes {
				b := copied(a)
				b.Stmts[k].Expr.Nodes[n].B++
				if Same(a, b) || Same(b, a) {
					t.Errorf("%v is the same with a node changed", a)
				}
			}
		}
		more := body(append(copied(a).Stmts, sets("x", "1"))...)
		if Same(a, more) || Same(more, a) {
			t.Errorf("%v is the same with one more", a)
		}
	}
	if !Same(Body{}, Body{Stmts: []Stmt{}}) || !Same(body(emits("go", "")), body(Stmt{Kind: 2, Name: "go", Expr: expr.Expr{Nodes: []expr.Node{}}})) {
		t.Error("nothing is not the same as nothing")
	}
	if Same(body(sets("x", "1 + 2 + 3")), body(sets("x", "1 + (2 + 3)"))) || Same(body(sets("x", "1"), emits("go", "")), body(emits("go", ""), sets("x", "1"))) {
		t.Error("others are the same")
	}
}

// P11.5

func TestWhatIsHandedInIsOnlyRead(t *testing.T) {
	r := rand.New(rand.NewSource(117))
	for range 300 {
		b := anyBody(r, 5)
		b.Stmts = append(b.Stmts, sets("more", "1 + x"), Stmt{Kind: 9}, Stmt{Name: "?"})
		for i := range b.Stmts {
			b.Stmts[i].Expr.Nodes = append(slices.Clone(b.Stmts[i].Expr.Nodes), expr.Node{Op: 99})[:len(b.Stmts[i].Expr.Nodes)]
		}
		kept := copied(b)
		vars, events := []string{"y", "x", "arg", "more", "_"}, []string{"y", "go", "x", "more"}
		for n := range b.Stmts {
			part := Body{Stmts: b.Stmts[:n]}
			Check(part)
			Print(part)
			Types(part, vars[:2], events[:2])
			Types(part, vars[:4], events[:3])
			Same(part, b)
			Same(part, part)
		}
		if !same(b.Stmts, kept.Stmts) || !slices.Equal(vars, []string{"y", "x", "arg", "more", "_"}) || !slices.Equal(events, []string{"y", "go", "x", "more"}) {
			t.Fatalf("%v was handed in, and is %v now; %q, %q", kept, b, vars, events)
		}
		for _, s := range b.Stmts {
			if n := len(s.Expr.Nodes); s.Expr.Nodes[:n+1][n] != (expr.Node{Op: 99}) {
				t.Fatalf("%v: there is something else behind the nodes now", s)
			}
		}
	}
}

// within tells whether part lies in the memory of whole.
func within(part, whole string) bool {
	if part == "" || whole == "" {
		return false
	}
	p, w := uintptr(unsafe.Pointer(unsafe.StringData(part))), uintptr(unsafe.Pointer(unsafe.StringData(whole)))
	return p < w+uintptr(len(whole)) && w < p+uintptr(len(part))
}

// texts are all texts in a body.
func texts(b Body) []string {
	var l []string
	for _, s := range b.Stmts {
		l = append(l, s.Name)
		for _, n := range s.Expr.Nodes {
			l = append(l, n.Name)
		}
	}
	return l
}

func TestWhatIsParsedIsNewMemory(t *testing.T) {
	for _, x := range right {
		given := strings.Clone(x.s)
		first, _, _ := Parse(given)
		second, _, _ := Parse(given)
		all := slices.Concat([]string{given}, texts(first), texts(second))
		for i, a := range all {
			for _, b := range all[:i] {
				if within(a, b) {
					t.Fatalf("Parse(%q): not new memory", x.s)
				}
			}
		}
		want := copied(second)
		first.Stmts = append(first.Stmts, Stmt{Kind: 9})
		for i := range first.Stmts {
			nodes := append(first.Stmts[i].Expr.Nodes, expr.Node{Op: 98})
			for k := range nodes {
				nodes[k] = expr.Node{Op: 99}
			}
			first.Stmts[i] = Stmt{Kind: 9, Name: "other"}
		}
		if !same(second.Stmts, want.Stmts) {
			t.Errorf("Parse(%q): another answer, since one was written on: %v", x.s, second)
		}
		expect(t, given, told{x.stmts, 0, api.OK})
	}
}

// What is written behind one statement's nodes is not another one's.
func TestStatementsShareNothing(t *testing.T) {
	for _, x := range right {
		b, _, _ := Parse(x.s)
		want := copied(b)
		for i := range b.Stmts {
			nodes := b.Stmts[i].Expr.Nodes
			for k := range nodes[len(nodes):cap(nodes)] {
				nodes[:cap(nodes)][len(nodes)+k] = expr.Node{Op: 99}
			}
		}
		if !same(b.Stmts, want.Stmts) {
			t.Errorf("Parse(%q): statements share memory", x.s)
		}
	}
}

func TestWhatIsPrintedIsNewMemory(t *testing.T) {
	for _, x := range right {
		b := body(x.stmts...)
		first, _ := Print(b)
		second, _ := Print(b)
		for _, s := range append(texts(b), second) {
			if within(first, s) {
				t.Errorf("Print(%v): not new memory", b)
			}
		}
	}
}

// What was asked in one call is not known in the next one.
func TestNothingIsKept(t *testing.T) {
	b := body(sets("x", "y"), emits("go", "x"))
	for range 3 {
		for _, x := range []struct {
			vars, events []string
			at           int
			e            api.Errno
		}{{[]string{"x", "y"}, []string{"go"}, 0, api.OK}, {[]string{"x"}, []string{"go"}, 0, api.ErrType}, {[]string{"y", "x"}, nil, 1, api.ErrType}, {nil, []string{"go"}, 0, api.ErrType}} {
			if at, e := Types(b, x.vars, x.events); at != x.at || e != x.e {
				t.Errorf("Types(%q, %q): %d, %d", x.vars, x.events, at, e)
			}
		}
		check(t, "x := ;")
		check(t, "x := 1;")
		check(t, "x ! 1;")
	}
}

// P11.6

func TestThereAndBack(t *testing.T) {
	r := rand.New(rand.NewSource(118))
	for range 2000 {
		b := anyBody(r, 6)
		s, e := Print(b)
		if e != api.OK || len(s) > mostBytes {
			t.Fatalf("Print(%v): %d bytes, %d", b, len(s), e)
		}
		c, at, e := Parse(s)
		if !Same(c, b) || !same(c.Stmts, b.Stmts) || at != 0 || e != api.OK {
			t.Fatalf("Parse(%q): %v, %d, %d; not %v", s, c, at, e, b)
		}
	}
	for _, x := range right {
		b, _, _ := Parse(x.s)
		if e := Check(b); e != api.OK {
			t.Errorf("Check of what %q writes: %d", x.s, e)
		}
		s, e := Print(b)
		c, at, f := Parse(s)
		if e != api.OK || !Same(c, b) || at != 0 || f != api.OK {
			t.Errorf("Parse(%q), of what %q writes: %v, %d, %d, %d", s, x.s, c, e, at, f)
		}
	}
}

// Whatever is parsed is right.
func TestWhatIsParsedIsRight(t *testing.T) {
	r := rand.New(rand.NewSource(119))
	all := strings.Fields("x y 1 1 + - ( ) ; ; := := emit true if then else endif")
	found := 0
	for range 20000 {
		l := words(anyBody(r, 2))
		for range r.Intn(3) {
			l = slices.Insert(l, r.Intn(len(l)+1), pick(r, all...))
		}
		b, _, e := Parse(strings.Join(l, " "))
		if e != api.OK {
			continue
		}
		found++
		s, f := Print(b)
		if c, _, g := Parse(s); Check(b) != api.OK || f != api.OK || g != api.OK || !Same(b, c) {
			t.Fatalf("what %q writes is not right, or printed, it is other: %q, %d, %d", strings.Join(l, " "), s, f, g)
		}
	}
	if found < 1000 {
		t.Errorf("only %d were bodies", found)
	}
}

func TestOneBehindTheOther(t *testing.T) {
	for _, x := range right {
		for _, y := range right {
			for _, between := range []string{"\n", " \n", "-- ;\n"} {
				expect(t, x.s+between+y.s, told{slices.Concat(x.stmts, y.stmts), 0, api.OK})
			}
			if !strings.Contains(x.s, "--") {
				expect(t, x.s+y.s, told{slices.Concat(x.stmts, y.stmts), 0, api.OK})
			}
		}
	}
	r := rand.New(rand.NewSource(120))
	for range 500 {
		a, b := anyBody(r, 4), anyBody(r, 4)
		expect(t, spread(r, words(a))+"\n"+spread(r, words(b)), told{slices.Concat(a.Stmts, b.Stmts), 0, api.OK})
	}
}

func TestWithMoreNamesItHasTypes(t *testing.T) {
	r := rand.New(rand.NewSource(121))
	found := 0
	for range 5000 {
		var b Body
		for range r.Intn(4) {
			b.Stmts = append(b.Stmts, anyStmt(r, "x", "y", "go"))
		}
		vars, events := []string{"x", "y"}[:1+r.Intn(2)], []string{"go", "x", "y"}[:1+r.Intn(3)]
		if _, e := Types(b, vars, events); e != api.OK {
			continue
		}
		found++
		for _, more := range [][]string{{"z"}, {"go"}, {"x", "arg", ""}, vars} {
			for _, rows := range [][2][]string{{slices.Concat(vars, more), events}, {slices.Concat(more, vars), events}, {vars, slices.Concat(events, more)}, {slices.Concat(more, vars), slices.Concat(more, events)}} {
				if at, e := Types(b, rows[0], rows[1]); at != 0 || e != api.OK {
					t.Fatalf("Types(%v, %q, %q): %d, %d", b, rows[0], rows[1], at, e)
				}
			}
		}
	}
	if found < 500 {
		t.Errorf("only %d had types", found)
	}
}
