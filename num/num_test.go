package num

import (
	"math/big"
	"math/rand"
	"regexp"
	"slices"
	"strings"
	"testing"

	"hopscotch/api"
)

// The chapter's bounds, as it writes them.
const (
	leastWriting    = "-9223372036854775808"
	greatestWriting = "9223372036854775807"

	least    int64 = -9223372036854775808
	greatest int64 = 9223372036854775807
)

// whole is the integer that digits write, whatever its size.
func whole(digits string) *big.Int {
	n, ok := new(big.Int).SetString(digits, 10)
	if !ok {
		panic("no integer: " + digits)
	}
	return n
}

var lowest, highest = whole(leastWriting), whole(greatestWriting)

// bounded is an integer as a number, if it is one; else ErrOverflow.
func bounded(n *big.Int) (int64, api.Errno) {
	if n.Cmp(lowest) < 0 || n.Cmp(highest) > 0 {
		return 0, api.ErrOverflow
	}
	return n.Int64(), api.OK
}

// two is a call of two numbers.
type two func(a, b int64) (int64, api.Errno)

// exactly is what the chapter's words make of such a call, reckoned without bounds.
func exactly(reckon func(z, a, b *big.Int) *big.Int) two {
	return func(a, b int64) (int64, api.Errno) {
		return bounded(reckon(new(big.Int), big.NewInt(a), big.NewInt(b)))
	}
}

// unless0 is the same, but that the second number may not be 0.
func unless0(does two) two {
	return func(a, b int64) (int64, api.Errno) {
		if b == 0 {
			return 0, api.ErrDivide
		}
		return does(a, b)
	}
}

// calls are all calls of two numbers, each with what the chapter's words tell.
var calls = map[string]struct{ does, told two }{
	"Add": {Add, exactly((*big.Int).Add)},
	"Sub": {Sub, exactly((*big.Int).Sub)},
	"Mul": {Mul, exactly((*big.Int).Mul)},
	"Div": {Div, unless0(exactly((*big.Int).Quo))},
	"Mod": {Mod, unless0(exactly((*big.Int).Rem))},
}

// check holds all calls of two numbers, and Neg, against the chapter's words.
func check(t *testing.T, a, b int64) {
	t.Helper()
	for what, x := range calls {
		n, e := x.does(a, b)
		if told, f := x.told(a, b); n != told || e != f {
			t.Fatalf("%s(%d, %d): %d, %d; told: %d, %d", what, a, b, n, e, told, f)
		}
	}
	n, e := Neg(a)
	if told, f := bounded(new(big.Int).Neg(big.NewInt(a))); n != told || e != f {
		t.Fatalf("Neg(%d): %d, %d; told: %d, %d", a, n, e, told, f)
	}
}

// telling are numbers about which something changes: the bounds, their halves, roots and thirds, and 2 to each power, with their neighbours.
func telling() []int64 {
	var all []int64
	about := func(n int64) {
		for off := int64(-2); off <= 2; off++ {
			all = append(all, n+off, -(n + off))
		}
	}
	for _, n := range []int64{0, 7, 10, least, greatest, greatest / 3, greatest / 10, 3037000499, 3037000500} {
		about(n)
	}
	for power := range 63 {
		about(1 << power)
	}
	slices.Sort(all)
	return slices.Compact(all)
}

// P6.1, P6.2: all calls, held against the chapter's words.

func TestTellingNumbers(t *testing.T) {
	for _, a := range telling() {
		for _, b := range telling() {
			check(t, a, b)
		}
	}
}

func TestSmallNumbers(t *testing.T) {
	for a := int64(-130); a <= 130; a++ {
		for b := int64(-130); b <= 130; b++ {
			check(t, a, b)
		}
	}
}

// Numbers of all lengths, so that many products and sums come near a bound.
func TestManyNumbers(t *testing.T) {
	r := rand.New(rand.NewSource(6))
	next := func() int64 { return int64(r.Uint64()) >> r.Intn(64) }
	for range 300000 {
		check(t, next(), next())
	}
}

// Factors and terms about the last that fit.
func TestAboutEachBound(t *testing.T) {
	for _, a := range telling() {
		for _, bound := range []int64{least, greatest} {
			for off := int64(-2); off <= 2; off++ {
				check(t, a, bound-a+off)
				check(t, a, a-bound+off)
				if a != 0 {
					check(t, a, bound/a+off)
				}
			}
		}
	}
}

// P6.1

func TestAddSubMulNeg(t *testing.T) {
	for _, x := range []struct {
		what string
		does two
		a, b int64
		n    int64
		e    api.Errno
	}{
		{"Add", Add, 0, 0, 0, api.OK}, {"Add", Add, 2, 3, 5, api.OK}, {"Add", Add, 2, -3, -1, api.OK}, {"Add", Add, -2, -3, -5, api.OK},
		{"Add", Add, greatest, 0, greatest, api.OK}, {"Add", Add, least, 0, least, api.OK}, {"Add", Add, 0, least, least, api.OK}, {"Add", Add, greatest, least, -1, api.OK}, {"Add", Add, greatest - 1, 1, greatest, api.OK}, {"Add", Add, least + 1, -1, least, api.OK},
		{"Add", Add, greatest, 1, 0, api.ErrOverflow}, {"Add", Add, 1, greatest, 0, api.ErrOverflow}, {"Add", Add, least, -1, 0, api.ErrOverflow}, {"Add", Add, -1, least, 0, api.ErrOverflow}, {"Add", Add, greatest, greatest, 0, api.ErrOverflow}, {"Add", Add, least, least, 0, api.ErrOverflow},
		{"Sub", Sub, 2, 3, -1, api.OK}, {"Sub", Sub, 2, -3, 5, api.OK}, {"Sub", Sub, least, least, 0, api.OK}, {"Sub", Sub, greatest, greatest, 0, api.OK}, {"Sub", Sub, -1, least, greatest, api.OK}, {"Sub", Sub, -1, greatest, least, api.OK}, {"Sub", Sub, 0, greatest, -greatest, api.OK},
		{"Sub", Sub, 0, least, 0, api.ErrOverflow}, {"Sub", Sub, least, 1, 0, api.ErrOverflow}, {"Sub", Sub, greatest, -1, 0, api.ErrOverflow}, {"Sub", Sub, least, greatest, 0, api.ErrOverflow}, {"Sub", Sub, greatest, least, 0, api.ErrOverflow}, {"Sub", Sub, -2, greatest, 0, api.ErrOverflow},
		{"Mul", Mul, -4, 5, -20, api.OK}, {"Mul", Mul, -4, -5, 20, api.OK}, {"Mul", Mul, 0, least, 0, api.OK}, {"Mul", Mul, least, 0, 0, api.OK}, {"Mul", Mul, least, 1, least, api.OK}, {"Mul", Mul, 1, least, least, api.OK}, {"Mul", Mul, greatest, -1, -greatest, api.OK},
		{"Mul", Mul, 1 << 62, -2, least, api.OK}, {"Mul", Mul, -2, 1 << 62, least, api.OK}, {"Mul", Mul, 3037000499, 3037000499, 9223372030926249001, api.OK},
		{"Mul", Mul, least, -1, 0, api.ErrOverflow}, {"Mul", Mul, -1, least, 0, api.ErrOverflow}, {"Mul", Mul, 1 << 62, 2, 0, api.ErrOverflow}, {"Mul", Mul, 1 << 32, 1 << 32, 0, api.ErrOverflow}, {"Mul", Mul, least, least, 0, api.ErrOverflow}, {"Mul", Mul, least, 2, 0, api.ErrOverflow}, {"Mul", Mul, 3037000500, 3037000500, 0, api.ErrOverflow}, {"Mul", Mul, greatest, greatest, 0, api.ErrOverflow},
	} {
		if n, e := x.does(x.a, x.b); n != x.n || e != x.e {
			t.Errorf("%s(%d, %d): %d, %d", x.what, x.a, x.b, n, e)
		}
	}
	for a, want := range map[int64]int64{0: 0, 1: -1, -1: 1, greatest: -greatest, least + 1: greatest} {
		if n, e := Neg(a); n != want || e != api.OK {
			t.Errorf("Neg(%d): %d, %d", a, n, e)
		}
	}
	if n, e := Neg(least); n != 0 || e != api.ErrOverflow {
		t.Errorf("Neg of the least: %d, %d", n, e)
	}
}

// P6.2

func TestDivMod(t *testing.T) {
	for _, x := range []struct{ a, b, quotient, rest int64 }{
		{7, 2, 3, 1}, {-7, 2, -3, -1}, {7, -2, -3, 1}, {-7, -2, 3, -1}, {6, 3, 2, 0}, {-6, 3, -2, 0}, {6, -3, -2, 0}, {1, 2, 0, 1}, {-1, 2, 0, -1}, {0, 5, 0, 0}, {0, least, 0, 0},
		{least, 1, least, 0}, {least, least, 1, 0}, {least, greatest, -1, -1}, {greatest, least, 0, greatest}, {least, 2, -1 << 62, 0}, {least, 10, -922337203685477580, -8}, {greatest, -1, -greatest, 0}, {greatest, 10, 922337203685477580, 7}, {least + 1, -1, greatest, 0},
	} {
		if n, e := Div(x.a, x.b); n != x.quotient || e != api.OK {
			t.Errorf("Div(%d, %d): %d, %d", x.a, x.b, n, e)
		}
		if n, e := Mod(x.a, x.b); n != x.rest || e != api.OK {
			t.Errorf("Mod(%d, %d): %d, %d", x.a, x.b, n, e)
		}
	}
	if n, e := Div(least, -1); n != 0 || e != api.ErrOverflow {
		t.Errorf("Div(least, -1): %d, %d", n, e)
	}
	if n, e := Mod(least, -1); n != 0 || e != api.OK {
		t.Errorf("Mod(least, -1): %d, %d", n, e)
	}
}

func TestDivModBy0(t *testing.T) {
	for _, a := range telling() {
		if n, e := Div(a, 0); n != 0 || e != api.ErrDivide {
			t.Errorf("Div(%d, 0): %d, %d", a, n, e)
		}
		if n, e := Mod(a, 0); n != 0 || e != api.ErrDivide {
			t.Errorf("Mod(%d, 0): %d, %d", a, n, e)
		}
	}
}

// P6.3

// toldSum adds without bounds, and holds what it has against them behind each number.
func toldSum(l []int64) (int64, api.Errno) {
	sum := new(big.Int)
	for _, n := range l {
		if _, e := bounded(sum.Add(sum, big.NewInt(n))); e != api.OK {
			return 0, e
		}
	}
	return sum.Int64(), api.OK
}

func TestSum(t *testing.T) {
	for _, x := range []struct {
		l []int64
		n int64
		e api.Errno
	}{
		{nil, 0, api.OK}, {[]int64{}, 0, api.OK}, {[]int64{5}, 5, api.OK}, {[]int64{least}, least, api.OK}, {[]int64{1, 2, 3, -10}, -4, api.OK}, {[]int64{2, 2, 2}, 6, api.OK}, {[]int64{0, 0}, 0, api.OK},
		{[]int64{greatest, -1, 1}, greatest, api.OK}, {[]int64{greatest, least, least, greatest, 2}, 0, api.ErrOverflow}, {[]int64{greatest, least, greatest, 1}, greatest, api.OK}, {[]int64{greatest, least, greatest, 2}, 0, api.ErrOverflow},
		{[]int64{greatest, 1, -1}, 0, api.ErrOverflow}, {[]int64{least, -1, 1}, 0, api.ErrOverflow}, {[]int64{least, 1, -1}, least, api.OK}, {[]int64{1, -1, greatest}, greatest, api.OK}, {[]int64{1, greatest, -1}, 0, api.ErrOverflow}, {[]int64{-1, least, 1}, 0, api.ErrOverflow},
		{[]int64{greatest, greatest, 2}, 0, api.ErrOverflow}, {[]int64{least, least}, 0, api.ErrOverflow}, {[]int64{1, greatest}, 0, api.ErrOverflow},
	} {
		if n, e := Sum(x.l...); n != x.n || e != x.e {
			t.Errorf("Sum(%d): %d, %d", x.l, n, e)
		}
	}
}

func TestSumsOfAFew(t *testing.T) {
	few := []int64{least, least + 1, least / 2, -2, -1, 0, 1, 2, greatest/2 + 1, greatest - 1, greatest}
	var try func(l []int64)
	try = func(l []int64) {
		n, e := Sum(l...)
		if told, f := toldSum(l); n != told || e != f {
			t.Fatalf("Sum(%d): %d, %d; told: %d, %d", l, n, e, told, f)
		}
		if len(l) < 4 {
			for _, n := range few {
				try(append(slices.Clone(l), n))
			}
		}
	}
	try(nil)
}

func TestSumOfMany(t *testing.T) {
	many := make([]int64, 1<<20)
	for i := range many {
		many[i] = greatest >> 20
	}
	if n, e := Sum(many...); n != greatest>>20<<20 || e != api.OK {
		t.Errorf("Sum of many: %d, %d", n, e)
	}
	many[0] += 1 << 20
	if n, e := Sum(many...); n != 0 || e != api.ErrOverflow {
		t.Errorf("Sum of many, and more: %d, %d", n, e)
	}
}

// What is handed in is not changed, nor what lies behind it in its memory.
func TestSumOnlyReads(t *testing.T) {
	all := []int64{3, greatest, 1, -1, least, 7}
	kept := slices.Clone(all)
	for from := range all {
		for to := from; to <= len(all); to++ {
			Sum(all[from:to]...)
		}
	}
	if !slices.Equal(all, kept) {
		t.Errorf("changed: %d", all)
	}
}

// P6.4

var writing = regexp.MustCompile(`\A(?:0|-?[1-9][0-9]*)\z`)

// checkParse holds Parse against the chapter's words, and what it tells against Put.
func checkParse(t *testing.T, s string) {
	t.Helper()
	told, f := int64(0), api.ErrArg
	if writing.MatchString(s) {
		told, f = bounded(whole(s))
	}
	n, e := Parse(s)
	if n != told || e != f {
		t.Fatalf("Parse(%q): %d, %d; told: %d, %d", s, n, e, told, f)
	}
	if put := Put(n); e == api.OK && put != s {
		t.Fatalf("Put(%d): %q, not %q", n, put, s)
	}
}

func TestWritings(t *testing.T) {
	for s, want := range map[string]int64{
		"0": 0, "1": 1, "9": 9, "-1": -1, "-9": -9, "10": 10, "-10": -10, "100": 100, "1234567890": 1234567890, "-9876543210": -9876543210,
		"999999999999999999": 999999999999999999, "1000000000000000000": 1000000000000000000, "-1000000000000000000": -1000000000000000000,
		greatestWriting: greatest, "9223372036854775806": greatest - 1, leastWriting: least, "-9223372036854775807": least + 1,
	} {
		if n, e := Parse(s); n != want || e != api.OK {
			t.Errorf("Parse(%q): %d, %d", s, n, e)
		}
		if put := Put(want); put != s {
			t.Errorf("Put(%d): %q, not %q", want, put, s)
		}
	}
}

// wrong are texts that write no number, each with its cause.
var wrong = map[string]string{
	"nothing": "", "a - alone": "-", "- and 0": "-0", "- and noughts": "-00", "two noughts": "00", "a nought ahead": "01", "two ahead": "007", "a nought behind the -": "-01",
	"a +": "+1", "+0": "+0", "a + alone": "+", "two -": "--1", "- and +": "-+1", "+ and -": "+-1", "a - behind": "1-", "a - within": "1-1", "a - behind 0": "0-",
	"a blank ahead": " 1", "a blank behind": "1 ", "a blank within": "1 1", "a blank behind the -": "- 1", "a blank": " ", "an end of line behind": "1\n", "a tab ahead": "\t1",
	"a _": "1_0", "a _ ahead": "_1", "a comma": "1,000", "a point": "1.0", "a point behind": "1.", "an exponent": "1e3", "the base 16": "0x1", "the base 16, negative": "-0x1", "the base 8": "0o7", "the base 2": "0b1", "a digit to the base 16": "a", "f": "1f",
	"a letter": "x", "a letter behind": "1x", "a letter ahead": "x1", "ahead of 0": "/", "behind 9": ":", "ahead of 0, within": "1/", "behind 9, within": "1:",
	"nought's byte": "\x00", "nought's byte behind": "1\x00", "no character": "1\xff", "digits of another script": "\u0661", "a digit of another script behind": "1\u0662", "wide digits": "\uff11", "a true minus": "\u22121",
	"infinity": "inf", "no number": "NaN", "Go's greatest": "math.MaxInt64",
	"too great, and a letter": "99999999999999999999x", "too little, and a letter": "-99999999999999999999x", "just too great, and a blank": "9223372036854775808 ", "much too great, and a -": strings.Repeat("9", 100) + "-",
	"the greatest, with a nought ahead": "0" + greatestWriting, "the least, with a nought ahead": "-0" + leastWriting[1:], "too great, with a nought ahead": "09223372036854775808", "too little, with a nought ahead": "-09223372036854775809", "too great, with a +": "+9223372036854775808", "the greatest, with a +": "+" + greatestWriting,
	"many noughts": strings.Repeat("0", 100), "many noughts, and 1": strings.Repeat("0", 100) + "1",
}

func TestNoWritings(t *testing.T) {
	for why, s := range wrong {
		if n, e := Parse(s); n != 0 || e != api.ErrArg {
			t.Errorf("%s: Parse(%q): %d, %d", why, s, n, e)
		}
	}
}

func TestWritingsBeyondTheBounds(t *testing.T) {
	for _, s := range []string{
		"9223372036854775808", "9223372036854775809", "9223372036854775810", "9300000000000000000", "10000000000000000000", "18446744073709551615", "18446744073709551616", "18446744073709551617", "99999999999999999999", "100000000000000000000", "340282366920938463463374607431768211457",
		"1" + strings.Repeat("0", 1000), strings.Repeat("9", 1<<20),
	} {
		if n, e := Parse(s); n != 0 || e != api.ErrOverflow {
			t.Errorf("Parse of %d bytes, %.30q: %d, %d", len(s), s, n, e)
		}
		if s == "9223372036854775808" {
			continue
		}
		if n, e := Parse("-" + s); n != 0 || e != api.ErrOverflow {
			t.Errorf("Parse of - and %d bytes, %.30q: %d, %d", len(s), s, n, e)
		}
	}
}

func TestLongTexts(t *testing.T) {
	long := strings.Repeat("1", 1<<22)
	for s, want := range map[string]api.Errno{
		long: api.ErrOverflow, "-" + long: api.ErrOverflow, long + " ": api.ErrArg, "0" + long: api.ErrArg, "-0" + long: api.ErrArg, "+" + long: api.ErrArg, long + "-" + long: api.ErrArg, "--" + long: api.ErrArg, strings.Repeat("-", 1<<22): api.ErrArg, strings.Repeat("0", 1<<22): api.ErrArg,
	} {
		if n, e := Parse(s); n != 0 || e != want {
			t.Errorf("Parse of %d bytes, %.10q: %d, %d", len(s), s, n, e)
		}
	}
}

func TestEveryByteAtEachPlace(t *testing.T) {
	for b := range 256 {
		in := string([]byte{byte(b)})
		for _, s := range []string{"", "0", "1", "-", "-1", "10", "-90", greatestWriting, leastWriting, "99999999999999999999", "-99999999999999999999"} {
			for at := range len(s) + 1 {
				checkParse(t, s[:at]+in+s[at:])
				if at < len(s) {
					checkParse(t, s[:at]+in+s[at+1:])
				}
			}
		}
	}
}

func TestAllShortTexts(t *testing.T) {
	var try func(s string)
	try = func(s string) {
		checkParse(t, s)
		if len(s) < 6 {
			for _, next := range []string{"0", "1", "9", "-", "+", " ", "x"} {
				try(s + next)
			}
		}
	}
	try("")
}

// Each number of 1 to 21 digits that is about a power of ten, or about a bound.
func TestWritingsOfAllLengths(t *testing.T) {
	ten, power := big.NewInt(10), big.NewInt(1)
	abouts := []*big.Int{lowest, highest}
	for range 21 {
		abouts = append(abouts, power)
		power = new(big.Int).Mul(power, ten)
	}
	for _, about := range abouts {
		for off := int64(-200); off <= 200; off++ {
			n := new(big.Int).Add(about, big.NewInt(off))
			checkParse(t, n.String())
			checkParse(t, n.Neg(n).String())
			checkParse(t, "0"+n.String())
		}
	}
}

// P6.5

func TestPutIsParsed(t *testing.T) {
	r := rand.New(rand.NewSource(65))
	all := telling()
	for range 100000 {
		all = append(all, int64(r.Uint64())>>r.Intn(64))
	}
	for _, n := range all {
		s := Put(n)
		if s != big.NewInt(n).String() {
			t.Errorf("Put(%d): %q", n, s)
		}
		if back, e := Parse(s); back != n || e != api.OK {
			t.Errorf("Parse(%q): %d, %d", s, back, e)
		}
	}
}

func TestQuotientAndRest(t *testing.T) {
	for _, a := range telling() {
		for _, b := range telling() {
			quotient, e := Div(a, b)
			if e != api.OK {
				continue
			}
			rest, e := Mod(a, b)
			if e != api.OK {
				t.Fatalf("Mod(%d, %d): %d", a, b, e)
			}
			product, e := Mul(b, quotient)
			if e != api.OK {
				t.Fatalf("Mul(%d, %d): %d", b, quotient, e)
			}
			if together, e := Add(product, rest); together != a || e != api.OK {
				t.Errorf("%d, by %d: %d, %d; together: %d, %d", a, b, quotient, rest, together, e)
			}
			if big.NewInt(rest).CmpAbs(big.NewInt(b)) >= 0 {
				t.Errorf("Mod(%d, %d): %d", a, b, rest)
			}
			if rest != 0 && (rest < 0) != (a < 0) {
				t.Errorf("Mod(%d, %d): %d, of another sign", a, b, rest)
			}
		}
	}
}

func TestSumLessB(t *testing.T) {
	for _, a := range telling() {
		for _, b := range telling() {
			sum, e := Add(a, b)
			if e != api.OK {
				continue
			}
			if back, e := Sub(sum, b); back != a || e != api.OK {
				t.Errorf("Sub(%d, %d): %d, %d, not %d", sum, b, back, e, a)
			}
		}
	}
}
