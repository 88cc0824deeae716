package model

import (
	"math"
	"math/rand"
	"regexp"
	"slices"
	"strconv"
	"strings"
	"testing"
	"unsafe"

	"hopscotch/api"
)

// The chapter's bounds and kinds, as their own numbers.
const (
	mostParts = 512
	mostVars  = 64
	mostDepth = 64
	mostName  = 64
	mostBytes = 4096
	mostAfter = 65535

	state = 1
	final = 2
	begin = 3
	entry = 10
	exit  = 11
	kinds = 12

	least    = math.MinInt64
	greatest = math.MaxInt64
)

// told is what Right tells.
type told struct {
	part uint8
	at   int
	e    api.Errno
}

// right is what Right must tell of a model that breaks no rule.
var right = told{}

// wrong is what Right must tell of a part that breaks a rule, tooMany of one more than there may be.
func wrong(part uint8, at int) told   { return told{part, at, 130} }
func tooMany(part uint8, at int) told { return told{part, at, 3} }

// asked is what Right tells.
func asked(m Model) told {
	part, at, e := Right(m)
	return told{part, at, e}
}

// expect holds what Right tells against what it is to tell.
func expect(t *testing.T, what string, m Model, want told) {
	t.Helper()
	if got := asked(m); got != want {
		t.Fatalf("%s: %v, not %v", what, got, want)
	}
}

// plain is the chapter's example: one region, an Initial, a State s, a transition from the first to the second.
func plain() Model {
	return Model{
		Name:        "M",
		Regions:     []Region{{Owner: -1}},
		Vertices:    []Vertex{{Kind: begin, Of: -1}, {Name: "s", Kind: state, Of: -1}},
		Transitions: []Transition{{Source: 0, Target: 1, Kind: 1}},
	}
}

// door is a right model that has all that a model may have: regions in a state in a state, a submachine, vertices of all kinds.
func door() Model {
	m := Model{
		Name:   "Door",
		Vars:   []Var{{"n", -1}, {"most", greatest}},
		Events: []string{"open", "lock", "arg"},
		Regions: []Region{
			{"top", -1}, {"leaf", 1}, {"", 1}, {"leaf", 2},
		},
		Vertices: []Vertex{
			{Name: "", Kind: begin, Region: 0, Of: -1},
			{Name: "Door", Kind: state, Region: 0, Of: -1, Entry: "n := 1;", Exit: "no text", Defers: []string{"lock", "arg"}},
			{Name: "Wide", Kind: state, Region: 2, Of: -1, Defers: []string{"lock"}},
			{Name: "Sub", Kind: state, Region: 3, Of: -1, Sub: "Lock"},
			{Name: "in", Kind: entry, Region: -1, Of: 3},
			{Name: "out", Kind: exit, Region: -1, Of: 1},
		},
		Transitions: []Transition{
			{Name: "", Source: 0, Target: 1, Kind: 1},
			{Name: "t", Source: 1, Target: 2, Triggers: []string{"open", "lock"}, Guard: "n < most", Effect: "n := 2;", Kind: 2},
			{Name: "late", Source: 2, Target: 1, After: 5, Kind: 3},
			{Name: "late", Source: 4, Target: 5, Kind: 1},
		},
	}
	for k := range uint8(kinds) {
		if k+1 != entry && k+1 != exit {
			m.Vertices = append(m.Vertices, Vertex{Kind: k + 1, Region: int(k) % 4, Of: -1})
		}
	}
	return m
}

// nest is a model with a state in a state, in all that many of them: vertex i is i deep. The last one has a vertex of that kind.
func nest(states int, last uint8) Model {
	m := Model{Name: "N", Regions: []Region{{Owner: -1}}}
	for i := range states {
		m.Vertices = append(m.Vertices, Vertex{Kind: state, Region: i, Of: -1})
		m.Regions = append(m.Regions, Region{Owner: i})
	}
	if last == entry || last == exit {
		m.Vertices = append(m.Vertices, Vertex{Kind: last, Region: -1, Of: states - 1})
	} else {
		m.Vertices = append(m.Vertices, Vertex{Kind: last, Region: states, Of: -1})
	}
	return m
}

// form is how a name is written, words are what no name may be.
var (
	form  = regexp.MustCompile("^[A-Za-z_][A-Za-z0-9_]{0,63}$")
	words = strings.Fields("and div else emit endif false if implies mod not or then true xor")
)

func shouldBeName(s string) bool { return form.MatchString(s) && !slices.Contains(words, s) }

// onceOf tells whether names are all among some, none of them twice.
func onceOf(names, some []string) bool {
	times := map[string]int{}
	for _, s := range names {
		times[s]++
	}
	for _, s := range names {
		if times[s] > 1 || !slices.Contains(some, s) {
			return false
		}
	}
	return true
}

// shouldTell tells by the chapter's words what Right must tell. What holds of a part is asked of it alone, and of all places, rule by rule.
func shouldTell(m Model) told {
	if !shouldBeName(m.Name) {
		return wrong(1, 0)
	}
	rows := []struct {
		part        uint8
		count, most int
		holds       func(at int) bool
	}{
		{2, len(m.Vars), mostVars, func(at int) bool {
			first := slices.IndexFunc(m.Vars, func(v Var) bool { return v.Name == m.Vars[at].Name })
			return first == at && shouldBeName(m.Vars[at].Name) && m.Vars[at].Name != "arg"
		}},
		{3, len(m.Events), mostVars, func(at int) bool {
			return slices.Index(m.Events, m.Events[at]) == at && shouldBeName(m.Events[at])
		}},
		{4, max(1, len(m.Regions)), mostParts, func(at int) bool { return len(m.Regions) > 0 && regionHolds(m, at) }},
		{5, len(m.Vertices), mostParts, func(at int) bool { return vertexHolds(m, m.Vertices[at]) }},
		{5, len(m.Vertices), mostParts, func(at int) bool { return shouldBeDeep(m, at) <= mostDepth }},
		{6, len(m.Transitions), mostParts, func(at int) bool { return transitionHolds(m, m.Transitions[at]) }},
	}
	for _, x := range rows {
		for at := range min(x.count, x.most) {
			if !x.holds(at) {
				return wrong(x.part, at)
			}
		}
		if x.count > x.most {
			return tooMany(x.part, x.most)
		}
	}
	return right
}

func regionHolds(m Model, at int) bool {
	r := m.Regions[at]
	if r.Name != "" && !shouldBeName(r.Name) {
		return false
	}
	if at == 0 {
		return r.Owner == -1
	}
	for i, v := range m.Vertices {
		if i == r.Owner {
			return v.Kind == state && v.Sub == ""
		}
	}
	return false
}

func vertexHolds(m Model, v Vertex) bool {
	if v.Name != "" && !shouldBeName(v.Name) || v.Kind == 0 || v.Kind > kinds {
		return false
	}
	if v.Kind == entry || v.Kind == exit {
		if v.Region != -1 || v.Of < 0 || v.Of >= len(m.Vertices) || m.Vertices[v.Of].Kind != state {
			return false
		}
	} else if v.Of != -1 || v.Region < 0 || v.Region >= len(m.Regions) {
		return false
	}
	if v.Kind != state && v.Entry+v.Exit+v.Sub != "" || v.Kind != state && len(v.Defers) > 0 {
		return false
	}
	if len(v.Entry) > mostBytes || len(v.Exit) > mostBytes || v.Sub != "" && !shouldBeName(v.Sub) {
		return false
	}
	return onceOf(v.Defers, m.Events)
}

func transitionHolds(m Model, x Transition) bool {
	if x.Name != "" && !shouldBeName(x.Name) || x.Kind == 0 || x.Kind > 3 {
		return false
	}
	if x.Source < 0 || x.Source >= len(m.Vertices) || x.Target < 0 || x.Target >= len(m.Vertices) {
		return false
	}
	if x.After < 0 || x.After > mostAfter || x.After != 0 && len(x.Triggers) > 0 {
		return false
	}
	return onceOf(x.Triggers, m.Events) && len(x.Guard) <= mostBytes && len(x.Effect) <= mostBytes
}

// shouldBeDeep counts the states in which a vertex lies, all of which are gathered; what lies in itself is deeper than all of them.
func shouldBeDeep(m Model, v int) int {
	lies := map[int]bool{}
	for at := v; ; {
		x := m.Vertices[at]
		s := x.Of
		if s < 0 {
			s = m.Regions[x.Region].Owner
		}
		if s < 0 {
			return len(lies)
		}
		if lies[s] {
			return mostParts + 1
		}
		lies[s] = true
		at = s
	}
}

// change is one that may be made to a model.
type change func(m *Model)

// put changes a model as long as it has that many parts.
func put[T any](row func(m *Model) []T, at int, set func(x *T)) change {
	return func(m *Model) {
		if l := row(m); at < len(l) {
			set(&l[at])
		}
	}
}

func putVar(at int, set func(x *Var)) change {
	return put(func(m *Model) []Var { return m.Vars }, at, set)
}
func putEvent(at int, s string) change {
	return put(func(m *Model) []string { return m.Events }, at, func(x *string) { *x = s })
}
func putRegion(at int, set func(x *Region)) change {
	return put(func(m *Model) []Region { return m.Regions }, at, set)
}
func putVertex(at int, set func(x *Vertex)) change {
	return put(func(m *Model) []Vertex { return m.Vertices }, at, set)
}
func putTransition(at int, set func(x *Transition)) change {
	return put(func(m *Model) []Transition { return m.Transitions }, at, set)
}

// oddNames are some that are names, and some that are none; oddPlaces, oddRows and oddTexts are alike.
var (
	oddNames  = []string{"", "x", "arg", "open", "n", "if", "endif", "1a", "a b", "a-b", " a", "a ", "--", "_", "Emit", "emit", "\xff", "é", "a\x00", strings.Repeat("n", mostName), strings.Repeat("n", mostName+1)}
	oddPlaces = []int{least, -2, -1, 0, 1, 2, 3, 4, 5, 6, 14, 15, 16, mostParts, greatest}
	oddTexts  = []string{"", "\xff", strings.Repeat("t", mostBytes), strings.Repeat("t", mostBytes+1)}
	oddRows   = [][]string{nil, {}, {"open"}, {"lock", "open"}, {"open", "open"}, {"open", "stop"}, {"stop"}, {""}, {"arg", "lock", "open"}, {"open", "lock", "arg", "open"}}
)

// manyChanges are all single ones that tell something, of the first places of a model.
func manyChanges() []change {
	l := []change{
		func(m *Model) { m.Vars = nil },
		func(m *Model) { m.Events = nil },
		func(m *Model) { m.Regions = nil },
		func(m *Model) { m.Vertices = nil },
		func(m *Model) { m.Transitions = nil },
	}
	for _, s := range oddNames {
		l = append(l, func(m *Model) { m.Name = s })
		for at := range 3 {
			l = append(l, putVar(at, func(x *Var) { x.Name = s }), putEvent(at, s))
			l = append(l, putRegion(at, func(x *Region) { x.Name = s }))
			l = append(l, putVertex(at, func(x *Vertex) { x.Name = s }))
			l = append(l, putVertex(at, func(x *Vertex) { x.Sub = s }))
			l = append(l, putTransition(at, func(x *Transition) { x.Name = s }))
		}
	}
	for _, n := range oddPlaces {
		for at := range 6 {
			l = append(l, putRegion(at, func(x *Region) { x.Owner = n }))
			l = append(l, putVertex(at, func(x *Vertex) { x.Region = n }))
			l = append(l, putVertex(at, func(x *Vertex) { x.Of = n }))
			l = append(l, putTransition(at, func(x *Transition) { x.Source = n }))
			l = append(l, putTransition(at, func(x *Transition) { x.Target = n }))
		}
	}
	for at := range 6 {
		for _, s := range oddTexts {
			l = append(l, putVertex(at, func(x *Vertex) { x.Entry = s }), putVertex(at, func(x *Vertex) { x.Exit = s }))
			l = append(l, putTransition(at, func(x *Transition) { x.Guard = s }), putTransition(at, func(x *Transition) { x.Effect = s }))
		}
		for _, names := range oddRows {
			l = append(l, putVertex(at, func(x *Vertex) { x.Defers = names }))
			l = append(l, putTransition(at, func(x *Transition) { x.Triggers = names }))
		}
		for _, k := range []uint8{0, 1, 2, 3, 4, 9, 10, 11, 12, 13, 128, 255} {
			l = append(l, putVertex(at, func(x *Vertex) { x.Kind = k }), putTransition(at, func(x *Transition) { x.Kind = k }))
		}
		for _, n := range []int{least, -1, 0, 1, mostAfter, mostAfter + 1, 1 << 16 << 16, greatest} {
			l = append(l, putTransition(at, func(x *Transition) { x.After = n }))
		}
	}
	return l
}

// copyOf is a model in memory of its own, made by the test's own means.
func copyOf(m Model) Model {
	m.Vars, m.Events, m.Regions = slices.Clone(m.Vars), slices.Clone(m.Events), slices.Clone(m.Regions)
	m.Vertices, m.Transitions = slices.Clone(m.Vertices), slices.Clone(m.Transitions)
	for i := range m.Vertices {
		m.Vertices[i].Defers = slices.Clone(m.Vertices[i].Defers)
	}
	for i := range m.Transitions {
		m.Transitions[i].Triggers = slices.Clone(m.Transitions[i].Triggers)
	}
	return m
}

func pick[T any](r *rand.Rand, l ...T) T { return l[r.Intn(len(l))] }

// anyNames are some names, mostly of a model's events.
func anyNames(r *rand.Rand) []string {
	var l []string
	for range r.Intn(4) {
		l = append(l, pick(r, "a", "b", "c", "d", "arg", "x"))
	}
	return slices.Compact(l)
}

// anyModel is a model made by chance, more often right than wrong in each of its parts.
func anyModel(r *rand.Rand) Model {
	m := Model{Name: pick(r, "M", "M", "M", "N", "x9", "if")}
	for i := range r.Intn(4) {
		m.Vars = append(m.Vars, Var{pick(r, "v", "w", "n") + strconv.Itoa(i*r.Intn(20)), r.Int63()})
	}
	m.Events = []string{"a", "b", "c", "d", "arg", "x"}[:r.Intn(7)]
	states, others := 1+r.Intn(6), r.Intn(6)
	m.Regions = []Region{{Owner: -1}}
	for range r.Intn(8) {
		m.Regions = append(m.Regions, Region{Owner: r.Intn(states + r.Intn(2))})
	}
	for range states {
		v := Vertex{Kind: state, Region: r.Intn(len(m.Regions)), Of: -1, Entry: pick(r, "", "n := 1;"), Sub: pick(r, "", "", "", "", "S")}
		if r.Intn(3) == 0 {
			v.Defers = anyNames(r)
		}
		m.Vertices = append(m.Vertices, v)
	}
	for range others {
		v := Vertex{Kind: uint8(2 + r.Intn(kinds)), Region: r.Intn(len(m.Regions)), Of: -1}
		if v.Kind == entry || v.Kind == exit {
			v.Region, v.Of = -1, r.Intn(states+r.Intn(2))
		}
		m.Vertices = append(m.Vertices, v)
	}
	for range r.Intn(6) {
		x := Transition{Source: r.Intn(len(m.Vertices) + 1), Target: r.Intn(len(m.Vertices)), Kind: uint8(1 + r.Intn(3))}
		if x.After = pick(r, 0, 0, 1, mostAfter); r.Intn(3) == 0 {
			x.Triggers = anyNames(r)
		}
		m.Transitions = append(m.Transitions, x)
	}
	return m
}

// P13.1

func TestExamples(t *testing.T) {
	expect(t, "plain", plain(), right)
	m := plain()
	m.Regions[0].Owner = 1
	expect(t, "the region's owner", m, wrong(4, 0))
	m = plain()
	m.Vertices[1].Region = 3
	expect(t, "the vertex's region", m, wrong(5, 1))
	m = plain()
	m.Transitions[0].Kind = 4
	expect(t, "the transition's kind", m, wrong(6, 0))
}

func TestRightOfRightOnes(t *testing.T) {
	expect(t, "door", door(), right)
	expect(t, "only a region", Model{Name: "M", Regions: []Region{{Owner: -1}}}, right)
	expect(t, "only a region with a name", Model{Name: "arg", Regions: []Region{{"arg", -1}}}, right)
	expect(t, "nothing", Model{}, wrong(1, 0))
	expect(t, "no region", Model{Name: "M"}, wrong(4, 0))
	expect(t, "no region, an empty row", Model{Name: "M", Regions: []Region{}}, wrong(4, 0))
}

// Names are those of chapter 7, with each byte at each place, and of each length.
func TestNames(t *testing.T) {
	var l []string
	for b := range 256 {
		c := string([]byte{byte(b)})
		l = append(l, c, c+"a", "a"+c, "a"+c+"a", "_9"+c)
	}
	for n := range mostName + 3 {
		l = append(l, strings.Repeat("n", n), strings.Repeat("_", n))
	}
	for _, w := range words {
		l = append(l, w, w+"s", strings.ToUpper(w), " "+w, "_"+w)
	}
	l = append(l, "a -- b", "--", "a:=1", "12", "1a", "é", "a\n", "a;")
	for _, s := range l {
		is := shouldBeName(s)
		m := door()
		m.Name = s
		expectName(t, "model's", s, m, is, 1, 0)
		m = door()
		m.Vars[1].Name = s
		expectName(t, "variable's", s, m, is && s != "n" && s != "arg", 2, 1)
		m = door()
		m.Events = append(m.Events, s)
		expectName(t, "event's", s, m, is && s != "arg", 3, 3)
		m = door()
		m.Regions[2].Name = s
		expectName(t, "region's", s, m, is || s == "", 4, 2)
		m = door()
		m.Vertices[2].Name = s
		expectName(t, "vertex's", s, m, is || s == "", 5, 2)
		m = door()
		m.Vertices[3].Sub = s
		expectName(t, "other model's", s, m, is || s == "", 5, 3)
		m = door()
		m.Transitions[1].Name = s
		expectName(t, "transition's", s, m, is || s == "", 6, 1)
		m = door()
		m.Vertices[1].Defers[1] = s
		expectName(t, "deferred event's", s, m, s == "arg", 5, 1)
		m = door()
		m.Transitions[1].Triggers[1] = s
		expectName(t, "trigger's", s, m, s == "arg", 6, 1)
	}
}

// expectName holds what Right tells of a model with a name that may stand there, or may not.
func expectName(t *testing.T, whose, s string, m Model, may bool, part uint8, at int) {
	t.Helper()
	want := right
	if !may {
		want = wrong(part, at)
	}
	if got := asked(m); got != want {
		t.Fatalf("the %s name %q: %v, not %v", whose, s, got, want)
	}
}

func TestFirstRegionsName(t *testing.T) {
	for s, want := range map[string]told{"": right, "r": right, "1": wrong(4, 0), "if": wrong(4, 0)} {
		m := door()
		m.Regions[0].Name = s
		expect(t, s, m, want)
	}
}

func TestNamesThatAreThereTwice(t *testing.T) {
	m := door()
	m.Vars = []Var{{"a", 1}, {"b", 1}, {"c", 1}, {"b", 2}, {"a", 1}}
	expect(t, "a variable", m, wrong(2, 3))
	m = door()
	m.Events = append(m.Events, "x", "y", "lock", "open")
	expect(t, "an event", m, wrong(3, 5))
	m = door()
	m.Vars = []Var{{"open", 1}, {"Door", 2}, {"top", 3}, {"t", 3}}
	expect(t, "an event's name is a variable's", m, right)
	m = door()
	for i := range m.Regions {
		m.Regions[i].Name = "Door"
	}
	for i := range m.Vertices {
		m.Vertices[i].Name = "Door"
	}
	for i := range m.Transitions {
		m.Transitions[i].Name = "Door"
	}
	m.Vertices[3].Sub = "Door"
	expect(t, "all other names are the same", m, right)
	m = door()
	m.Vertices[1].Defers = []string{"lock", "open", "lock"}
	expect(t, "a deferred event", m, wrong(5, 1))
	m = door()
	m.Transitions[1].Triggers = []string{"lock", "open", "lock"}
	expect(t, "a trigger", m, wrong(6, 1))
}

func TestEventsOfOthers(t *testing.T) {
	m := door()
	m.Events = []string{"open", "lock"}
	expect(t, "a deferred one that is none", m, wrong(5, 1))
	m.Vertices[1].Defers = nil
	expect(t, "no other one", m, right)
	m.Transitions[1].Triggers = []string{"open", "n"}
	expect(t, "a trigger that is none", m, wrong(6, 1))
	m.Events = nil
	expect(t, "no events", m, wrong(5, 2))
	m.Vertices[2].Defers = []string{}
	expect(t, "no events, a trigger", m, wrong(6, 1))
	m.Transitions[1].Triggers = []string{}
	expect(t, "neither events nor triggers", m, right)
}

func TestOwners(t *testing.T) {
	for owner, want := range map[int]told{
		least: wrong(4, 2), -2: wrong(4, 2), -1: wrong(4, 2), 0: wrong(4, 2), 1: right, 2: wrong(5, 2), 3: wrong(4, 2),
		4: wrong(4, 2), 5: wrong(4, 2), 6: right, 7: wrong(4, 2), 16: wrong(4, 2), mostParts: wrong(4, 2), greatest: wrong(4, 2),
	} {
		m := door()
		m.Regions[2].Owner = owner
		expect(t, "owner "+strconv.Itoa(owner), m, want)
	}
	for owner := range 20 {
		m := door()
		m.Regions[0].Owner = owner
		expect(t, "the first one's owner "+strconv.Itoa(owner), m, wrong(4, 0))
	}
	m := door()
	m.Regions[0].Owner = -2
	expect(t, "the first one's owner -2", m, wrong(4, 0))
}

// Of each kind: where it may lie, and what it may have.
func TestKindsOfVertices(t *testing.T) {
	for k := range 256 {
		kind := uint8(k)
		isKind, isPoint := k >= 1 && k <= kinds, k == 10 || k == 11
		for _, x := range []struct {
			what string
			v    Vertex
			may  bool
		}{
			{"in a region", Vertex{Region: 3, Of: -1}, isKind && !isPoint},
			{"of a state", Vertex{Region: -1, Of: 2}, isPoint},
			{"of a state with Sub", Vertex{Region: -1, Of: 3}, isPoint},
			{"both", Vertex{Region: 3, Of: 2}, false},
			{"neither", Vertex{Region: -1, Of: -1}, false},
			{"beyond all regions", Vertex{Region: 4, Of: -1}, false},
			{"of no state", Vertex{Region: -1, Of: 0}, false},
			{"of a point", Vertex{Region: -1, Of: 4}, false},
			{"of itself", Vertex{Region: -1, Of: 7}, false},
			{"beyond all vertices", Vertex{Region: -1, Of: 16}, false},
			{"with Entry", Vertex{Region: 3, Of: -1, Entry: " "}, k == 1},
			{"with Exit", Vertex{Region: 3, Of: -1, Exit: " "}, k == 1},
			{"with Defers", Vertex{Region: 3, Of: -1, Defers: []string{"open"}}, k == 1},
			{"with an empty row", Vertex{Region: 3, Of: -1, Defers: []string{}}, isKind && !isPoint},
			{"with Sub", Vertex{Region: 3, Of: -1, Sub: "S"}, k == 1},
			{"a point with Entry", Vertex{Region: -1, Of: 2, Entry: " "}, false},
			{"a point with Exit", Vertex{Region: -1, Of: 2, Exit: " "}, false},
			{"a point with Defers", Vertex{Region: -1, Of: 2, Defers: []string{"open"}}, false},
			{"a point with Sub", Vertex{Region: -1, Of: 2, Sub: "S"}, false},
		} {
			m := door()
			x.v.Kind = kind
			m.Vertices[7] = x.v
			want := right
			if !x.may {
				want = wrong(5, 7)
			}
			expect(t, "kind "+strconv.Itoa(k)+" "+x.what, m, want)
		}
	}
}

func TestTransitions(t *testing.T) {
	for k := range 256 {
		m := door()
		m.Transitions[1].Kind = uint8(k)
		want := wrong(6, 1)
		if k >= 1 && k <= 3 {
			want = right
		}
		expect(t, "kind "+strconv.Itoa(k), m, want)
	}
	for _, at := range []int{least, -1, 0, 4, 15, 16, mostParts, greatest} {
		want := wrong(6, 3)
		if at >= 0 && at < 16 {
			want = right
		}
		m := door()
		m.Transitions[3].Source = at
		expect(t, "source "+strconv.Itoa(at), m, want)
		m = door()
		m.Transitions[3].Target = at
		expect(t, "target "+strconv.Itoa(at), m, want)
	}
	m := plain()
	m.Vertices = nil
	expect(t, "no vertices", m, wrong(6, 0))
}

func TestAfter(t *testing.T) {
	for _, n := range []int{least, -65536, -1, 0, 1, 2, 65534, 65535, 65536, 65537, 1 << 32, greatest} {
		m := door()
		m.Transitions[0].After = n
		want := wrong(6, 0)
		if n >= 0 && n <= mostAfter {
			want = right
		}
		expect(t, "after "+strconv.Itoa(n), m, want)
		m.Transitions[0].Triggers = []string{}
		expect(t, "no triggers, after "+strconv.Itoa(n), m, want)
		m.Transitions[0].Triggers = []string{"open"}
		if n != 0 {
			want = wrong(6, 0)
		}
		expect(t, "with triggers, after "+strconv.Itoa(n), m, want)
	}
}

func TestTexts(t *testing.T) {
	for n, may := range map[int]bool{0: true, 1: true, mostBytes - 1: true, mostBytes: true, mostBytes + 1: false, 70000: false} {
		s := strings.Repeat("\xff", n)
		inVertex, inTransition := right, right
		if !may {
			inVertex, inTransition = wrong(5, 2), wrong(6, 2)
		}
		for what, set := range map[string]change{
			"Entry": putVertex(2, func(x *Vertex) { x.Entry = s }),
			"Exit":  putVertex(2, func(x *Vertex) { x.Exit = s }),
		} {
			m := door()
			set(&m)
			expect(t, what, m, inVertex)
		}
		for what, set := range map[string]change{
			"Guard":  putTransition(2, func(x *Transition) { x.Guard = s }),
			"Effect": putTransition(2, func(x *Transition) { x.Effect = s }),
		} {
			m := door()
			set(&m)
			expect(t, what, m, inTransition)
		}
	}
}

// Every row may be as long as it may be; of one more its place is told, unless one ahead of it is wrong.
func TestHowManyThereMayBe(t *testing.T) {
	for _, x := range []struct {
		part uint8
		most int
		grow func(m *Model, at int, may bool)
		have func(m Model) int
	}{
		{2, mostVars, func(m *Model, at int, may bool) { m.Vars = append(m.Vars, Var{Name: nameOf(at, may)}) }, func(m Model) int { return len(m.Vars) }},
		{3, mostVars, func(m *Model, at int, may bool) { m.Events = append(m.Events, nameOf(at, may)) }, func(m Model) int { return len(m.Events) }},
		{4, mostParts, func(m *Model, at int, may bool) {
			m.Regions = append(m.Regions, Region{Name: nameOf(at, may), Owner: 1})
		}, func(m Model) int { return len(m.Regions) }},
		{5, mostParts, func(m *Model, at int, may bool) {
			m.Vertices = append(m.Vertices, Vertex{Name: nameOf(at, may), Kind: state, Of: -1})
		}, func(m Model) int { return len(m.Vertices) }},
		{6, mostParts, func(m *Model, at int, may bool) {
			m.Transitions = append(m.Transitions, Transition{Name: nameOf(at, may), Kind: 1})
		}, func(m Model) int { return len(m.Transitions) }},
	} {
		grown := func(n int, wrongs ...int) Model {
			m := door()
			for at := x.have(m); at < n; at++ {
				x.grow(&m, at, !slices.Contains(wrongs, at))
			}
			return m
		}
		what := "part " + strconv.Itoa(int(x.part))
		expect(t, what+", one less", grown(x.most-1), right)
		expect(t, what+", the most", grown(x.most), right)
		expect(t, what+", the last is wrong", grown(x.most, x.most-1), wrong(x.part, x.most-1))
		expect(t, what+", one more", grown(x.most+1), tooMany(x.part, x.most))
		expect(t, what+", one more, that is wrong", grown(x.most+1, x.most), tooMany(x.part, x.most))
		expect(t, what+", one more, the one ahead is wrong", grown(x.most+1, x.most-1, x.most), wrong(x.part, x.most-1))
		expect(t, what+", many more", grown(3*x.most, x.most+1), tooMany(x.part, x.most))
	}
}

// nameOf is a name that may stand at a place, or a text that may not.
func nameOf(at int, may bool) string {
	if may {
		return "x" + strconv.Itoa(at)
	}
	return "1"
}

// Owners, and states of points, may lie behind the limit: the vertices are what is too many, then.
func TestPlacesBehindTheLimit(t *testing.T) {
	m := door()
	for len(m.Vertices) < mostParts+1 {
		m.Vertices = append(m.Vertices, Vertex{Kind: state, Of: -1})
	}
	m.Regions[2].Owner = mostParts
	m.Vertices[4].Of = mostParts
	expect(t, "one vertex more", m, tooMany(5, mostParts))
	m.Vertices[mostParts].Sub = "S"
	expect(t, "of a submachine", m, wrong(4, 2))
	m.Regions[2].Owner, m.Vertices[mostParts].Kind = 1, final
	expect(t, "a point of no state", m, wrong(5, 4))
}

func TestDepthRule(t *testing.T) {
	for kind := uint8(1); kind <= kinds; kind++ {
		expect(t, "64 deep", nest(mostDepth, kind), right)
		expect(t, "65 deep", nest(mostDepth+1, kind), wrong(5, mostDepth+1))
		expect(t, "66 deep", nest(mostDepth+2, kind), wrong(5, mostDepth+1))
		expect(t, "500 deep", nest(500, kind), wrong(5, mostDepth+1))
	}
	m := nest(mostDepth+1, final)
	slices.Reverse(m.Vertices)
	for i := range m.Regions[1:] {
		m.Regions[i+1].Owner = mostDepth + 1 - i
	}
	expect(t, "the deepest first", m, wrong(5, 0))
	m.Vertices[0].Kind = 13
	expect(t, "the deepest first, and wrong", m, wrong(5, 0))
}

// In states that lie in one another in a ring, all of them, and what lies in them, are too deep.
func TestStatesInThemselves(t *testing.T) {
	for _, n := range []int{1, 2, 3, 63, 64, 65, 66, 200, 511} {
		m := nest(n, state)
		m.Vertices[0].Region = n
		expect(t, "a ring of "+strconv.Itoa(n), m, wrong(5, 0))
		m.Vertices[0].Region = 0
		m.Regions = append(m.Regions[:n:n], Region{Owner: n - 1})
		if n < mostDepth {
			expect(t, "a row of "+strconv.Itoa(n), m, right)
		}
	}
	m := door()
	m.Regions = append(m.Regions, Region{Owner: 15})
	m.Vertices = append(m.Vertices, Vertex{Kind: final, Region: 5, Of: -1}, Vertex{Kind: state, Region: 4, Of: -1})
	m.Vertices[15], m.Vertices[17] = m.Vertices[17], m.Vertices[15]
	m.Vertices[16].Region = 4
	m.Regions[4].Owner = 15
	expect(t, "one behind the others", m, wrong(5, 15))
	m.Vertices[14] = Vertex{Kind: exit, Region: -1, Of: 15}
	expect(t, "a point of it", m, wrong(5, 14))
	m.Vertices[16].Kind = 0
	expect(t, "a vertex that is wrong goes ahead", m, wrong(5, 16))
	m.Regions[3].Owner = 0
	expect(t, "a region that is wrong goes ahead", m, wrong(4, 3))
}

// One wrong thing of each rule: what stands first in the rules is told, however many others there are.
func TestOrderOfRules(t *testing.T) {
	faults := []struct {
		set  change
		want told
	}{
		{func(m *Model) { m.Name = "" }, wrong(1, 0)},
		{func(m *Model) { m.Vars[1].Name = "" }, wrong(2, 1)},
		{func(m *Model) { m.Events[2] = "" }, wrong(3, 2)},
		{func(m *Model) { m.Regions[3].Name = "1" }, wrong(4, 3)},
		{func(m *Model) { m.Vertices[4].Name = "1" }, wrong(5, 4)},
		{func(m *Model) { m.Vertices[1].Region = 1 }, wrong(5, 1)},
		{func(m *Model) { m.Transitions[0].Name = "1" }, wrong(6, 0)},
	}
	for set := range 1 << len(faults) {
		m, want := door(), right
		m.Vertices[1].Defers = nil
		for i := len(faults) - 1; i >= 0; i-- {
			if set>>i&1 == 1 {
				faults[i].set(&m)
				want = faults[i].want
			}
		}
		expect(t, "faults "+strconv.FormatInt(int64(set), 2), m, want)
	}
}

func TestAllSingleChanges(t *testing.T) {
	for i, c := range manyChanges() {
		for _, m := range []Model{door(), plain()} {
			c(&m)
			expect(t, "change "+strconv.Itoa(i), m, shouldTell(m))
		}
	}
}

func TestManyPairsOfChanges(t *testing.T) {
	l := manyChanges()
	r := rand.New(rand.NewSource(131))
	for range 60000 {
		m := door()
		i, j := r.Intn(len(l)), r.Intn(len(l))
		l[i](&m)
		l[j](&m)
		expect(t, "changes "+strconv.Itoa(i)+" and "+strconv.Itoa(j), m, shouldTell(m))
	}
}

func TestRightOfManyModels(t *testing.T) {
	r := rand.New(rand.NewSource(132))
	found := map[told]int{}
	for range 100000 {
		m := anyModel(r)
		want := shouldTell(m)
		found[want]++
		if got := asked(m); got != want {
			t.Fatalf("%v, not %v: %+v", got, want, m)
		}
	}
	if found[right] < 1000 || len(found) < 20 {
		t.Fatalf("too few kinds of models: %v", found)
	}
}

// All ways in which up to three states lie in up to three regions.
func TestAllSmallNests(t *testing.T) {
	rights := 0
	for code := range 5 * 5 * 4 * 4 * 4 {
		m := Model{Name: "M", Regions: []Region{{Owner: -1}, {Owner: code%5 - 1}, {Owner: code/5%5 - 1}}}
		for n := code / 25; len(m.Vertices) < 3; n /= 4 {
			m.Vertices = append(m.Vertices, Vertex{Kind: state, Region: n % 4, Of: -1})
		}
		want := shouldTell(m)
		expect(t, "nest "+strconv.Itoa(code), m, want)
		if want == right {
			rights++
		}
		for v := -1; v < 4; v++ {
			deep := -1
			if want == right && v >= 0 && v < 3 {
				deep = shouldBeDeep(m, v)
			}
			if got := Depth(m, v); got != deep {
				t.Fatalf("nest %d, vertex %d: %d, not %d", code, v, got, deep)
			}
		}
	}
	if rights < 50 {
		t.Fatalf("only %d right ones", rights)
	}
}

// Rows that are made by hand may be as long as memory allows.
func TestRightOfHugeRows(t *testing.T) {
	const many = 1 << 20
	m := door()
	m.Vertices[1].Defers = slices.Repeat([]string{"lock"}, many)
	expect(t, "deferred events", m, wrong(5, 1))
	m = door()
	m.Transitions[1].Triggers = slices.Repeat([]string{"lock"}, many)
	expect(t, "triggers", m, wrong(6, 1))
	m = door()
	m.Vars = make([]Var, many)
	for i := range m.Vars {
		m.Vars[i].Name = "v" + strconv.Itoa(i)
	}
	expect(t, "variables", m, tooMany(2, mostVars))
	m = door()
	for range many {
		m.Vertices = append(m.Vertices, m.Vertices[2])
	}
	expect(t, "vertices", m, tooMany(5, mostParts))
	m = door()
	m.Name = strings.Repeat("n", 1<<24)
	expect(t, "a name", m, wrong(1, 0))
}

// P13.2

// oneChange are changes each of which makes another model of a door.
func oneChange() map[string]change {
	return map[string]change{
		"Name":               func(m *Model) { m.Name = "door" },
		"a variable's name":  func(m *Model) { m.Vars[1].Name = "x" },
		"a variable's Init":  func(m *Model) { m.Vars[1].Init-- },
		"one variable less":  func(m *Model) { m.Vars = m.Vars[:1] },
		"one variable more":  func(m *Model) { m.Vars = append(m.Vars, Var{}) },
		"variables' order":   func(m *Model) { slices.Reverse(m.Vars) },
		"no variable":        func(m *Model) { m.Vars = nil },
		"an event":           func(m *Model) { m.Events[2] = "Arg" },
		"one event less":     func(m *Model) { m.Events = m.Events[:2] },
		"one event more":     func(m *Model) { m.Events = append(m.Events, "") },
		"events' order":      func(m *Model) { slices.Reverse(m.Events) },
		"a region's name":    func(m *Model) { m.Regions[3].Name = "" },
		"a region's owner":   func(m *Model) { m.Regions[3].Owner++ },
		"one region less":    func(m *Model) { m.Regions = m.Regions[:3] },
		"one region more":    func(m *Model) { m.Regions = append(m.Regions, Region{}) },
		"regions' order":     func(m *Model) { slices.Reverse(m.Regions) },
		"a vertex's name":    func(m *Model) { m.Vertices[1].Name += "s" },
		"a vertex's kind":    func(m *Model) { m.Vertices[5].Kind = entry },
		"a vertex's region":  func(m *Model) { m.Vertices[7].Region++ },
		"a vertex's state":   func(m *Model) { m.Vertices[5].Of++ },
		"Entry":              func(m *Model) { m.Vertices[1].Entry = "n := 1 ;" },
		"Exit":               func(m *Model) { m.Vertices[1].Exit = "" },
		"Defers":             func(m *Model) { m.Vertices[1].Defers[1] = "open" },
		"one less in Defers": func(m *Model) { m.Vertices[1].Defers = m.Vertices[1].Defers[:1] },
		"one more in Defers": func(m *Model) { m.Vertices[2].Defers = append(m.Vertices[2].Defers, "") },
		"Defers' order":      func(m *Model) { slices.Reverse(m.Vertices[1].Defers) },
		"Sub":                func(m *Model) { m.Vertices[3].Sub = "" },
		"one vertex less":    func(m *Model) { m.Vertices = m.Vertices[:len(m.Vertices)-1] },
		"one vertex more":    func(m *Model) { m.Vertices = append(m.Vertices, Vertex{}) },
		"vertices' order":    func(m *Model) { m.Vertices[7], m.Vertices[8] = m.Vertices[8], m.Vertices[7] },
		"a name":             func(m *Model) { m.Transitions[1].Name = "T" },
		"Source":             func(m *Model) { m.Transitions[3].Source++ },
		"Target":             func(m *Model) { m.Transitions[3].Target-- },
		"Triggers":           func(m *Model) { m.Transitions[1].Triggers[0] = "arg" },
		"one trigger less":   func(m *Model) { m.Transitions[1].Triggers = nil },
		"one trigger more":   func(m *Model) { m.Transitions[3].Triggers = []string{""} },
		"triggers' order":    func(m *Model) { slices.Reverse(m.Transitions[1].Triggers) },
		"After":              func(m *Model) { m.Transitions[2].After = 0 },
		"Guard":              func(m *Model) { m.Transitions[1].Guard = "" },
		"Effect":             func(m *Model) { m.Transitions[1].Effect = "n := 3;" },
		"a kind":             func(m *Model) { m.Transitions[3].Kind = 2 },
		"one less":           func(m *Model) { m.Transitions = m.Transitions[:3] },
		"one more":           func(m *Model) { m.Transitions = append(m.Transitions, Transition{}) },
		"transitions' order": func(m *Model) { slices.Reverse(m.Transitions) },
	}
}

func TestSame(t *testing.T) {
	if !Same(door(), door()) || !Same(plain(), plain()) || Same(plain(), door()) || Same(door(), Model{}) {
		t.Fatal("a door, and what is none")
	}
	for what, c := range oneChange() {
		m, twice := door(), door()
		c(&m)
		c(&twice)
		if Same(m, door()) || Same(door(), m) {
			t.Errorf("%s: the same", what)
		}
		if !Same(m, twice) {
			t.Errorf("%s, changed twice: not the same", what)
		}
	}
}

// Models that break rules are the same, too, and are copied.
func TestSameOfWrongOnes(t *testing.T) {
	l := manyChanges()
	r := rand.New(rand.NewSource(133))
	for range 20000 {
		a, b := door(), door()
		i, j := r.Intn(len(l)), r.Intn(len(l))
		l[i](&a)
		l[j](&b)
		if !Same(a, Copy(a)) || !Same(Copy(b), b) {
			t.Fatalf("change %d or %d: no copy", i, j)
		}
		if got, want := Same(a, b), shown(a) == shown(b); got != want {
			t.Fatalf("changes %d and %d: %v", i, j, got)
		}
	}
}

// shown is all that a model has, as a text: models are the same where their texts are.
func shown(m Model) string {
	l := []string{m.Name, "variables"}
	row := func(names []string) { l = append(l, strconv.Itoa(len(names)), strings.Join(quoted(names), " ")) }
	numbers := func(l ...int) string { return strings.Join(decimals(l), " ") }
	for _, v := range m.Vars {
		l = append(l, strconv.Quote(v.Name), strconv.FormatInt(v.Init, 10))
	}
	l = append(l, "events")
	row(m.Events)
	l = append(l, "regions")
	for _, x := range m.Regions {
		l = append(l, strconv.Quote(x.Name), numbers(x.Owner))
	}
	l = append(l, "vertices")
	for _, x := range m.Vertices {
		l = append(l, quoted([]string{x.Name, x.Entry, x.Exit, x.Sub})...)
		l = append(l, numbers(int(x.Kind), x.Region, x.Of))
		row(x.Defers)
	}
	l = append(l, "transitions")
	for _, x := range m.Transitions {
		l = append(l, quoted([]string{x.Name, x.Guard, x.Effect})...)
		l = append(l, numbers(int(x.Kind), x.Source, x.Target, x.After))
		row(x.Triggers)
	}
	return strings.Join(l, "\n")
}

func quoted(names []string) []string {
	var l []string
	for _, s := range names {
		l = append(l, strconv.Quote(s))
	}
	return l
}

func decimals(numbers []int) []string {
	var l []string
	for _, n := range numbers {
		l = append(l, strconv.Itoa(n))
	}
	return l
}

func TestSameOfNilAndEmptyRows(t *testing.T) {
	empty := Model{Vars: []Var{}, Events: []string{}, Regions: []Region{}, Vertices: []Vertex{}, Transitions: []Transition{}}
	if !Same(Model{}, empty) || !Same(empty, Model{}) || !Same(Copy(empty), Copy(Model{})) {
		t.Error("a model")
	}
	a := Model{Vertices: []Vertex{{Defers: []string{}}}, Transitions: []Transition{{Triggers: []string{}}}}
	b := Model{Vertices: []Vertex{{}}, Transitions: []Transition{{}}}
	if !Same(a, b) || !Same(b, a) || !Same(Copy(a), b) {
		t.Error("a vertex, and a transition")
	}
}

func TestCopyIsTheSame(t *testing.T) {
	for _, m := range []Model{{}, plain(), door(), nest(500, exit)} {
		if got := Copy(m); shown(got) != shown(m) {
			t.Fatalf("%s, not %s", shown(got), shown(m))
		}
	}
	r := rand.New(rand.NewSource(134))
	for range 5000 {
		m := anyModel(r)
		if got := Copy(m); shown(got) != shown(m) || !Same(got, m) {
			t.Fatalf("%s, not %s", shown(got), shown(m))
		}
	}
	huge := door()
	huge.Vertices = slices.Repeat(huge.Vertices, 1<<14)
	if !Same(Copy(huge), huge) {
		t.Fatal("a huge one")
	}
}

// P13.3

func TestDepth(t *testing.T) {
	m := door()
	for v, want := range map[int]int{
		least: -1, -2: -1, -1: -1, 0: 0, 1: 0, 2: 1, 3: 2, 4: 3, 5: 1, 6: 0, 7: 1, 8: 1, 9: 2, 15: 2, 16: -1, 17: -1, greatest: -1,
	} {
		if got := Depth(m, v); got != want {
			t.Errorf("%d: %d, not %d", v, got, want)
		}
	}
	if Depth(plain(), 0) != 0 || Depth(plain(), 1) != 0 || Depth(plain(), 2) != -1 {
		t.Error("in the top region")
	}
	if Depth(Model{Name: "M", Regions: []Region{{Owner: -1}}}, 0) != -1 || Depth(Model{}, 0) != -1 {
		t.Error("no vertices")
	}
}

func TestDepthOfDeepOnes(t *testing.T) {
	for kind := uint8(1); kind <= kinds; kind++ {
		m := nest(mostDepth, kind)
		for v := range m.Vertices {
			if got := Depth(m, v); got != v {
				t.Fatalf("%d: %d", v, got)
			}
		}
		m = nest(mostDepth+1, kind)
		for v := range m.Vertices {
			if got := Depth(m, v); got != -1 {
				t.Fatalf("in one that is too deep, %d: %d", v, got)
			}
		}
	}
}

func TestDepthOfWhatIsNotRight(t *testing.T) {
	for i, c := range manyChanges() {
		m := door()
		c(&m)
		for _, v := range []int{least, -1, 0, 1, 2, 3, 4, 5, 15, 16, greatest} {
			want := -1
			if shouldTell(m) == right && v >= 0 && v < len(m.Vertices) {
				want = shouldBeDeep(m, v)
			}
			if got := Depth(m, v); got != want {
				t.Fatalf("change %d, vertex %d: %d, not %d", i, v, got, want)
			}
		}
	}
}

func TestDepthOfManyModels(t *testing.T) {
	r := rand.New(rand.NewSource(135))
	for range 30000 {
		m := anyModel(r)
		for v := range len(m.Vertices) + 1 {
			want := -1
			if v < len(m.Vertices) && shouldTell(m) == right {
				want = shouldBeDeep(m, v)
			}
			if got := Depth(m, v); got != want {
				t.Fatalf("%d: %d, not %d: %+v", v, got, want, m)
			}
		}
	}
}

// P13.4

// roomy is a model whose rows have memory behind their lengths; it answers what lies there, too.
func roomy() (m, whole Model) {
	whole = door()
	whole.Vars = append(whole.Vars, Var{"behind", 1})
	whole.Events = append(whole.Events, "behind")
	whole.Regions = append(whole.Regions, Region{"behind", 1})
	whole.Vertices[2].Defers = append(whole.Vertices[2].Defers, "behind")
	whole.Transitions[1].Triggers = append(whole.Transitions[1].Triggers, "behind")
	m = whole
	m.Vertices, m.Transitions = slices.Clone(whole.Vertices), slices.Clone(whole.Transitions)
	m.Vertices[2].Defers = m.Vertices[2].Defers[:1]
	m.Transitions[1].Triggers = m.Transitions[1].Triggers[:2]
	m.Vars, m.Events, m.Regions = m.Vars[:2], m.Events[:3], m.Regions[:4]
	m.Vertices = append(m.Vertices, Vertex{Name: "behind"})[:len(m.Vertices)]
	m.Transitions = append(m.Transitions, Transition{Name: "behind"})[:len(m.Transitions)]
	return m, whole
}

func TestWhatIsHandedInIsOnlyRead(t *testing.T) {
	m, whole := roomy()
	before, beforeWhole := shown(m), shown(whole)
	other := door()
	expect(t, "roomy", m, right)
	Same(m, other)
	Same(other, m)
	Copy(m)
	for v := range m.Vertices {
		Depth(m, v)
	}
	if shown(m) != before || shown(whole) != beforeWhole || shown(other) != shown(door()) {
		t.Error("changed")
	}
	if m.Vertices[:len(m.Vertices)+1][len(m.Vertices)].Name != "behind" || m.Transitions[:len(m.Transitions)+1][len(m.Transitions)].Name != "behind" {
		t.Error("what lies behind vertices or transitions changed")
	}
}

// texts are all that are there in a model.
func texts(m Model) []string {
	l := append([]string{m.Name}, m.Events...)
	for _, x := range m.Vars {
		l = append(l, x.Name)
	}
	for _, x := range m.Regions {
		l = append(l, x.Name)
	}
	for _, x := range m.Vertices {
		l = append(l, x.Name, x.Entry, x.Exit, x.Sub)
		l = append(l, x.Defers...)
	}
	for _, x := range m.Transitions {
		l = append(l, x.Name, x.Guard, x.Effect)
		l = append(l, x.Triggers...)
	}
	return l
}

// share tells whether two texts have a byte in common.
func share(a, b string) bool {
	if a == "" || b == "" {
		return false
	}
	x, y := uintptr(unsafe.Pointer(unsafe.StringData(a))), uintptr(unsafe.Pointer(unsafe.StringData(b)))
	return x < y+uintptr(len(b)) && y < x+uintptr(len(a))
}

// One text is handed in at many places: in the copy each has memory of its own.
func TestTextsAreNewMemory(t *testing.T) {
	s := strings.Repeat("n", mostName)
	m := Model{Name: s, Vars: []Var{{Name: s}, {Name: s}}, Events: []string{s, s}, Regions: []Region{{Name: s}, {Name: s}}}
	for range 2 {
		m.Vertices = append(m.Vertices, Vertex{Name: s, Entry: s, Exit: s, Sub: s, Defers: []string{s, s}})
		m.Transitions = append(m.Transitions, Transition{Name: s, Guard: s, Effect: s, Triggers: []string{s, s}})
	}
	own := texts(Copy(m))
	if len(own) != 29 {
		t.Fatalf("%d texts", len(own))
	}
	all := append(append(own, texts(Copy(m))...), s)
	for i, a := range all {
		for _, b := range all[:i] {
			if share(a, b) {
				t.Fatalf("texts %d and another share memory", i)
			}
		}
	}
}

// filled has all places of its rows' memory taken by one row, to be seen where they are shared.
func filled(m Model, s string) {
	fill := func(l []string) {
		l = l[:cap(l)]
		for i := range l {
			l[i] = s
		}
	}
	for i := range m.Vertices[:cap(m.Vertices)] {
		fill(m.Vertices[:cap(m.Vertices)][i].Defers)
	}
	for i := range m.Transitions[:cap(m.Transitions)] {
		fill(m.Transitions[:cap(m.Transitions)][i].Triggers)
	}
	fill(m.Events)
	for i := range m.Vars[:cap(m.Vars)] {
		m.Vars[:cap(m.Vars)][i] = Var{Name: s}
	}
	for i := range m.Regions[:cap(m.Regions)] {
		m.Regions[:cap(m.Regions)][i] = Region{Name: s}
	}
	for i := range m.Vertices[:cap(m.Vertices)] {
		m.Vertices[:cap(m.Vertices)][i] = Vertex{Name: s}
	}
	for i := range m.Transitions[:cap(m.Transitions)] {
		m.Transitions[:cap(m.Transitions)][i] = Transition{Name: s}
	}
}

func TestRowsAreNewMemory(t *testing.T) {
	m, whole := roomy()
	before, beforeWhole := shown(m), shown(whole)
	a, b := Copy(m), Copy(m)
	filled(a, "x")
	if shown(m) != before || shown(whole) != beforeWhole {
		t.Error("a copy shares memory with what it was made of")
	}
	if shown(b) != before {
		t.Error("a copy shares memory with another one")
	}
	filled(m, "y")
	if shown(b) != before {
		t.Error("what a copy is made of is kept in it")
	}
}

// Rows without anything in them have no memory in common either.
func TestEmptyRowsAreNewMemory(t *testing.T) {
	events, names := make([]string, 4), make([]string, 4)
	m := Model{Events: events[:0], Vertices: []Vertex{{Defers: names[:0]}}, Transitions: []Transition{{Triggers: names[:0]}},
		Vars: make([]Var, 0, 4), Regions: make([]Region, 0, 4)}
	c := Copy(m)
	filled(c, "x")
	_, _ = append(c.Events, "x"), append(c.Vars, Var{Name: "x"})
	if slices.Contains(events, "x") || slices.Contains(names, "x") || m.Vars[:4][0].Name != "" || m.Regions[:4][0].Name != "" {
		t.Error("an empty row shares memory with what it was made of")
	}
}

// Rows of one copy lie apart, the same row handed in at several places, too.
func TestRowsOfOneCopyLieApart(t *testing.T) {
	row := []string{"a", "b"}
	m := Model{Events: row, Vertices: []Vertex{{Defers: row}, {Defers: row}}, Transitions: []Transition{{Triggers: row}, {Triggers: row}}}
	c := Copy(m)
	rows := [][]string{c.Events, c.Vertices[0].Defers, c.Vertices[1].Defers, c.Transitions[0].Triggers, c.Transitions[1].Triggers}
	for i, l := range rows {
		l = l[:cap(l)]
		for j := range l {
			l[j] = strconv.Itoa(i)
		}
	}
	for i, l := range rows {
		if l[0] != strconv.Itoa(i) || l[1] != strconv.Itoa(i) {
			t.Fatalf("row %d shares memory with another one", i)
		}
	}
	if row[0] != "a" || row[1] != "b" {
		t.Fatal("changed")
	}
}

func TestNothingIsKept(t *testing.T) {
	r := rand.New(rand.NewSource(136))
	for range 300 {
		a, b := anyModel(r), anyModel(r)
		told, deep, same, copied := asked(a), Depth(a, 0), Same(a, b), shown(Copy(a))
		asked(b)
		Depth(b, 1)
		Same(b, a)
		Copy(b)
		if asked(a) != told || Depth(a, 0) != deep || Same(a, b) != same || shown(Copy(a)) != copied {
			t.Fatal("what was asked before changes what is told")
		}
	}
}

// P13.5

func TestACopyStaysTheSame(t *testing.T) {
	for what, c := range oneChange() {
		a := door()
		b := Copy(a)
		c(&a)
		if !Same(b, door()) || Same(a, b) {
			t.Errorf("%s: what became of the first one is seen in its copy", what)
		}
		a = door()
		b = Copy(a)
		c(&b)
		if !Same(a, door()) || Same(a, b) {
			t.Errorf("%s: what became of a copy is seen in the first one", what)
		}
	}
}

func TestLastTransition(t *testing.T) {
	r := rand.New(rand.NewSource(137))
	rights := 0
	for range 50000 {
		m := anyModel(r)
		if asked(m) != right || len(m.Transitions) == 0 {
			continue
		}
		rights++
		less := copyOf(m)
		less.Transitions = less.Transitions[:len(m.Transitions)-1]
		expect(t, "without its last transition", less, right)
		more := copyOf(m)
		at := r.Intn(len(m.Transitions))
		more.Transitions = slices.Insert(more.Transitions, r.Intn(len(m.Transitions)+1), m.Transitions[at])
		expect(t, "with one of its transitions twice", more, right)
	}
	if rights < 300 {
		t.Fatalf("only %d right ones", rights)
	}
	m := door()
	for len(m.Transitions) < mostParts {
		m.Transitions = append(m.Transitions, m.Transitions[1])
	}
	expect(t, "as many as there may be", m, right)
	m.Transitions = append(m.Transitions, m.Transitions[1])
	expect(t, "one too many", m, tooMany(6, mostParts))
}
