package tests

// Promise 2: with less fuel a program tells a beginning of what it tells with more.

import (
	"bytes"
	"math/rand"
	"slices"
	"strconv"
	"testing"

	"loop.example/g00547/impl"
)

const mostFuel = 2000

// wantEachFuel walks with each fuel up to what is needed, with one more, and with all there may be.
func wantEachFuel(t *testing.T, p impl.Prog) {
	t.Helper()
	whole := impl.Walk(p, mostFuel)
	short := impl.Result{}
	for fuel := 0; fuel <= min(whole.Ticks+1, mostFuel); fuel++ {
		r := impl.Walk(p, fuel)
		if fuel >= whole.Ticks && whole.Code != impl.RsFuel || fuel == mostFuel {
			if !sameResult(r, whole) {
				t.Fatalf("%q with fuel %d: %s; with all: %s", impl.ProgText(p), fuel, picture(r), picture(whole))
			}
			continue
		}
		if r.Code != impl.RsFuel || r.Ticks != fuel || !bytes.HasPrefix(whole.Log, r.Log) || !bytes.HasPrefix(r.Log, short.Log) {
			t.Fatalf("%q with fuel %d: %s; with one less %s; with all: %s", impl.ProgText(p), fuel, picture(r), picture(short), picture(whole))
		}
		short = r
	}
}

func TestEachFuel(t *testing.T) {
	for _, s := range append([]string{
		in("let i = 0; while (i < 300) { print i; set i = (i + 1); }; do nil.a;"),
		in("while 1 { print new; };"),
		in("print 1; do main(); print 2;"),
		in("print 1; do f(9); print 2;") + " func f(n) { while n { print n; set n = (n - 1); }; return live(n); }",
	}, right...) {
		wantEachFuel(t, mustRead(t, s))
	}
}

// A teller plays a program once, without end, and writes down how long the log was at each tick; from that it is plain what is told with each fuel. Its values are Go's own, and each step hands back whether all has ended.
type teller struct {
	p     impl.Prog
	log   []byte
	marks []int
	code  int
	depth int
}

type object struct{ fields map[string]any }

type weakOne struct{ of *object }

const enough = mostFuel + 1

func (k *teller) end(code int) bool {
	k.code = code
	return false
}

func (k *teller) tick() bool {
	k.marks = append(k.marks, len(k.log))
	return len(k.marks) <= mostFuel || k.end(impl.RsFuel)
}

// with tells what Walk is to tell.
func (k *teller) with(fuel int) impl.Result {
	if fuel < len(k.marks) {
		return impl.Result{Code: impl.RsFuel, Log: k.log[:k.marks[fuel]], Ticks: fuel}
	}
	return impl.Result{Code: k.code, Log: k.log, Ticks: len(k.marks)}
}

func holds(v any) bool { return v != nil && v != 0 }

func (k *teller) show(v any) {
	switch x := v.(type) {
	case nil:
		k.log = append(k.log, "nil\n"...)
	case int:
		k.log = append(strconv.AppendInt(k.log, int64(x), 10), '\n')
	case *object:
		k.log = append(k.log, "thing\n"...)
	case weakOne:
		k.log = append(k.log, "weak\n"...)
	}
}

// block tells whether the function goes on behind it, and whether all does.
func (k *teller) block(l []impl.St, own map[string]any, back *any) (on, ok bool) {
	for i := 0; i < len(l); i++ {
		s := l[i]
		if !k.tick() {
			return false, false
		}
		v, ok := k.reckon(s.E, own)
		if !ok {
			return false, false
		}
		on = true
		switch s.Kind {
		case impl.StLet, impl.StSet:
			own[string(s.Name)] = v
		case impl.StPut:
			w, ok := k.reckon(s.F, own)
			to, is := v.(*object)
			if !ok || !is && !k.end(impl.RsType) {
				return false, false
			}
			to.fields[string(s.Name)] = w
		case impl.StPrint:
			k.show(v)
		case impl.StReturn:
			*back = v
			return false, true
		case impl.StIf:
			if holds(v) {
				on, ok = k.block(s.Body, own, back)
			} else {
				on, ok = k.block(s.Else, own, back)
			}
		case impl.StWhile:
			if holds(v) {
				on, ok = k.block(s.Body, own, back)
				i--
			}
		}
		if !on || !ok {
			return on, ok
		}
	}
	return true, true
}

func (k *teller) reckon(e impl.Ex, own map[string]any) (any, bool) {
	var l []any
	for _, x := range e.Args {
		v, ok := k.reckon(x, own)
		if !ok {
			return nil, false
		}
		l = append(l, v)
	}
	switch e.Kind {
	case impl.ExNum:
		return e.N, true
	case impl.ExName:
		return own[string(e.Name)], true
	case impl.ExNew:
		return &object{map[string]any{}}, true
	case impl.ExGet:
		if x, ok := l[0].(*object); ok {
			return x.fields[string(e.Name)], true
		}
		return nil, k.end(impl.RsType)
	case impl.ExWeak:
		if x, ok := l[0].(*object); ok {
			return weakOne{x}, true
		}
		return nil, k.end(impl.RsType)
	case impl.ExLive:
		if x, ok := l[0].(weakOne); ok {
			return x.of, true
		}
		return nil, k.end(impl.RsType)
	case impl.ExCall:
		return k.call(e.Name, l)
	case impl.ExBin:
		return k.both(byte(e.N), l[0], l[1])
	}
	return nil, true
}

func (k *teller) call(name []byte, l []any) (any, bool) {
	if k.depth == impl.MaxCalls {
		return nil, k.end(impl.RsDeep)
	}
	f := k.p.Funcs[slices.IndexFunc(k.p.Funcs, func(f impl.Func) bool { return bytes.Equal(f.Name, name) })]
	own := map[string]any{}
	for i, s := range f.Params {
		own[string(s)] = l[i]
	}
	k.depth++
	var back any
	_, ok := k.block(f.Body, own, &back)
	k.depth--
	return back, ok
}

func (k *teller) both(sign byte, a, b any) (any, bool) {
	flags := map[bool]int{true: 1}
	if sign == '=' {
		return flags[a == b], true
	}
	x, isX := a.(int)
	y, isY := b.(int)
	if !isX || !isY {
		return nil, k.end(impl.RsType)
	}
	return map[byte]int{'+': x + y, '-': x - y, '*': x * y, '<': flags[x < y]}[sign], true
}

func tellerOf(p impl.Prog) *teller {
	k := &teller{p: p}
	var back any
	k.block(p.Funcs[0].Body, map[string]any{}, &back)
	if k.code == impl.RsFuel {
		k.marks = k.marks[:enough]
	}
	return k
}

// A player makes programs that are ProgOk, and that mostly ask of a value what it can do: the name of a local, of a field or of a function begins with what it has, n a number, t a thing, w a weak one.
type player struct {
	*rand.Rand
	p     impl.Prog
	known []string
	left  int
}

const allKinds = "ntw"

func (m *player) kind() byte { return allKinds[m.Intn(3)] }

// ofKind is a name of that kind, if there is one.
func (m *player) ofKind(kind byte) (string, bool) {
	var l []string
	for _, s := range m.known {
		if s[0] == kind {
			l = append(l, s)
		}
	}
	if len(l) == 0 {
		return "", false
	}
	return l[m.Intn(len(l))], true
}

func (m *player) plain(kind byte) impl.Ex {
	if s, ok := m.ofKind(kind); ok && m.Intn(4) > 0 {
		return name(s)
	}
	switch {
	case m.Intn(30) == 0:
		return nothing()
	case kind == 't':
		return fresh()
	}
	return num([]int{0, 1, 2, 3, 9, 999999}[m.Intn(6)])
}

// field has a name as a local of that kind has; whatever was not put yet is nothing all the same.
func (m *player) field(kind byte) string { return string([]byte{kind, "ab"[m.Intn(2)]}) }

func (m *player) expression(kind byte, deep int) impl.Ex {
	if m.Intn(40) == 0 {
		kind = m.kind()
	}
	if kind == 'w' && deep > 0 && m.Intn(2) == 0 {
		return weak(m.expression('t', deep-1))
	}
	if deep <= 0 || m.Intn(3) == 0 {
		return m.plain(kind)
	}
	switch m.Intn(5) {
	case 0:
		return get(m.expression('t', deep-1), m.field(kind))
	case 1:
		f := m.p.Funcs[m.Intn(len(m.p.Funcs))]
		var l []impl.Ex
		for _, s := range f.Params {
			l = append(l, m.expression(s[0], deep-1))
		}
		return call(string(f.Name), l...)
	case 2:
		if kind == 't' {
			return live(m.expression('w', deep-1))
		}
	}
	if kind != 'n' {
		return m.plain(kind)
	}
	if m.Intn(3) == 0 {
		of := m.kind()
		return bin(m.expression(of, deep-1), '=', m.expression(of, deep-1))
	}
	return bin(m.expression('n', deep-1), "+-*<"[m.Intn(4)], m.expression('n', deep-1))
}

func (m *player) block(deep int) []impl.St {
	var l []impl.St
	for range 1 + m.Intn(3) {
		l = append(l, m.statement(deep)...)
	}
	return l
}

func (m *player) statement(deep int) []impl.St {
	kind := m.kind()
	e := m.expression(kind, m.Intn(3))
	switch m.Intn(9) {
	case 0, 1:
		if len(m.known) < impl.MaxLocals {
			s := string([]byte{kind, byte('a' + len(m.known))})
			m.known = append(m.known, s)
			return []impl.St{let(s, e)}
		}
	case 2:
		if s, ok := m.ofKind(kind); ok {
			return []impl.St{set(s, e)}
		}
	case 3:
		return []impl.St{put(m.expression('t', 1), m.field(kind), e)}
	case 4, 5:
		if deep > 0 {
			return []impl.St{choose(m.expression('n', 1), m.block(deep-1), m.block(deep-1))}
		}
	case 6:
		if s, ok := m.ofKind('n'); ok && deep > 0 {
			round := append(m.block(deep-1), set(s, bin(name(s), '+', num(1))))
			return []impl.St{loop(bin(name(s), '<', num(m.Intn(12))), round...)}
		}
		if deep > 0 && m.Intn(3) == 0 {
			return []impl.St{loop(e, m.block(deep-1)...)}
		}
	case 7:
		if m.Intn(3) == 0 {
			return []impl.St{back(e)}
		}
	}
	if m.Intn(4) == 0 {
		return []impl.St{do(e)}
	}
	return []impl.St{show(e)}
}

func playerProgram(r *rand.Rand) impl.Prog {
	m := &player{Rand: r, p: prog(fun("main", ""))}
	for _, s := range []string{"f", "g", "h"}[:r.Intn(4)] {
		params := ""
		for i := range r.Intn(4) {
			params += string([]byte{m.kind(), byte('p' + i), ' '})
		}
		m.p.Funcs = append(m.p.Funcs, fun(s, params))
	}
	for i, f := range m.p.Funcs {
		m.known = nil
		for _, s := range f.Params {
			m.known = append(m.known, string(s))
		}
		m.p.Funcs[i].Body = m.block(2)
	}
	return m.p
}

func wantAsByTeller(t *testing.T, p impl.Prog) int {
	t.Helper()
	k := tellerOf(p)
	whole := k.with(mostFuel)
	step := 1 + whole.Ticks/20
	for fuel := 0; fuel <= min(whole.Ticks+1, mostFuel); fuel += step {
		if r := impl.Walk(p, fuel); !sameResult(r, k.with(fuel)) {
			t.Fatalf("%q with fuel %d: %s; want %s", impl.ProgText(p), fuel, picture(r), picture(k.with(fuel)))
		}
	}
	if r := impl.Walk(p, mostFuel); !sameResult(r, whole) {
		t.Fatalf("%q: %s; want %s", impl.ProgText(p), picture(r), picture(whole))
	}
	return whole.Code
}

func TestMadeProgramsTellWhatTheyTell(t *testing.T) {
	r := rand.New(rand.NewSource(4))
	codes := map[int]int{}
	for range 6000 {
		if p := playerProgram(r); impl.ProgOk(p) {
			codes[wantAsByTeller(t, p)]++
		}
	}
	for _, code := range []int{impl.RsDone, impl.RsType, impl.RsDeep, impl.RsFuel} {
		if codes[code] < 50 {
			t.Errorf("only %d of code %d: the test sees too few", codes[code], code)
		}
	}
}

func TestMadeProgramsWithEachFuel(t *testing.T) {
	r := rand.New(rand.NewSource(5))
	for range 400 {
		if p := playerProgram(r); impl.ProgOk(p) && impl.Walk(p, mostFuel).Ticks < 300 {
			wantEachFuel(t, p)
		}
	}
}

// Walk tells RsForm just when a program is not ProgOk.
func TestWalkOfAnyProgram(t *testing.T) {
	m := maker{rand.New(rand.NewSource(6))}
	for range 3000 {
		p := m.program(m.Intn(4))
		r := impl.Walk(p, 50)
		if impl.ProgOk(p) == (r.Code == impl.RsForm) || r.Code == impl.RsFull {
			t.Fatalf("%q: %s", impl.ProgText(p), picture(r))
		}
		if r.Code == impl.RsForm && !sameResult(r, impl.Result{Code: impl.RsForm}) {
			t.Fatalf("%q: %s", impl.ProgText(p), picture(r))
		}
	}
}

func TestWalkOnlyReads(t *testing.T) {
	r := rand.New(rand.NewSource(7))
	l := []impl.Prog{mustRead(t, in("print x;"))}
	for _, s := range right {
		l = append(l, mustRead(t, s))
	}
	for range 300 {
		l = append(l, playerProgram(r))
	}
	for _, p := range l {
		var k tracker
		q := k.program(p)
		before := k.picture()
		got, again := impl.Walk(q, 300), impl.Walk(q, 300)
		want := impl.Walk(p, 300)
		if !sameResult(got, want) {
			t.Fatalf("what lies behind the lists of %q is read", impl.ProgText(p))
		}
		spoil([][]byte{got.Log})
		if k.picture() != before {
			t.Fatalf("%q is changed", impl.ProgText(p))
		}
		if !sameResult(again, want) || !sameResult(impl.Walk(q, 300), want) {
			t.Fatalf("two answers of %q share memory", impl.ProgText(p))
		}
	}
}
