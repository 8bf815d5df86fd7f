package tests

// Promises 7 and 13, their parts of chapter 6: what comes of a program.

import (
	"fmt"
	"math/rand"
	"slices"
	"strconv"
	"strings"
	"testing"

	"loop.example/g00547/impl"
)

// written writes orders that are parted by `;` as CodeText does; numbers that are left away at the end are 0.
func written(s string) string {
	text := ""
	for _, order := range strings.Split(s, ";") {
		l := strings.Fields(order)
		name := ""
		if _, err := strconv.Atoi(l[len(l)-1]); err != nil && len(l) > 1 {
			name = " " + l[len(l)-1]
			l = l[:len(l)-1]
		}
		for len(l) < 4 && l[0] != "unit" {
			l = append(l, "0")
		}
		text += strings.Join(l, " ") + name + "\n"
	}
	return text
}

func mustCompile(t *testing.T, s string) impl.Code {
	t.Helper()
	c, ok := impl.Compile(mustRead(t, s))
	if !ok || !impl.CodeOk(c) {
		t.Fatalf("%q: no code comes of it", s)
	}
	return c
}

func wantOrdersOf(t *testing.T, s, want string) {
	t.Helper()
	if got := string(impl.CodeText(mustCompile(t, s))); got != written(want) {
		t.Errorf("%q: orders are\n%swant\n%s", s, got, written(want))
	}
	wantCompiled(t, mustRead(t, s))
}

// The chapter once more: a plain compiler tells a register as a number from its caller, and knows each place as it counts what lies ahead.
type plainCompiler struct {
	p      impl.Prog
	locals []string
	most   int
}

func (k *plainCompiler) names(l []impl.St) {
	for _, s := range l {
		if s.Kind == impl.StLet && !slices.Contains(k.locals, string(s.Name)) {
			k.locals = append(k.locals, string(s.Name))
		}
		k.names(s.Body)
		k.names(s.Else)
	}
}

func (k *plainCompiler) local(b []byte) int { return slices.Index(k.locals, string(b)) }

func (k *plainCompiler) unitOf(name []byte) int {
	return slices.IndexFunc(k.p.Funcs, func(f impl.Func) bool { return string(f.Name) == string(name) })
}

func (k *plainCompiler) at(e impl.Ex, r int) []impl.Ins {
	k.most = max(k.most, r)
	clear := func(n int) impl.Ins { return ins(impl.IxNil, n, 0, 0) }
	var l []impl.Ins
	for i, x := range e.Args {
		l = append(l, k.at(x, r+i)...)
	}
	switch e.Kind {
	case impl.ExNil:
		return append(l, clear(r))
	case impl.ExNum:
		return append(l, ins(impl.IxNum, r, e.N, 0))
	case impl.ExName:
		return append(l, ins(impl.IxMove, r, k.local(e.Name), 0))
	case impl.ExNew:
		return append(l, ins(impl.IxNew, r, 0, 0))
	case impl.ExGet:
		return append(l, named(impl.IxGet, r, r, 0, string(e.Name)))
	case impl.ExWeak:
		return append(l, ins(impl.IxWeak, r, r, 0))
	case impl.ExLive:
		return append(l, ins(impl.IxLive, r, r, 0))
	case impl.ExBin:
		return append(l, ins(impl.IxBin, r, r, e.N), clear(r+1))
	}
	l = append(l, ins(impl.IxCall, r, k.unitOf(e.Name), r))
	for i := 1; i < len(e.Args); i++ {
		l = append(l, clear(r+i))
	}
	return l
}

func (k *plainCompiler) block(l []impl.St, from int) []impl.Ins {
	var all []impl.Ins
	for _, s := range l {
		all = append(all, k.statement(s, from+len(all))...)
	}
	return all
}

func (k *plainCompiler) statement(s impl.St, from int) []impl.Ins {
	r := len(k.locals)
	row := func(l ...impl.Ins) []impl.Ins { return l }
	clear := ins(impl.IxNil, r, 0, 0)
	ahead := append(row(impl.Ins{}), k.at(s.E, r)...)
	here := from + len(ahead)
	switch s.Kind {
	case impl.StLet, impl.StSet:
		return append(ahead, ins(impl.IxMove, k.local(s.Name), r, 0), clear)
	case impl.StPut:
		return slices.Concat(ahead, k.at(s.F, r+1), row(named(impl.IxPut, r, r+1, 0, string(s.Name)), ins(impl.IxNil, r+1, 0, 0), clear))
	case impl.StPrint:
		return append(ahead, ins(impl.IxShow, r, 0, 0), clear)
	case impl.StReturn:
		return append(ahead, ins(impl.IxBack, r, 0, 0), clear)
	case impl.StWhile:
		body := k.block(s.Body, here+1)
		return slices.Concat(ahead, row(ins(impl.IxZero, r, here+len(body)+2, 0)), body, row(ins(impl.IxJump, from, 0, 0), clear))
	case impl.StIf:
		body := k.block(s.Body, here+2)
		second := here + 2 + len(body) + 1
		other := k.block(s.Else, second+1)
		return slices.Concat(ahead, row(ins(impl.IxZero, r, second, 0), clear), body, row(ins(impl.IxJump, second+1+len(other), 0, 0), clear), other)
	}
	return append(ahead, clear)
}

func plainCompiled(p impl.Prog) impl.Code {
	var c impl.Code
	for _, f := range p.Funcs {
		k := plainCompiler{p: p}
		for _, s := range f.Params {
			k.locals = append(k.locals, string(s))
		}
		k.names(f.Body)
		r := len(k.locals)
		l := append(k.block(f.Body, 0), ins(impl.IxNil, r, 0, 0), ins(impl.IxBack, r, 0, 0))
		c.Units = append(c.Units, unit(len(f.Params), max(r, k.most)+1, l...))
	}
	return c
}

// wantCompiled is promise 7 of Compile, for a program that is ProgOk.
func wantCompiled(t *testing.T, p impl.Prog) impl.Code {
	t.Helper()
	c, ok := impl.Compile(p)
	if want := plainCompiled(p); !ok || !sameCode(c, want) {
		t.Fatalf("%q: %v, and orders are\n%swant\n%s", impl.ProgText(p), ok, impl.CodeText(c), plainText(want))
	}
	if !impl.CodeOk(c) || len(c.Units) != len(p.Funcs) {
		t.Fatalf("%q: %d units, CodeOk is %v", impl.ProgText(p), len(c.Units), impl.CodeOk(c))
	}
	statements := 0
	for kind := impl.StLet; kind <= impl.StDo; kind++ {
		statements += impl.CountSts(p, kind)
	}
	if n := impl.OpsOf(c, impl.IxTick); n != statements {
		t.Fatalf("%q: %d ticks for %d statements", impl.ProgText(p), n, statements)
	}
	for i, u := range c.Units {
		if r := len(impl.Locals(p.Funcs[i])); u.Params != len(p.Funcs[i].Params) || u.Regs <= r || impl.Greatest(u) != u.Regs-1 {
			t.Fatalf("%q: unit %d has Params %d, Regs %d; Greatest is %d", impl.ProgText(p), i, u.Params, u.Regs, impl.Greatest(u))
		}
	}
	wantCode(t, string(impl.ProgText(p)), c, true)
	return c
}

// wantNoOrders: no code comes of it.
func wantNoOrders(t *testing.T, what string, p impl.Prog) {
	t.Helper()
	if c, ok := impl.Compile(p); ok || len(c.Units) > 0 {
		t.Errorf("%s: Compile answers %v, %v", what, c, ok)
	}
}

func TestCompileEachStatement(t *testing.T) {
	for s, want := range map[string]string{
		"":                      "unit 0 1; nil 0; back 0",
		"let x = 7;":            "unit 0 2; tick; num 1 7; move 0 1; nil 1; nil 1; back 1",
		"let x = 7; set x = 8;": "unit 0 2; tick; num 1 7; move 0 1; nil 1; tick; num 1 8; move 0 1; nil 1; nil 1; back 1",
		"let x = 7; let y = 8; set x = y; set y = x;": "unit 0 3; tick; num 2 7; move 0 2; nil 2; tick; num 2 8; move 1 2; nil 2; tick; move 2 1; move 0 2; nil 2; tick; move 2 0; move 1 2; nil 2; nil 2; back 2",
		"set 5.a = 3;":                                "unit 0 2; tick; num 0 5; num 1 3; put 0 1 a; nil 1; nil 0; nil 0; back 0",
		"let x = new; set x.abcdef = x;":              "unit 0 3; tick; new 1; move 0 1; nil 1; tick; move 1 0; move 2 0; put 1 2 abcdef; nil 2; nil 1; nil 1; back 1",
		"print 0;":                                    "unit 0 1; tick; num 0 0; show 0; nil 0; nil 0; back 0",
		"return 999999;":                              "unit 0 1; tick; num 0 999999; back 0; nil 0; nil 0; back 0",
		"return 1; print 2;":                          "unit 0 1; tick; num 0 1; back 0; nil 0; tick; num 0 2; show 0; nil 0; nil 0; back 0",
		"do 4;":                                       "unit 0 1; tick; num 0 4; nil 0; nil 0; back 0",
		"do 4; do 5;":                                 "unit 0 1; tick; num 0 4; nil 0; tick; num 0 5; nil 0; nil 0; back 0",
		"if 1 { };":                                   "unit 0 1; tick; num 0 1; zero 0 5; nil 0; jump 6; nil 0; nil 0; back 0",
		"if 1 { do 2; };":                             "unit 0 1; tick; num 0 1; zero 0 8; nil 0; tick; num 0 2; nil 0; jump 9; nil 0; nil 0; back 0",
		"if 1 { } else { do 2; };":                    "unit 0 1; tick; num 0 1; zero 0 5; nil 0; jump 9; nil 0; tick; num 0 2; nil 0; nil 0; back 0",
		"if 1 { do 2; } else { do 3; };":              "unit 0 1; tick; num 0 1; zero 0 8; nil 0; tick; num 0 2; nil 0; jump 12; nil 0; tick; num 0 3; nil 0; nil 0; back 0",
		"if 1 { let x = 2; }; do x;":                  "unit 0 2; tick; num 1 1; zero 1 9; nil 1; tick; num 1 2; move 0 1; nil 1; jump 10; nil 1; tick; move 1 0; nil 1; nil 1; back 1",
		"while 1 { };":                                "unit 0 1; tick; num 0 1; zero 0 4; jump 0; nil 0; nil 0; back 0",
		"while 1 { do 2; };":                          "unit 0 1; tick; num 0 1; zero 0 7; tick; num 0 2; nil 0; jump 0; nil 0; nil 0; back 0",
		"do 3; while 1 { };":                          "unit 0 1; tick; num 0 3; nil 0; tick; num 0 1; zero 0 7; jump 3; nil 0; nil 0; back 0",
		"do 3; if 1 { }; do 4;":                       "unit 0 1; tick; num 0 3; nil 0; tick; num 0 1; zero 0 8; nil 0; jump 9; nil 0; tick; num 0 4; nil 0; nil 0; back 0",
		"while 1 { while 2 { }; };":                   "unit 0 1; tick; num 0 1; zero 0 9; tick; num 0 2; zero 0 7; jump 3; nil 0; jump 0; nil 0; nil 0; back 0",
		"while 1 { if 2 { }; };":                      "unit 0 1; tick; num 0 1; zero 0 10; tick; num 0 2; zero 0 8; nil 0; jump 9; nil 0; jump 0; nil 0; nil 0; back 0",
		"if 1 { while 2 { }; };":                      "unit 0 1; tick; num 0 1; zero 0 10; nil 0; tick; num 0 2; zero 0 8; jump 4; nil 0; jump 11; nil 0; nil 0; back 0",
		"if 1 { } else { while 2 { }; };":             "unit 0 1; tick; num 0 1; zero 0 5; nil 0; jump 11; nil 0; tick; num 0 2; zero 0 10; jump 6; nil 0; nil 0; back 0",
		"if 1 { if 2 { } else { do 3; }; } else { };": "unit 0 1; tick; num 0 1; zero 0 14; nil 0; tick; num 0 2; zero 0 9; nil 0; jump 13; nil 0; tick; num 0 3; nil 0; jump 15; nil 0; nil 0; back 0",
		"if 1 { } else { if 2 { do 3; }; };":          "unit 0 1; tick; num 0 1; zero 0 5; nil 0; jump 15; nil 0; tick; num 0 2; zero 0 14; nil 0; tick; num 0 3; nil 0; jump 15; nil 0; nil 0; back 0",
		"while 1 { return 2; }; if 3 { } else { return 4; };": "unit 0 1; tick; num 0 1; zero 0 8; tick; num 0 2; back 0; nil 0; jump 0; nil 0; tick; num 0 3; zero 0 14; nil 0; jump 19; nil 0; tick; num 0 4; back 0; nil 0; nil 0; back 0",
	} {
		wantOrdersOf(t, in(s), want)
	}
}

func TestCompileEachExpression(t *testing.T) {
	for s, want := range map[string]string{
		"nil":                       "unit 0 1; tick; nil 0; nil 0; nil 0; back 0",
		"0":                         "unit 0 1; tick; num 0 0; nil 0; nil 0; back 0",
		"999999":                    "unit 0 1; tick; num 0 999999; nil 0; nil 0; back 0",
		"new":                       "unit 0 1; tick; new 0; nil 0; nil 0; back 0",
		"new.a":                     "unit 0 1; tick; new 0; get 0 0 a; nil 0; nil 0; back 0",
		"new.abcdef.a":              "unit 0 1; tick; new 0; get 0 0 abcdef; get 0 0 a; nil 0; nil 0; back 0",
		"weak(new)":                 "unit 0 1; tick; new 0; weak 0 0; nil 0; nil 0; back 0",
		"live(1)":                   "unit 0 1; tick; num 0 1; live 0 0; nil 0; nil 0; back 0",
		"live(weak(new.a)).b":       "unit 0 1; tick; new 0; get 0 0 a; weak 0 0; live 0 0; get 0 0 b; nil 0; nil 0; back 0",
		"(1 + 2)":                   "unit 0 2; tick; num 0 1; num 1 2; bin 0 0 43; nil 1; nil 0; nil 0; back 0",
		"(1 - 2)":                   "unit 0 2; tick; num 0 1; num 1 2; bin 0 0 45; nil 1; nil 0; nil 0; back 0",
		"(1 * 2)":                   "unit 0 2; tick; num 0 1; num 1 2; bin 0 0 42; nil 1; nil 0; nil 0; back 0",
		"(1 < 2)":                   "unit 0 2; tick; num 0 1; num 1 2; bin 0 0 60; nil 1; nil 0; nil 0; back 0",
		"(1 = 2)":                   "unit 0 2; tick; num 0 1; num 1 2; bin 0 0 61; nil 1; nil 0; nil 0; back 0",
		"((1 + 2) - 3)":             "unit 0 2; tick; num 0 1; num 1 2; bin 0 0 43; nil 1; num 1 3; bin 0 0 45; nil 1; nil 0; nil 0; back 0",
		"(1 + (2 - 3))":             "unit 0 3; tick; num 0 1; num 1 2; num 2 3; bin 1 1 45; nil 2; bin 0 0 43; nil 1; nil 0; nil 0; back 0",
		"((1 + 2) - (3 * 4))":       "unit 0 3; tick; num 0 1; num 1 2; bin 0 0 43; nil 1; num 1 3; num 2 4; bin 1 1 42; nil 2; bin 0 0 45; nil 1; nil 0; nil 0; back 0",
		"(nil = weak((new = nil)))": "unit 0 3; tick; nil 0; new 1; nil 2; bin 1 1 61; nil 2; weak 1 1; bin 0 0 61; nil 1; nil 0; nil 0; back 0",
		"main()":                    "unit 0 1; tick; call 0 0 0; nil 0; nil 0; back 0",
		"(main() + main())":         "unit 0 2; tick; call 0 0 0; call 1 0 1; bin 0 0 43; nil 1; nil 0; nil 0; back 0",
		"main().a":                  "unit 0 1; tick; call 0 0 0; get 0 0 a; nil 0; nil 0; back 0",
	} {
		wantOrdersOf(t, in("do "+s+";"), want)
	}
}

// Functions with 0, 1, 2 and 3 Params.
const others = " func g(p) { } func h(p, q) { } func k(p, q, o) { }"
const ofOthers = "; unit 1 2; nil 1; back 1; unit 2 3; nil 2; back 2; unit 3 4; nil 3; back 3"

func TestCompileCalls(t *testing.T) {
	for s, want := range map[string]string{
		"do g(7);":                         "unit 0 1; tick; num 0 7; call 0 1 0; nil 0; nil 0; back 0",
		"do h(7, 8);":                      "unit 0 2; tick; num 0 7; num 1 8; call 0 2 0; nil 1; nil 0; nil 0; back 0",
		"do k(7, 8, 9);":                   "unit 0 3; tick; num 0 7; num 1 8; num 2 9; call 0 3 0; nil 1; nil 2; nil 0; nil 0; back 0",
		"let x = k(7, nil, new);":          "unit 0 4; tick; num 1 7; nil 2; new 3; call 1 3 1; nil 2; nil 3; move 0 1; nil 1; nil 1; back 1",
		"set main().a = k(1, 2, 3);":       "unit 0 4; tick; call 0 0 0; num 1 1; num 2 2; num 3 3; call 1 3 1; nil 2; nil 3; put 0 1 a; nil 1; nil 0; nil 0; back 0",
		"do k(g(1), h(2, 3), k(4, 5, 6));": "unit 0 5; tick; num 0 1; call 0 1 0; num 1 2; num 2 3; call 1 2 1; nil 2; num 2 4; num 3 5; num 4 6; call 2 3 2; nil 3; nil 4; call 0 3 0; nil 1; nil 2; nil 0; nil 0; back 0",
		"do h(h(1, 2), 3);":                "unit 0 2; tick; num 0 1; num 1 2; call 0 2 0; nil 1; num 1 3; call 0 2 0; nil 1; nil 0; nil 0; back 0",
		"do (1 + k(2, 3, 4));":             "unit 0 4; tick; num 0 1; num 1 2; num 2 3; num 3 4; call 1 3 1; nil 2; nil 3; bin 0 0 43; nil 1; nil 0; nil 0; back 0",
		"do k((1 + 2), 3, main());":        "unit 0 3; tick; num 0 1; num 1 2; bin 0 0 43; nil 1; num 1 3; call 2 0 2; call 0 3 0; nil 1; nil 2; nil 0; nil 0; back 0",
		"while g(1) { do main(); };":       "unit 0 1; tick; num 0 1; call 0 1 0; zero 0 8; tick; call 0 0 0; nil 0; jump 0; nil 0; nil 0; back 0",
	} {
		wantOrdersOf(t, in(s)+others, want+ofOthers)
	}
	wantOrdersOf(t, "func a() { do b(1); } func b(x) { do b(x); do a(); do c(); } func c() { do a(); do b(2); }",
		"unit 0 1; tick; num 0 1; call 0 1 0; nil 0; nil 0; back 0;"+
			"unit 1 2; tick; move 1 0; call 1 1 1; nil 1; tick; call 1 0 1; nil 1; tick; call 1 2 1; nil 1; nil 1; back 1;"+
			"unit 0 1; tick; call 0 0 0; nil 0; tick; num 0 2; call 0 1 0; nil 0; nil 0; back 0")
}

func TestCompileFunctions(t *testing.T) {
	wantOrdersOf(t, "func a() { } func b() { } func c() { } func d() { }", strings.Repeat("unit 0 1; nil 0; back 0;", 3)+"unit 0 1; nil 0; back 0")
	wantOrdersOf(t, "func a() { } func b(x, y, z) { print z; let u = y; set x = u; }",
		"unit 0 1; nil 0; back 0; unit 3 5; tick; move 4 2; show 4; nil 4; tick; move 4 1; move 3 4; nil 4; tick; move 4 3; move 0 4; nil 4; nil 4; back 4")
	// a name is a local, a function and a field all the same
	wantOrdersOf(t, "func a() { let a = a(); set a.a = b(a.a); } func b(b) { return b(b); }",
		"unit 0 3; tick; call 1 0 1; move 0 1; nil 1; tick; move 1 0; move 2 0; get 2 2 a; call 2 1 2; put 1 2 a; nil 2; nil 1; nil 1; back 1;"+
			"unit 1 2; tick; move 1 0; call 1 1 1; back 1; nil 1; nil 1; back 1")
	// places are those of the unit itself
	wantOrdersOf(t, "func a() { while 1 { }; } func b() { while 2 { }; }",
		"unit 0 1; tick; num 0 1; zero 0 4; jump 0; nil 0; nil 0; back 0; unit 0 1; tick; num 0 2; zero 0 4; jump 0; nil 0; nil 0; back 0")
}

const eight = "let a = 1; let b = 2; let c = 3; let d = 4; let e = 5; let f = 6; let i = 7; let j = 8; "

func TestCompileRegs(t *testing.T) {
	for s, want := range map[string]int{
		"":                               1,
		"do 1;":                          1,
		"let x = 1;":                     2,
		"let x = 1; let y = 2;":          3,
		eight:                            9,
		eight + "do j;":                  9,
		eight + "do (a + b);":            10,
		eight + "set a.a = b;":           10,
		"do main();":                     1,
		"do g(1);":                       1,
		"do h(1, 2);":                    2,
		"do k(1, 2, 3);":                 3,
		"let x = k(1, 2, 3);":            4,
		"do g(g(g(g(1))));":              1,
		"do h(1, h(2, h(3, 4)));":        4,
		"do h(h(h(1, 2), 3), 4);":        2,
		"set 1.a = 2;":                   2,
		"set 1.a = (2 + 3);":             3,
		"set 1.a = k(1, 2, 3);":          4,
		"set k(1, 2, 3).a = 4;":          3,
		"set k(1, 2, 3).a = k(4, 5, 6);": 4,
		// the greatest is in a place that is not the last
		"do k(1, 2, 3); do 4;":                                3,
		"do k(k(1, 2, k(3, 4, 5)), 6, 7);":                    5,
		"do (k(1, 2, 3) + 4);":                                3,
		"while k(1, 2, 3) { do 4; };":                         3,
		"while 4 { do k(1, 2, 3); do 5; };":                   3,
		"if 4 { do k(1, 2, 3); } else { do 5; };":             3,
		"if 4 { do 5; } else { do k(1, 2, 3); do 6; };":       3,
		"return k(1, 2, 3); return (1 + 2);":                  3,
		"let x = (1 + (2 + (3 + 4))); let y = 5; do (x + y);": 6,
		// 8 locals, what is put one further, four calls in each other, each two further: no program asks for more
		eight + "set a.a = k(1, 2, k(3, 4, k(5, 6, k(7, 8, 9))));": 18,
		eight + "do k(1, 2, k(3, 4, k(5, 6, k(7, 8, 9))));":        17,
		eight + "set k(1, 2, k(3, 4, k(5, 6, k(7, 8, 9)))).a = 1;": 17,
	} {
		c := wantCompiled(t, mustRead(t, in(s)+others))
		if n := c.Units[0].Regs; n != want {
			t.Errorf("%q: Regs %d; want %d", s, n, want)
		}
		// as the second function all the same
		p := mustRead(t, in(s)+others)
		p.Funcs = append([]impl.Func{fun("first", "")}, p.Funcs[0], p.Funcs[1], p.Funcs[3])
		if impl.ProgOk(p) && wantCompiled(t, p).Units[1].Regs != want {
			t.Errorf("%q: Regs of the second are not %d", s, want)
		}
	}
	c := wantCompiled(t, mustRead(t, "func a() { } func b(p, q, o) { let d = 4; let e = 5; let f = 6; let i = 7; let j = 8; do (p + (q + o)); }"))
	if u := c.Units[1]; u.Params != 3 || u.Regs != 11 {
		t.Errorf("with Params: %d, %d", u.Params, u.Regs)
	}
}

// A StIf makes the most of two parts: no program has more orders in one unit, nor in all.
func TestCompileTheMostOrders(t *testing.T) {
	all := times(impl.MaxNodes/2, choose(nothing(), nil, nil))
	wantInts(t, "one unit", impl.UnitSizes(wantCompiled(t, mainOf(all...))), 272)
	p := prog(fun("a", "", all[:20]...), fun("b", "x", all[20:40]...), fun("c", "x y", all[40:]...), fun("d", ""))
	wantInts(t, "four units", impl.UnitSizes(wantCompiled(t, p)), 122, 122, 32, 2)
	wantNoOrders(t, "one part more", mainOf(append(slices.Clone(all), do(nothing()))...))
	wantInts(t, "in each other", impl.UnitSizes(wantCompiled(t, mainOf(loop(num(1), all[1:]...)))), 5+264+2)
}

func TestCompileOfWhatIsNotProgOk(t *testing.T) {
	wantNoOrders(t, "no function", impl.Prog{})
	for what, p := range map[string]impl.Prog{
		"the first has Params":     prog(fun("f", "a")),
		"functions alike":          prog(fun("f", ""), fun("f", "")),
		"five functions":           prog(fun("a", ""), fun("b", ""), fun("c", ""), fun("d", ""), fun("e", "")),
		"a kept name":              prog(fun("let", "")),
		"Params alike":             prog(fun("f", ""), fun("g", "a a")),
		"four Params":              prog(fun("f", ""), fun("g", "a b c d")),
		"a name that is not known": mainOf(do(name("x"))),
		"one that is known later":  mainOf(do(name("x")), let("x", num(1))),
		"of its own E":             mainOf(let("x", name("x"))),
		"set, but not let":         mainOf(set("x", num(1))),
		"let twice":                mainOf(let("x", num(1)), let("x", num(1))),
		"a local of another":       prog(fun("f", "", let("x", num(1))), fun("g", "", do(name("x")))),
		"a call of none":           mainOf(do(call("f"))),
		"asked with less":          prog(fun("f", "", do(call("g"))), fun("g", "a")),
		"asked with more":          prog(fun("f", "", do(call("g", num(1), num(2)))), fun("g", "a")),
		"a number":                 mainOf(do(num(1000000))),
		"a number below 0":         mainOf(do(num(-1))),
		"a sign":                   mainOf(do(bin(num(1), '/', num(2)))),
		"a kind of expression":     mainOf(do(exOf(9, 0, ""))),
		"a kind of statement":      mainOf(impl.St{Kind: 8}),
		"too deep":                 mainOf(do(deepEx(5, weak))),
		"too many parts":           mainOf(times(46, do(num(1)))...),
	} {
		if impl.ProgOk(p) {
			t.Errorf("%s: it is ProgOk", what)
		}
		wantNoOrders(t, what, p)
	}
	l := mustRead(t, in(eight))
	wantCompiled(t, l)
	l.Funcs[0].Body = append(l.Funcs[0].Body, let("k", num(9)))
	wantNoOrders(t, "nine locals", l)
	round := []impl.Ex{weak(nothing())}
	round[0].Args = round
	wantNoOrders(t, "a round", mainOf(do(round[0])))
}

// exWraps put an expression into each other, at each place.
func exWraps() []func(impl.Ex) impl.Ex {
	l := []func(impl.Ex) impl.Ex{
		func(e impl.Ex) impl.Ex { return get(e, "a") },
		weak,
		live,
		func(e impl.Ex) impl.Ex { return call("g", e) },
		func(e impl.Ex) impl.Ex { return call("h", e, num(2)) },
		func(e impl.Ex) impl.Ex { return call("h", num(1), e) },
		func(e impl.Ex) impl.Ex { return call("k", e, num(2), num(3)) },
		func(e impl.Ex) impl.Ex { return call("k", num(1), e, num(3)) },
		func(e impl.Ex) impl.Ex { return call("k", num(1), num(2), e) },
	}
	for i, c := range []byte("+-*<=") {
		l = append(l, func(e impl.Ex) impl.Ex {
			if i%2 == 0 {
				return bin(e, c, num(5))
			}
			return bin(num(4), c, e)
		})
	}
	return append(l, func(e impl.Ex) impl.Ex { return bin(e, '-', e) }, func(e impl.Ex) impl.Ex { return bin(num(6), '<', e) })
}

// stWraps have an expression in each statement, at each place.
func stWraps() []func(impl.Ex) impl.St {
	block := []impl.St{show(name("y"))}
	return []func(impl.Ex) impl.St{
		func(e impl.Ex) impl.St { return let("z", e) },
		func(e impl.Ex) impl.St { return set("x", e) },
		func(e impl.Ex) impl.St { return put(e, "b", name("x")) },
		func(e impl.Ex) impl.St { return put(name("y"), "c", e) },
		show, back, do,
		func(e impl.Ex) impl.St { return choose(e, block, nil) },
		func(e impl.Ex) impl.St { return choose(e, nil, block) },
		func(e impl.Ex) impl.St { return choose(num(1), []impl.St{do(e)}, []impl.St{show(e)}) },
		func(e impl.Ex) impl.St { return loop(e, block...) },
		func(e impl.Ex) impl.St { return loop(num(1), do(e)) },
	}
}

func TestCompileExpressionsInEachOther(t *testing.T) {
	fs := mustRead(t, in("")+others).Funcs[1:]
	leaves := []impl.Ex{nothing(), num(7), name("x"), name("y"), fresh(), call("main")}
	with := func(s impl.St) impl.Prog {
		return prog(append([]impl.Func{fun("main", "", let("x", num(1)), let("y", num(2)), s, show(name("y")))}, fs...)...)
	}
	for _, st := range stWraps() {
		for i, leaf := range leaves {
			wantCompiled(t, with(st(leaf)))
			for _, a := range exWraps() {
				wantCompiled(t, with(st(a(leaf))))
				for j, b := range exWraps() {
					if j%3 == i%3 {
						wantCompiled(t, with(st(b(a(leaf)))))
					}
				}
			}
		}
	}
}

func TestCompileStatementsInEachOther(t *testing.T) {
	simple := []impl.St{show(num(2)), let("z", num(3)), set("x", name("y")), put(name("x"), "a", name("y")), back(name("x")), do(fresh()), loop(num(1)), choose(num(1), nil, nil)}
	wraps := []func(...impl.St) impl.St{
		func(l ...impl.St) impl.St { return loop(name("x"), l...) },
		func(l ...impl.St) impl.St { return choose(name("x"), l, nil) },
		func(l ...impl.St) impl.St { return choose(name("x"), nil, l) },
		func(l ...impl.St) impl.St { return choose(bin(name("x"), '<', num(9)), l, []impl.St{show(num(8))}) },
		func(l ...impl.St) impl.St { return choose(name("y"), []impl.St{show(num(8)), do(num(7))}, l) },
	}
	with := func(l ...impl.St) {
		t.Helper()
		wantCompiled(t, mainOf(append([]impl.St{let("x", num(1)), let("y", num(2))}, l...)...))
	}
	for _, s := range simple {
		with(s)
		for _, a := range wraps {
			with(a(s))
			with(do(num(1)), a(s, do(num(2))), do(num(3)))
			for _, b := range wraps {
				with(b(a(s)))
				with(b(do(num(1)), a(s), show(num(2))))
				with(b(a(), a(s)), a(do(num(4))))
				for _, c := range wraps {
					with(c(b(a(s)), do(num(5))), do(num(6)))
				}
			}
		}
	}
}

// Promise 7 over many made programs; where one is not ProgOk, no code comes of it.
func TestMadePrograms(t *testing.T) {
	r := rand.New(rand.NewSource(23))
	good := 0
	for range 4000 {
		p := playerProgram(r)
		if !impl.ProgOk(p) {
			wantNoOrders(t, string(impl.ProgText(p)), p)
			continue
		}
		good++
		wantCompiled(t, p)
	}
	if good < 1000 {
		t.Errorf("only %d programs: the test sees too few", good)
	}
	m := maker{r}
	for range 4000 {
		p := m.program(m.Intn(4))
		if !impl.ProgOk(p) {
			wantNoOrders(t, string(impl.ProgText(p)), p)
		} else {
			wantCompiled(t, p)
		}
	}
}

func TestCompileOnlyReads(t *testing.T) {
	r := rand.New(rand.NewSource(24))
	l := []impl.Prog{mustRead(t, in("print x;")), {}}
	for _, s := range right {
		l = append(l, mustRead(t, s))
	}
	for range 400 {
		l = append(l, playerProgram(r))
	}
	for _, p := range l {
		var k tracker
		q := k.program(p)
		before := k.picture()
		first, ok := impl.Compile(q)
		second, _ := impl.Compile(q)
		if k.picture() != before {
			t.Fatalf("%q is changed", impl.ProgText(p))
		}
		if !ok {
			continue
		}
		want := plainText(plainCompiled(p))
		if plainText(first) != want {
			t.Fatalf("what lies behind the lists of %q is read", impl.ProgText(p))
		}
		taken(t, first)
		if k.picture() != before {
			t.Fatalf("%q shares memory with its code", impl.ProgText(p))
		}
		for _, b := range k.bytes {
			overwritten(b, '!')
		}
		if plainText(second) != want {
			t.Fatalf("the code of %q changes with the program, or with another one", fmt.Sprint(p))
		}
	}
}
