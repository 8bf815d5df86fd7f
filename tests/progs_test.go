package tests

// Promises 1 and 13, their parts of chapter 2: what a program may be, and what is told of one.

import (
	"bytes"
	"math"
	"slices"
	"strings"
	"testing"

	"loop.example/g00547/impl"
)

func exOf(kind, n int, name string, args ...impl.Ex) impl.Ex {
	return impl.Ex{Kind: kind, N: n, Name: []byte(name), Args: args}
}

func nothing() impl.Ex                         { return impl.Ex{} }
func num(n int) impl.Ex                        { return exOf(impl.ExNum, n, "") }
func name(s string) impl.Ex                    { return exOf(impl.ExName, 0, s) }
func fresh() impl.Ex                           { return exOf(impl.ExNew, 0, "") }
func get(e impl.Ex, s string) impl.Ex          { return exOf(impl.ExGet, 0, s, e) }
func call(s string, args ...impl.Ex) impl.Ex   { return exOf(impl.ExCall, 0, s, args...) }
func bin(a impl.Ex, c byte, b impl.Ex) impl.Ex { return exOf(impl.ExBin, int(c), "", a, b) }
func weak(e impl.Ex) impl.Ex                   { return exOf(impl.ExWeak, 0, "", e) }
func live(e impl.Ex) impl.Ex                   { return exOf(impl.ExLive, 0, "", e) }

func let(s string, e impl.Ex) impl.St { return impl.St{Kind: impl.StLet, Name: []byte(s), E: e} }
func set(s string, e impl.Ex) impl.St { return impl.St{Kind: impl.StSet, Name: []byte(s), E: e} }
func put(e impl.Ex, s string, f impl.Ex) impl.St {
	return impl.St{Kind: impl.StPut, Name: []byte(s), E: e, F: f}
}
func show(e impl.Ex) impl.St               { return impl.St{Kind: impl.StPrint, E: e} }
func back(e impl.Ex) impl.St               { return impl.St{Kind: impl.StReturn, E: e} }
func do(e impl.Ex) impl.St                 { return impl.St{Kind: impl.StDo, E: e} }
func loop(e impl.Ex, l ...impl.St) impl.St { return impl.St{Kind: impl.StWhile, E: e, Body: l} }
func choose(e impl.Ex, body, other []impl.St) impl.St {
	return impl.St{Kind: impl.StIf, E: e, Body: body, Else: other}
}

func fun(s string, params string, body ...impl.St) impl.Func {
	f := impl.Func{Name: []byte(s), Body: body}
	for _, p := range strings.Fields(params) {
		f.Params = append(f.Params, []byte(p))
	}
	return f
}

func prog(l ...impl.Func) impl.Prog    { return impl.Prog{Funcs: l} }
func mainOf(body ...impl.St) impl.Prog { return prog(fun("main", "", body...)) }
func times(n int, s impl.St) []impl.St { return slices.Repeat([]impl.St{s}, n) }
func names(l [][]byte) string          { return string(bytes.Join(l, []byte(" "))) }
func sameNames(a, b [][]byte) bool     { return slices.EqualFunc(a, b, bytes.Equal) }
func sameExs(a, b []impl.Ex) bool      { return slices.EqualFunc(a, b, sameEx) }
func sameSts(a, b []impl.St) bool      { return slices.EqualFunc(a, b, sameSt) }
func sameProg(a, b impl.Prog) bool     { return slices.EqualFunc(a.Funcs, b.Funcs, sameFunc) }

func sameEx(a, b impl.Ex) bool {
	return a.Kind == b.Kind && a.N == b.N && bytes.Equal(a.Name, b.Name) && sameExs(a.Args, b.Args)
}

func sameSt(a, b impl.St) bool {
	return a.Kind == b.Kind && bytes.Equal(a.Name, b.Name) && sameEx(a.E, b.E) && sameEx(a.F, b.F) &&
		sameSts(a.Body, b.Body) && sameSts(a.Else, b.Else)
}

func sameFunc(a, b impl.Func) bool {
	return bytes.Equal(a.Name, b.Name) && sameNames(a.Params, b.Params) && sameSts(a.Body, b.Body)
}

func mustRead(t *testing.T, s string) impl.Prog {
	t.Helper()
	p, bad := impl.ProgRead([]byte(s))
	if bad != -1 {
		t.Fatalf("%q cannot be read: %d", s, bad)
	}
	return p
}

// wantForm also looks at all that answers only when a program is FormOk or ProgOk.
func wantForm(t *testing.T, what string, p impl.Prog, want bool) {
	t.Helper()
	if impl.FormOk(p) != want {
		t.Errorf("%s: FormOk is not %v", what, want)
		return
	}
	if want {
		if len(impl.ProgText(p)) == 0 {
			t.Errorf("%s: there is no text", what)
		}
		return
	}
	if impl.ProgOk(p) || len(impl.ProgText(p)) != 0 || impl.UsesWeak(p) || impl.Nodes(p) != 0 || impl.Deepest(p) != 0 {
		t.Errorf("%s: not FormOk, but more is told", what)
	}
	wantNotOk(t, what, p)
}

func wantNotOk(t *testing.T, what string, p impl.Prog) {
	t.Helper()
	if impl.ProgOk(p) {
		t.Errorf("%s: ProgOk", what)
	}
	asked := []byte("main")
	if len(p.Funcs) > 0 {
		asked = p.Funcs[0].Name
	}
	if impl.FuncAt(p, asked) != -1 || len(impl.AllNames(p)) != 0 || impl.HasLoop(p) {
		t.Errorf("%s: not ProgOk, but functions or loops are told", what)
	}
	for kind := -1; kind <= 9; kind++ {
		if impl.CountSts(p, kind) != -1 || impl.CountExs(p, kind) != -1 {
			t.Errorf("%s: not ProgOk, but kind %d is counted", what, kind)
		}
	}
}

var badNames = []string{"", "abcdefg", "A", "a1", "1", "a b", " ", ";", "é",
	"func", "let", "set", "print", "return", "if", "else", "while", "do", "nil", "new", "weak", "live"}

func TestFormOkOfFunctions(t *testing.T) {
	wantForm(t, "no function", impl.Prog{}, false)
	wantForm(t, "an empty list", impl.Prog{Funcs: []impl.Func{}}, false)
	for n := 1; n <= impl.MaxFuncs+1; n++ {
		p := prog(slices.Repeat([]impl.Func{fun("f", "")}, n)...)
		wantForm(t, "some functions", p, n <= impl.MaxFuncs)
	}
	wantForm(t, "many functions", impl.Prog{Funcs: make([]impl.Func, 10000)}, false)
	for _, s := range badNames {
		wantForm(t, "named "+s, prog(fun(s, "")), false)
		wantForm(t, "second named "+s, prog(fun("a", ""), fun(s, "")), false)
	}
	for _, s := range []string{"a", "abcdef", "lets", "fun", "alive"} {
		wantForm(t, "named "+s, prog(fun(s, "")), true)
	}
	wantForm(t, "no name", prog(impl.Func{}), false)
	wantForm(t, "names alike", prog(fun("a", ""), fun("a", "")), true)
}

func TestFormOkOfParams(t *testing.T) {
	for params, want := range map[string]bool{"": true, "a": true, "a b": true, "a b c": true, "a a a": true, "a b c d": false, "a b c d e": false} {
		wantForm(t, params, prog(fun("f", params)), want)
		wantForm(t, params, prog(fun("f", ""), fun("f", params)), want)
	}
	for _, s := range badNames {
		for i := range 3 {
			f := fun("f", "a b c")
			f.Params[i] = []byte(s)
			wantForm(t, "a param "+s, prog(f), false)
		}
	}
	wantForm(t, "a nil param", prog(impl.Func{Name: []byte("f"), Params: make([][]byte, 1)}), false)
	wantForm(t, "many params", prog(impl.Func{Name: []byte("f"), Params: make([][]byte, 10000)}), false)
}

func TestFormOkOfNodes(t *testing.T) {
	nil2 := do(nothing()) // two parts
	nil3 := do(weak(nothing()))
	for what, x := range map[string]struct {
		p impl.Prog
		n int
	}{
		"90":             {mainOf(times(45, nil2)...), 90},
		"91":             {mainOf(append(times(44, nil2), nil3)...), 91},
		"92":             {mainOf(times(46, nil2)...), 92},
		"in two":         {prog(fun("a", "", times(20, nil2)...), fun("b", "p", times(25, nil2)...)), 90},
		"in two, more":   {prog(fun("a", "", times(20, nil2)...), fun("b", "p", append(times(24, nil2), nil3)...)), 91},
		"F counts":       {mainOf(times(30, put(nothing(), "a", nothing()))...), 90},
		"F counts, more": {mainOf(append(times(29, put(nothing(), "a", nothing())), nil2, nil2)...), 91},
		"Args count":     {mainOf(append(times(13, do(bin(num(1), '+', call("f", num(2), num(3))))), nil2, nil2, nil2, do(call("f", num(1), num(2), num(3))), nil2)...), 91},
		"Body counts":    {mainOf(loop(nothing(), times(44, nil2)...)), 90},
		"Body, more":     {mainOf(loop(nothing(), append(times(43, nil2), nil3)...)), 91},
		"Else counts":    {mainOf(choose(nothing(), times(4, nil2), times(40, nil2))), 90},
		"Else, more":     {mainOf(choose(nothing(), times(4, nil2), append(times(39, nil2), nil3))), 91},
		"Body of choice": {mainOf(choose(nothing(), append(times(39, nil2), nil3), times(4, nil2))), 91},
		"many":           {mainOf(times(10000, nil2)...), 20000},
		"many below":     {mainOf(loop(nothing(), times(10000, nil2)...)), 20002},
	} {
		wantForm(t, what, x.p, x.n <= impl.MaxNodes)
		if x.n <= impl.MaxNodes && impl.Nodes(x.p) != x.n {
			t.Errorf("%s: %d parts, not %d", what, impl.Nodes(x.p), x.n)
		}
	}
}

// deepEx is an expression with more below it, the last one so much deeper.
func deepEx(more int, wrap func(impl.Ex) impl.Ex) impl.Ex {
	e := num(1)
	for range more {
		e = wrap(e)
	}
	return e
}

func deepSt(more int, wrap func(impl.St) impl.St) impl.St {
	s := do(nothing())
	for range more {
		s = wrap(s)
	}
	return s
}

func wantDepth(t *testing.T, what string, p impl.Prog, depth int) {
	t.Helper()
	wantForm(t, what, p, depth <= impl.MaxDeep)
	if depth <= impl.MaxDeep && impl.Deepest(p) != depth {
		t.Errorf("%s: depth %d, not %d", what, impl.Deepest(p), depth)
	}
}

func TestFormOkOfDepth(t *testing.T) {
	wraps := map[string]func(impl.Ex) impl.Ex{
		"get":    func(e impl.Ex) impl.Ex { return get(e, "a") },
		"call":   func(e impl.Ex) impl.Ex { return call("f", e) },
		"third":  func(e impl.Ex) impl.Ex { return call("f", nothing(), nothing(), e) },
		"first":  func(e impl.Ex) impl.Ex { return bin(e, '+', num(1)) },
		"second": func(e impl.Ex) impl.Ex { return bin(num(1), '+', e) },
		"weak":   weak,
		"live":   live,
	}
	for what, wrap := range wraps {
		for more := range 8 {
			e := deepEx(more, wrap)
			for _, s := range []impl.St{let("a", e), set("a", e), put(e, "a", nothing()), put(nothing(), "a", e), show(e), back(e), choose(e, nil, nil), loop(e), do(e)} {
				wantDepth(t, what, mainOf(s), 3+more)
			}
			wantDepth(t, what, prog(fun("a", "", do(nothing())), fun("b", "", do(e))), 3+more)
		}
	}
	blocks := map[string]func(impl.St) impl.St{
		"while": func(s impl.St) impl.St { return loop(nothing(), s) },
		"if":    func(s impl.St) impl.St { return choose(nothing(), []impl.St{s}, nil) },
		"else":  func(s impl.St) impl.St { return choose(nothing(), nil, []impl.St{s}) },
		"last":  func(s impl.St) impl.St { return loop(nothing(), do(num(1)), s) },
	}
	for what, wrap := range blocks {
		for more := range 7 {
			wantDepth(t, what, mainOf(deepSt(more, wrap)), 3+more)
			wantDepth(t, what, mainOf(do(nothing()), deepSt(more, wrap), do(nothing())), 3+more)
		}
	}
	wantDepth(t, "both", mainOf(loop(nothing(), loop(nothing(), do(weak(weak(num(1))))))), 7)
	wantDepth(t, "both", mainOf(loop(nothing(), loop(nothing(), do(weak(weak(weak(num(1)))))))), 8)
	wantDepth(t, "no statements", mainOf(), 0)
	wantDepth(t, "the second", prog(fun("a", "", do(weak(num(1)))), fun("b", "", do(num(1)))), 4)
}

// mayHave is the table of the chapter: how many Args, and whether there is a Name.
var mayHave = []struct {
	kind        int
	named       bool
	least, most int
}{
	{impl.ExNil, false, 0, 0}, {impl.ExNum, false, 0, 0}, {impl.ExName, true, 0, 0}, {impl.ExNew, false, 0, 0},
	{impl.ExGet, true, 1, 1}, {impl.ExCall, true, 0, 3}, {impl.ExBin, false, 2, 2}, {impl.ExWeak, false, 1, 1}, {impl.ExLive, false, 1, 1},
}

func TestFormOkOfExpressions(t *testing.T) {
	for _, x := range mayHave {
		for _, n := range []int{0, 1, -1, '+', '-', '*', '<', '=', '.', '>', 999999, 1000000, '+' + 256, '+' - 256, '<' + 1<<32, math.MinInt, math.MaxInt} {
			for _, s := range append([]string{"a", "abcdef", "fun"}, badNames...) {
				for args := range 5 {
					nOk := n == 0
					if x.kind == impl.ExNum {
						nOk = 0 <= n && n <= 999999
					} else if x.kind == impl.ExBin {
						nOk = 0 < n && n < 256 && strings.IndexByte("+-*<=", byte(n)) >= 0
					}
					nameOk := s == ""
					if x.named {
						nameOk = !slices.Contains(badNames, s)
					}
					want := nOk && nameOk && x.least <= args && args <= x.most
					e := exOf(x.kind, n, s, slices.Repeat([]impl.Ex{num(1)}, args)...)
					for _, st := range []impl.St{do(e), put(num(1), "a", e), loop(num(1), show(e)), show(weak(e))} {
						if impl.FormOk(mainOf(st)) != want {
							t.Fatalf("kind %d, N %d, Name %q, %d Args: FormOk is not %v", x.kind, n, s, args, want)
						}
					}
				}
			}
		}
	}
}

func TestFormOkOfKindsThatAreNone(t *testing.T) {
	for _, kind := range []int{-1, 9, 10, 256, 1 << 32, math.MinInt, math.MaxInt} {
		wantForm(t, "an expression", mainOf(do(exOf(kind, 0, ""))), false)
		wantForm(t, "an expression below", mainOf(do(weak(exOf(kind, 0, "")))), false)
		wantForm(t, "an expression F", mainOf(put(fresh(), "a", exOf(kind, 0, ""))), false)
	}
	for _, kind := range []int{-1, 8, 9, 256, 1 << 32, math.MinInt, math.MaxInt} {
		wantForm(t, "a statement", mainOf(impl.St{Kind: kind}), false)
		wantForm(t, "a named one", mainOf(impl.St{Kind: kind, Name: []byte("a")}), false)
		wantForm(t, "a statement below", mainOf(loop(nothing(), impl.St{Kind: kind})), false)
		wantForm(t, "a statement in an else", mainOf(choose(nothing(), nil, []impl.St{{Kind: kind}})), false)
	}
}

func TestFormOkOfStatements(t *testing.T) {
	good := impl.Ex{}
	fs := []impl.Ex{good, {N: 1}, {Kind: impl.ExNew}, {Kind: -1}, {Kind: impl.ExNum, N: 5}, {Name: []byte("a")}, {Args: []impl.Ex{{}}}, {Name: []byte{}, Args: []impl.Ex{}}}
	fForm := []bool{true, false, true, false, true, false, false, true}
	fZero := []bool{true, false, false, false, false, false, false, true}
	block := []impl.St{do(num(1))}
	for kind := impl.StLet; kind <= impl.StDo; kind++ {
		named := kind == impl.StLet || kind == impl.StSet || kind == impl.StPut
		for _, s := range append([]string{"a", "abcdef", "fun"}, badNames...) {
			nameOk := s == ""
			if named {
				nameOk = !slices.Contains(badNames, s)
			}
			for i, f := range fs {
				fOk := fZero[i]
				if kind == impl.StPut {
					fOk = fForm[i]
				}
				for _, body := range [][]impl.St{nil, {}, block} {
					for _, other := range [][]impl.St{nil, {}, block} {
						bodyOk := len(body) == 0 || kind == impl.StIf || kind == impl.StWhile
						otherOk := len(other) == 0 || kind == impl.StIf
						want := nameOk && fOk && bodyOk && otherOk
						st := impl.St{Kind: kind, Name: []byte(s), E: num(1), F: f, Body: body, Else: other}
						if impl.FormOk(mainOf(st)) != want || impl.FormOk(mainOf(loop(num(1), st))) != want {
							t.Fatalf("kind %d, Name %q, F %v, %d in Body, %d in Else: FormOk is not %v", kind, s, f, len(body), len(other), want)
						}
					}
				}
			}
		}
	}
}

func TestFormOkOfEachE(t *testing.T) {
	for kind := impl.StLet; kind <= impl.StDo; kind++ {
		s := impl.St{Kind: kind}
		if kind <= impl.StPut {
			s.Name = []byte("a")
		}
		wantForm(t, "E is nil", mainOf(s), true)
		s.E.N = 1
		wantForm(t, "E is not right", mainOf(s), false)
	}
}

// Lists that have themselves in them.

func TestFormOkOfRounds(t *testing.T) {
	args := []impl.Ex{weak(nothing())}
	args[0].Args = args
	wide := []impl.Ex{call("f", nothing(), nothing(), nothing()), call("f", nothing()), call("f", nothing())}
	for i := range wide {
		wide[i].Args = wide
	}
	sts := []impl.St{loop(nothing())}
	sts[0].Body = sts
	both := []impl.St{choose(nothing(), nil, nil)}
	both[0].Body, both[0].Else = both, both
	for what, s := range map[string]impl.St{"get": do(args[0]), "call": do(wide[0]), "while": sts[0], "if": both[0], "F": put(nothing(), "a", wide[1])} {
		wantForm(t, what, mainOf(s), false)
		if f := fun("f", "a", let("b", nothing()), s); len(impl.Locals(f)) != 0 || len(impl.Calls(f)) != 0 {
			t.Errorf("%s: something is told of a function that never ends", what)
		}
	}
}

func TestProgOk(t *testing.T) {
	for _, s := range []string{
		"func main() { }",
		"func f() { } func g(a) { print a; }",
		"func f() { do g(1); } func g(a) { }",             // one further on
		"func f() { do f(); }",                            // itself
		"func f() { } func g(a, b, c) { do g(c, b, a); }", // three
		"func f() { do g(1, 2, 3); } func g(a, b, c) { do f(); }",
		"func f() { let x = 1; print x; }",
		"func f() { let x = 1; let y = x; set x = y; }",
		"func f() { if 1 { let x = 1; }; print x; }", // the order of the text counts
		"func f() { if 1 { let x = 1; } else { set x = 2; }; }",
		"func f() { while 0 { let x = 1; set x = x; }; set x = 3; }",
		"func f() { let f = 1; print f; }",
		"func f() { } func g(g) { print g; do g(g); }",
		"func f() { let x = new; set x.y = x.z; print x.q; }", // fields are no names
		"func f() { let a = 1; let b = 1; let c = 1; let d = 1; let e = 1; let f = 1; let g = 1; let h = 1; }",
		"func f() { } func g(a, b, c) { let d = 1; let e = 1; let f = 1; let g = 1; let h = 1; }",
		"func f() { } func g(a) { let x = a; } func h(a) { let x = a; }",
		"func a() { } func b() { } func c() { } func d() { do a(); }",
	} {
		if p := mustRead(t, s); !impl.ProgOk(p) {
			t.Errorf("%q is not ProgOk", s)
		}
	}
}

func TestProgOkRefused(t *testing.T) {
	for _, s := range []string{
		"func f() { } func f() { }",
		"func f() { } func g() { } func f() { }",
		"func f() { } func g() { } func h() { } func h() { }",
		"func f(a) { }",
		"func f(a) { } func g() { }",
		"func f() { } func g(a, a) { }",
		"func f() { } func g(a, b, a) { }",
		"func f() { } func g(a, b, b) { }",
		"func f() { print x; }",
		"func f() { set x = 1; }",
		"func f() { set x.y = 1; }",
		"func f() { set new.y = x; }",
		"func f() { let x = x; }",
		"func f() { let x = (1 + x); }",
		"func f() { let x = weak(x.y); }",
		"func f() { print x; let x = 1; }",
		"func f() { set x = 1; let x = 1; }",
		"func f() { let x = 1; let x = 2; }",
		"func f() { if 1 { let x = 1; } else { let x = 2; }; }",
		"func f() { if 1 { set x = 1; } else { let x = 2; }; }",
		"func f() { while x { let x = 1; }; }",
		"func f() { if x { let x = 1; }; }",
		"func f() { if 1 { let x = 1; }; let x = 2; }",
		"func f() { } func g(a) { let a = 1; }",
		"func f() { } func g(a) { } func h() { print a; }",
		"func f() { let x = 1; } func g() { print x; }",
		"func f() { print f; }",
		"func f() { do g(); }",
		"func f() { do g(1, 2); } func g(a) { }",
		"func f() { do g(); } func g(a) { }",
		"func f() { do g(1, 2); } func g(a, b, c) { }",
		"func f() { do g(1); } func g() { }",
		"func f() { do f(1); }",
		"func f() { do g(h()); } func g(a) { }",
		"func f() { print (1 + g()); }",
		"func f() { let g = 1; do g(); }",
		"func f() { if 1 { } else { do g(); }; }",
		"func f() { let a = 1; let b = 1; let c = 1; let d = 1; let e = 1; let f = 1; let g = 1; let h = 1; let i = 1; }",
		"func f() { } func g(a, b, c) { let d = 1; let e = 1; let f = 1; let g = 1; let h = 1; let i = 1; }",
		"func f() { } func g(a) { if a { let b = 1; let c = 1; let d = 1; let e = 1; } else { let f = 1; let g = 1; let h = 1; let i = 1; }; }",
	} {
		p := mustRead(t, s)
		wantForm(t, s, p, true)
		wantNotOk(t, s, p)
	}
}

func TestLocals(t *testing.T) {
	for s, want := range map[string]string{
		"func f() { }":                                   "",
		"func f(a, b, c) { }":                            "a b c",
		"func f(c, a, b) { let d = 1; }":                 "c a b d",
		"func f(a, a, b) { let b = 1; }":                 "a b",
		"func f(a) { let a = 1; let b = 2; let a = 3; }": "a b",
		"func f() { let z = 1; if 1 { let y = 1; while 1 { let x = 1; }; } else { let w = 1; }; let v = 1; let y = 2; }": "z y x w v",
		"func f() { set x = 1; print y; set z.w = 1; do g(v); }":                                                         "",
		"func f(x) { let y = y; let z = g(w); }":                                                                         "x y z",
	} {
		if got := names(impl.Locals(mustRead(t, s).Funcs[0])); got != want {
			t.Errorf("Locals of %q: %q, not %q", s, got, want)
		}
	}
	many := fun("f", "")
	for c := 'a'; c <= 'z'; c++ {
		many.Body = append(many.Body, let(string(c), nothing()))
	}
	if n := len(impl.Locals(many)); n != 26 {
		t.Errorf("%d of 26 names", n)
	}
}

func TestCalls(t *testing.T) {
	for s, want := range map[string]string{
		"func f() { }":                                                               "",
		"func f() { do g(); }":                                                       "g",
		"func f() { do g(h(i()), j()); }":                                            "g h i j",
		"func f() { do g(h()); do h(); do i(g()); }":                                 "g h i",
		"func f() { set a().b = c(); }":                                              "a c",
		"func f() { set (a() + b()).x = (d() + e()); }":                              "a b d e",
		"func f() { if a() { do b(); } else { do c(); }; do d(); }":                  "a b c d",
		"func f() { while a() { print b(); }; return c(); }":                         "a b c",
		"func f() { let g = live(weak(a().x)); set g = b(); }":                       "a b",
		"func f() { do f(); do f(); }":                                               "f",
		"func f() { if 1 { if 1 { do c(); } else { do b(); }; } else { do a(); }; }": "c b a",
	} {
		if got := names(impl.Calls(mustRead(t, s).Funcs[0])); got != want {
			t.Errorf("Calls of %q: %q, not %q", s, got, want)
		}
	}
}

// What Locals and Calls ask of a function is that it has few Params, and statements as in FormOk.
func TestLocalsAndCallsOfBadFunctions(t *testing.T) {
	tell := func(f impl.Func) string { return names(impl.Locals(f)) + "|" + names(impl.Calls(f)) }
	body := []impl.St{let("b", call("g"))}
	good := impl.Func{Params: [][]byte{[]byte("a")}, Body: body}
	if s := tell(good); s != "a b|g" {
		t.Errorf("a function without a name: %q", s)
	}
	odd := impl.Func{Name: []byte("func"), Params: [][]byte{[]byte("let"), []byte("A-1")}, Body: body}
	if s := tell(odd); s != "let A-1 b|g" {
		t.Errorf("names that are none: %q", s)
	}
	bare := impl.Func{Params: [][]byte{nil, {}}, Body: body}
	if l := impl.Locals(bare); len(l) != 2 || len(l[0]) != 0 || string(l[1]) != "b" {
		t.Errorf("empty names: %q", l)
	}
	three := impl.Func{Params: [][]byte{[]byte("x"), []byte("x"), []byte("x")}, Body: body}
	if s := tell(three); s != "x b|g" {
		t.Errorf("three Params: %q", s)
	}
	four := impl.Func{Params: [][]byte{[]byte("x"), []byte("x"), []byte("x"), []byte("x")}, Body: body}
	if s := tell(four); s != "|" {
		t.Errorf("four Params: %q", s)
	}
	for what, bad := range map[string]impl.St{
		"a kind that is none": {Kind: 8},
		"a name too much":     {Kind: impl.StDo, Name: []byte("a")},
		"a bad name":          let("let", nothing()),
		"a bad expression":    do(impl.Ex{N: 1}),
		"a bad F":             put(nothing(), "a", impl.Ex{N: 1}),
		"an F too much":       {Kind: impl.StDo, F: num(1)},
		"too deep":            do(deepEx(5, weak)),
		"bad in a body":       loop(nothing(), impl.St{Kind: -1}),
		"bad in an else":      choose(nothing(), nil, []impl.St{{Kind: -1}}),
	} {
		for _, l := range [][]impl.St{{bad, body[0]}, {body[0], bad}} {
			if s := tell(impl.Func{Name: []byte("f"), Params: good.Params, Body: l}); s != "|" {
				t.Errorf("%s: %q", what, s)
			}
		}
	}
	most := impl.Func{Params: good.Params, Body: append(times(44, do(nothing())), let("b", call("g")))}
	if s := tell(most); s != "a b|g" {
		t.Errorf("90 parts: %q", s)
	}
	most.Body[43] = do(weak(nothing()))
	if s := tell(most); s != "|" {
		t.Errorf("91 parts: %q", s)
	}
	if s := tell(impl.Func{}); s != "|" {
		t.Errorf("the zero value: %q", s)
	}
}

func TestUsesWeak(t *testing.T) {
	for s, want := range map[string]bool{
		"func f() { }": false,
		"func f() { let x = new; print x.y; do f(1); set x.y = (1 + 2); }": false,
		"func f() { do weak(1); }":                                       true,
		"func f() { do live(1); }":                                       true,
		"func f() { } func g() { return f(1, 2, (3 < live(x)).y); }":     true,
		"func f() { set x.y = weak(new); }":                              true,
		"func f() { if 1 { } else { while 0 { if live(nil) { }; }; }; }": true,
		"func f() { print y; print weak(y); }":                           true, // it need not be ProgOk
	} {
		if impl.UsesWeak(mustRead(t, s)) != want {
			t.Errorf("UsesWeak of %q is not %v", s, want)
		}
	}
	if impl.UsesWeak(impl.Prog{}) || impl.UsesWeak(mainOf(do(weak(nothing())), impl.St{Kind: 8})) {
		t.Error("a program that is not FormOk uses weak ones")
	}
}

func TestNodesAndDeepest(t *testing.T) {
	for s, want := range map[string][2]int{
		"func f() { }":                                             {0, 0},
		"func f() { } func g(a) { }":                               {0, 0},
		"func f() { print nil; }":                                  {2, 3},
		"func f() { set x.y = 1; }":                                {3, 3},
		"func f() { set x.y.z = 1; }":                              {4, 4},
		"func f() { do g(1, 2, 3); }":                              {5, 4},
		"func f() { let x = (1 + (2 * 3)); }":                      {6, 5},
		"func f() { while x { print 1; print 2; }; }":              {6, 4},
		"func f() { if x { do 1; } else { do weak(2); }; }":        {7, 5},
		"func f() { do 1; } func g() { do weak(1); } func h() { }": {5, 4},
	} {
		p := mustRead(t, s)
		if impl.Nodes(p) != want[0] || impl.Deepest(p) != want[1] {
			t.Errorf("%q: %d parts, depth %d; want %v", s, impl.Nodes(p), impl.Deepest(p), want)
		}
	}
	if impl.Nodes(impl.Prog{}) != 0 || impl.Deepest(impl.Prog{}) != 0 {
		t.Error("the zero value has parts")
	}
}

func TestFuncAtAndAllNames(t *testing.T) {
	p := mustRead(t, "func main() { let x = 1; } func b() { } func a(p, q) { } func c() { }")
	for i, s := range []string{"main", "b", "a", "c"} {
		if impl.FuncAt(p, []byte(s)) != i {
			t.Errorf("FuncAt %s is %d", s, impl.FuncAt(p, []byte(s)))
		}
	}
	for _, s := range []string{"", "x", "p", "mai", "mainn", "func", "MAIN", strings.Repeat("a", 5000)} {
		if n := impl.FuncAt(p, []byte(s)); n != -1 {
			t.Errorf("FuncAt %q is %d", s, n)
		}
	}
	if impl.FuncAt(p, nil) != -1 {
		t.Error("FuncAt of nil")
	}
	if s := names(impl.AllNames(p)); s != "main b a c" {
		t.Error(s)
	}
	if impl.FuncAt(impl.Prog{}, []byte("main")) != -1 || len(impl.AllNames(impl.Prog{})) != 0 {
		t.Error("the zero value has functions")
	}
}

func TestCounts(t *testing.T) {
	p := mustRead(t, `func f() { let x = new; set x.a = 1; if x { while (x.a < 3) { set x.a = (x.a + 1); }; } else { print nil; }; do g(x, 2); }
func g(a, b) { set b = live(weak(a)); while nil { }; print b; return g(b, g(nil, 7)); }`)
	sts := []int{1, 1, 2, 2, 1, 1, 2, 1}
	for kind, want := range sts {
		if n := impl.CountSts(p, kind); n != want {
			t.Errorf("%d statements of kind %d, not %d", n, kind, want)
		}
	}
	exs := []int{3, 5, 9, 1, 2, 3, 2, 1, 1}
	for kind, want := range exs {
		if n := impl.CountExs(p, kind); n != want {
			t.Errorf("%d expressions of kind %d, not %d", n, kind, want)
		}
	}
	for _, kind := range []int{-1, 9, math.MinInt, math.MaxInt} {
		if impl.CountSts(p, kind) != 0 || impl.CountExs(p, kind) != 0 {
			t.Errorf("there is something of kind %d", kind)
		}
	}
	if impl.CountSts(p, impl.StDo+1) != 0 {
		t.Error("there are statements of a kind that is none")
	}
}

func TestHasLoop(t *testing.T) {
	for s, want := range map[string]bool{
		"func f() { }": false,
		"func f() { if 1 { do 1; } else { do f(); }; }":          false,
		"func f() { while 0 { }; }":                              true,
		"func f() { } func g() { do 1; while 0 { }; }":           true,
		"func f() { if 1 { } else { if 1 { while 0 { }; }; }; }": true,
		"func f() { if 1 { if 1 { } else { while 0 { }; }; }; }": true,
		"func f() { while 0 { }; print x; }":                     false, // not ProgOk
	} {
		if impl.HasLoop(mustRead(t, s)) != want {
			t.Errorf("HasLoop of %q is not %v", s, want)
		}
	}
}
