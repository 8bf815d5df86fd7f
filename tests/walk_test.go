package tests

// Chapter 3: what a program tells, sentence by sentence.

import (
	"fmt"
	"math"
	"strings"
	"testing"

	"loop.example/g00547/impl"
)

func sameResult(a, b impl.Result) bool {
	return a.Code == b.Code && string(a.Log) == string(b.Log) && a.Ticks == b.Ticks
}

func picture(r impl.Result) string {
	return fmt.Sprintf("code %d, %d ticks, %q", r.Code, r.Ticks, r.Log)
}

// told is what Walk is to tell; log has its lines with blanks between.
func told(code int, log string, ticks int) impl.Result {
	r := impl.Result{Code: code, Ticks: ticks}
	for _, s := range strings.Fields(log) {
		r.Log = append(r.Log, s+"\n"...)
	}
	return r
}

func wantWalk(t *testing.T, s string, fuel int, want impl.Result) {
	t.Helper()
	if r := impl.Walk(mustRead(t, s), fuel); !sameResult(r, want) {
		t.Errorf("%s with fuel %d: %s; want %s", s, fuel, picture(r), picture(want))
	}
}

// play is a program's text, and what it tells when there is fuel enough.
type play struct {
	text  string
	code  int
	log   string
	ticks int
}

func in(s string) string { return "func main() { " + s + " }" }

func wantPlays(t *testing.T, l []play) {
	t.Helper()
	for _, x := range l {
		wantWalk(t, x.text, 2000, told(x.code, x.log, x.ticks))
		wantEachFuel(t, mustRead(t, x.text))
	}
}

// wantShown has one print of each expression; ahead of them what it needs.
func wantShown(t *testing.T, ahead string, ticks int, shown map[string]string) {
	t.Helper()
	for e, want := range shown {
		wantWalk(t, in(ahead+"print "+e+";"), 2000, told(impl.RsDone, want, ticks+1))
	}
}

// wantType: with the expression in a print, behind it nothing is done.
func wantType(t *testing.T, ahead string, ticks int, l []string) {
	t.Helper()
	for _, e := range l {
		wantWalk(t, in(ahead+"print 7; print "+e+"; print 8;"), 2000, told(impl.RsType, "7", ticks+2))
	}
}

// things lets a name for values of each kind, for the expressions of the tables.
const things = "let x = new; let y = new; let v = weak(x); let w = weak(x); let u = weak(y); let z = x; let n = nil; let o = 0; "

const thingsTicks = 8

func TestWalkShows(t *testing.T) {
	wantShown(t, things, thingsTicks, map[string]string{
		"nil": "nil", "n": "nil", "0": "0", "o": "0", "7": "7", "999999": "999999", "(0 - 1)": "-1", "(3 - 999999)": "-999996",
		"new": "thing", "x": "thing", "z": "thing", "weak(new)": "weak", "v": "weak", "weak(x)": "weak", "live(v)": "thing", "x.a": "nil", "(1 < 2)": "1", "(2 < 1)": "0",
	})
	wantWalk(t, in(""), 2000, told(impl.RsDone, "", 0))
}

func TestWalkIsTrue(t *testing.T) {
	for e, want := range map[string]bool{
		"nil": false, "n": false, "0": false, "o": false, "(1 - 1)": false, "(1 = 2)": false, "x.a": false, "f()": false,
		"1": true, "2": true, "(0 - 1)": true, "x": true, "new": true, "v": true, "weak(new)": true, "live(v)": true, "(1 = 1)": true,
	} {
		if want {
			wantWalk(t, in(things+"if "+e+" { print 1; } else { print 2; print 3; };")+" func f() { }", 2000, told(impl.RsDone, "1", thingsTicks+2))
			wantWalk(t, in(things+"while "+e+" { print 1; return 0; }; print 2;")+" func f() { }", 2000, told(impl.RsDone, "1", thingsTicks+3))
			continue
		}
		wantWalk(t, in(things+"if "+e+" { print 1; } else { print 2; print 3; };")+" func f() { }", 2000, told(impl.RsDone, "2 3", thingsTicks+3))
		wantWalk(t, in(things+"while "+e+" { print 1; return 0; }; print 2;")+" func f() { }", 2000, told(impl.RsDone, "2", thingsTicks+2))
	}
}

// Each pair of values, which stand in rows of those that are the same.
func TestWalkSame(t *testing.T) {
	rows := [][]string{
		{"nil", "n", "x.a"}, {"0", "o", "(3 - 3)"}, {"1", "(0 - (2 - 3))", "(x = z)"}, {"(0 - 1)", "(2 - 3)"}, {"999999", "(999998 + 1)"},
		{"x", "z", "live(v)", "live(weak(z))"}, {"y", "live(u)"}, {"v", "w", "weak(x)", "weak(live(v))"}, {"u", "weak(y)"}, {"new"}, {"new"}, {"weak(new)"}, {"weak(new)"},
	}
	shown := map[string]string{}
	for i, row := range rows {
		for _, a := range row {
			for j, other := range rows {
				for _, b := range other {
					shown["("+a+" = "+b+")"] = "0"
					if i == j && !strings.Contains(a, "new") {
						shown["("+a+" = "+b+")"] = "1"
					}
				}
			}
		}
	}
	wantShown(t, things, thingsTicks, shown)
}

func TestWalkReckons(t *testing.T) {
	wantShown(t, "", 0, map[string]string{
		"(2 + 3)": "5", "(2 - 3)": "-1", "(2 * 3)": "6", "(2 < 3)": "1", "(3 < 2)": "0", "(3 < 3)": "0",
		"(0 + 0)": "0", "(5 * 0)": "0", "(5 - 5)": "0", "(0 < 1)": "1",
		"((0 - 5) < (0 - 4))": "1", "((0 - 4) < (0 - 5))": "0", "((0 - 1) < 0)": "1", "(0 < (0 - 1))": "0",
		"((0 - 5) * 3)": "-15", "((0 - 5) * (0 - 3))": "15", "((0 - 5) + 3)": "-2", "(3 - (0 - 5))": "8",
		"(999999 * 999999)": "999998000001", "((1 + 2) * (3 - 4))": "-3", "((1 < 2) + (1 = 1))": "2",
	})
}

// What leaves 64 bits goes round.
func TestWalkGoesRound(t *testing.T) {
	least := "let m = 1; let i = 0; while (i < 63) { set m = (m + m); set i = (i + 1); }; "
	wantShown(t, least, 3+3*63, map[string]string{
		"m": "-9223372036854775808", "(m - 1)": "9223372036854775807", "(m + m)": "0", "(0 - m)": "-9223372036854775808",
		"((m - 1) + 1)": "-9223372036854775808", "((m - 1) * 2)": "-2", "(m * 3)": "-9223372036854775808", "(m * m)": "0", "((m - 1) * (m - 1))": "1",
		"(m < 0)": "1", "(m < 1)": "1", "(1 < m)": "0", "(m < (m - 1))": "1", "((m - 1) < m)": "0", "((m - 1) < (0 - 1))": "0", "((0 - 1) < (m - 1))": "1",
		"(m = (0 - m))": "1", "(m = (m - 1))": "0",
	})
	wantShown(t, "", 0, map[string]string{"((999999 * 999999) * (999999 * 999999))": "-1996229794797103359"})
	wantWalk(t, in(least+"if (m * 2) { print 1; } else { print 2; };"), 2000, told(impl.RsDone, "2", 3+3*63+2))
}

func TestWalkWantsNumbers(t *testing.T) {
	var l []string
	for _, sign := range []string{"+", "-", "*", "<"} {
		for _, e := range []string{"nil", "n", "x", "new", "v", "weak(new)", "x.a"} {
			l = append(l, "(1 "+sign+" "+e+")", "("+e+" "+sign+" 1)", "("+e+" "+sign+" "+e+")", "("+e+" "+sign+" nil)", "(x "+sign+" "+e+")", "(0 "+sign+" "+e+")")
		}
	}
	wantType(t, things, thingsTicks, l)
}

// With say a number is shown and given back, with none nothing is.
const sayers = " func say(p) { print p; return p; } func none(p) { print p; } func wrong() { print 9; return (1 + nil); }"

func TestWalkReckonsBothSidesFirst(t *testing.T) {
	var l []play
	for _, sign := range []string{"+", "-", "*", "<"} {
		l = append(l,
			play{in("do (say(1) "+sign+" say(2));") + sayers, impl.RsDone, "1 2", 5},
			play{in("do (none(1) "+sign+" say(2));") + sayers, impl.RsType, "1 2", 4},
			play{in("do (say(1) "+sign+" none(2));") + sayers, impl.RsType, "1 2", 4},
			play{in("do (none(1) "+sign+" none(2));") + sayers, impl.RsType, "1 2", 3},
			play{in("do (nil "+sign+" say(2));") + sayers, impl.RsType, "2", 3})
	}
	wantPlays(t, append(l,
		play{in("print (say(3) = none(4));") + sayers, impl.RsDone, "3 4 0", 4},
		play{in("print (say(9) - say(2));") + sayers, impl.RsDone, "9 2 7", 5},
		play{in("do ((nil + 1) + say(2));") + sayers, impl.RsType, "", 1},
		play{in("do (wrong() + say(2));") + sayers, impl.RsType, "9", 3},
		play{in("do (say(2) = wrong());") + sayers, impl.RsType, "2 9", 5}))
}

func TestWalkWantsThings(t *testing.T) {
	var l []string
	for _, e := range []string{"nil", "n", "0", "1", "v", "weak(new)", "x.a", "(x = x)"} {
		l = append(l, e+".a", "weak("+e+")", e+".a.b")
	}
	for _, e := range []string{"nil", "n", "0", "1", "x", "new", "x.a", "live(v)"} {
		l = append(l, "live("+e+")")
	}
	wantType(t, things, thingsTicks, l)
}

func TestWalkFields(t *testing.T) {
	wantPlays(t, []play{
		{in("let x = new; print x.a; set x.a = 5; print x.a; print x.b;"), impl.RsDone, "nil 5 nil", 5},
		{in("let x = new; set x.a = 5; set x.a = 6; set x.b = 7; print x.a; print x.b;"), impl.RsDone, "6 7", 6},
		{in("let x = new; set x.a = 5; set x.a = nil; print x.a;"), impl.RsDone, "nil", 4},
		{in("let x = new; let y = x; set y.a = 5; print x.a; set y = new; print y.a; print x.a;"), impl.RsDone, "5 nil 5", 7},
		{in("let x = new; set x.a = x; set x.a.a.b = 3; print x.b; print (x.a.a.a = x);"), impl.RsDone, "3 1", 5},
		{in("let x = new; set x.a = new; set x.a.a = new; print (x.a = x.a.a); print x.a.a.a;"), impl.RsDone, "0 nil", 5},
		{in("let x = new; set x.x = 1; print x.x; print x;"), impl.RsDone, "1 thing", 4},
		{in("let x = new; set x.a = weak(x); print x.a; print (live(x.a) = x); set x = new; print x.a;"), impl.RsDone, "weak 1 nil", 6},
		{in("let x = new; set live(weak(x)).a = 4; print x.a;"), impl.RsDone, "4", 3},
		{in("let w = weak(new); print live(w); set live(w).a = 4; print live(w).a;"), impl.RsDone, "thing 4", 4},
		{in("set new.a = 1; print new.a;"), impl.RsDone, "nil", 2},
		{in("let x = new; set x.abcdef = 1; set x.abcde = 2; print x.abcdef; print x.abcde; print x.f;"), impl.RsDone, "1 2 nil", 6},
	})
}

func TestWalkPutWantsAThing(t *testing.T) {
	l := []play{
		{in("set none(1).a = say(2);") + sayers, impl.RsType, "1 2", 4},
		{in("set say(1).a = say(2); print 3;") + sayers, impl.RsType, "1 2", 5},
		{in("set none(1).a = wrong();") + sayers, impl.RsType, "1 9", 4},
		{in("set (nil + 1).a = say(2);") + sayers, impl.RsType, "", 1},
		{in("set nil.a.b = say(2);") + sayers, impl.RsType, "", 1},
		{in("let x = new; set x.a = (1 + nil);"), impl.RsType, "", 2},
		// F may change what the field has, and what E's name has.
		{in("let x = new; set x.a = f(x); print x.a; print x.b;") + " func f(p) { set p.a = 1; set p.b = 2; return 3; }", impl.RsDone, "3 2", 7},
	}
	for _, e := range []string{"nil", "n", "0", "1", "v", "weak(new)", "x.a"} {
		l = append(l, play{in(things + "print 7; set " + e + ".a = 1; print 8;"), impl.RsType, "7", thingsTicks + 2})
	}
	wantPlays(t, l)
}

func TestWalkNames(t *testing.T) {
	wantPlays(t, []play{
		{in("let x = 1; set x = 2; print x;"), impl.RsDone, "2", 3},
		{in("let x = 1; set x = (x + x); set x = (x + x); print x;"), impl.RsDone, "4", 4},
		{in("let x = 1; let y = x; set x = 2; print y;"), impl.RsDone, "1", 4},
		{in("let x = 1; set x = nil; print x;"), impl.RsDone, "nil", 3},
		// never let, as the block was not done
		{in("if 0 { let x = 1; }; print x;"), impl.RsDone, "nil", 2},
		{in("if 1 { let x = 1; } else { let y = 2; }; print x; print y;"), impl.RsDone, "1 nil", 4},
		{in("while 0 { let x = 1; }; print x; set x = 3; print x;"), impl.RsDone, "nil 3", 4},
		{in("if 0 { let x = 1; }; if x { print 1; } else { print 2; }; print (x + 1);"), impl.RsType, "2", 4},
		{in("do 1; return 2; let x = 1; print x;"), impl.RsDone, "", 2},
		// let once more, and what a name keeps from the round ahead
		{in("let i = 0; while (i < 3) { let x = i; print x; set i = (i + 1); }; print x;"), impl.RsDone, "0 1 2 2", 15},
		{in("let i = 0; while (i < 2) { if (i = 0) { let x = 5; }; print x; set i = (i + 1); };"), impl.RsDone, "5 5", 11},
		// each call has names of its own
		{in("let x = 1; do f(); print x; do f();") + " func f() { if 0 { let x = 9; }; print x; set x = 2; print x; }", impl.RsDone, "nil 2 1 nil 2", 12},
		{in("let x = 1; do f(x); print x;") + " func f(x) { set x = 2; print x; }", impl.RsDone, "2 1", 5},
		{in("do f(3);") + " func f(n) { if n { do f((n - 1)); }; print n; }", impl.RsDone, "0 1 2 3", 12},
		{in("let x = new; do f(x); print x.a;") + " func f(p) { set p.a = 2; set p = nil; }", impl.RsDone, "2", 5},
		{in("let f = 1; print f; print f();") + " func f() { let main = 2; return main; }", impl.RsDone, "1 2", 5},
	})
}

func TestWalkTicks(t *testing.T) {
	wantPlays(t, []play{
		{in(""), impl.RsDone, "", 0},
		{in("do 1;"), impl.RsDone, "", 1},
		{in("let x = new; set x = new; set x.a = 1; print x; do x; return x;"), impl.RsDone, "thing", 6},
		{in("while 0 { do 1; };"), impl.RsDone, "", 1},
		{in("while 0 { }; while nil { };"), impl.RsDone, "", 2},
		{in("let i = 0; while (i < 3) { set i = (i + 1); };"), impl.RsDone, "", 8},
		{in("while f() { }; print 2;") + " func f() { return 0; }", impl.RsDone, "2", 3},
		{in("let c = new; while f(c) { };") + " func f(c) { if (c.n = 3) { return 0; } else { if c.n { set c.n = (c.n + 1); } else { set c.n = 1; }; }; return 1; }", impl.RsDone, "", 1 + 4 + 3*4 + 2},
		{in("if 1 { };"), impl.RsDone, "", 1},
		{in("if 0 { do 1; };"), impl.RsDone, "", 1},
		{in("if 1 { do 1; do 2; } else { do 3; };"), impl.RsDone, "", 3},
		{in("if 0 { do 1; do 2; } else { do 3; };"), impl.RsDone, "", 2},
		{in("if 1 { if 0 { } else { if 1 { do 1; }; }; }; do 2;"), impl.RsDone, "", 5},
		{in("let i = 0; while (i < 2) { let j = 0; while (j < 2) { set j = (j + 1); print j; }; set i = (i + 1); };"), impl.RsDone, "1 2 1 2", 1 + 3 + 2*(1+3+4+1)},
		{in("return 1; print 2; while 1 { };"), impl.RsDone, "", 1},
		{in("if 1 { return 1; print 2; }; print 3;"), impl.RsDone, "", 2},
		{in("print f();") + " func f() { return 1; print 2; }", impl.RsDone, "1", 2},
		// an error has the ticks up to its own statement
		{in("do 1; do (1 + nil); do 2;"), impl.RsType, "", 2},
		{in("do 1; let x = nil.a; do 2;"), impl.RsType, "", 2},
		{in("do 1; if (1 + nil) { do 2; } else { do 3; };"), impl.RsType, "", 2},
		{in("do 1; while (1 + nil) { do 2; };"), impl.RsType, "", 2},
		{in("let i = 2; while (1 < (i + i)) { set i = nil; };"), impl.RsType, "", 4},
		{in("return (1 + nil);"), impl.RsType, "", 1},
	})
	wantWalk(t, in("while 1 { };"), 2000, told(impl.RsFuel, "", 2000))
	wantWalk(t, in("while 1 { };"), 17, told(impl.RsFuel, "", 17))
	wantWalk(t, in("while 1 { print 1; };"), 5, told(impl.RsFuel, "1 1", 5))
	wantWalk(t, in("while 1 { do f(); };")+" func f() { }", 2000, told(impl.RsFuel, "", 2000))
	wantWalk(t, in("while 1 { print (0 - 999999); };"), 2000, told(impl.RsFuel, strings.Repeat("-999999 ", 1000), 2000))
}

func TestWalkReturns(t *testing.T) {
	wantPlays(t, []play{
		{in("print f();") + " func f() { }", impl.RsDone, "nil", 1},
		{in("print f();") + " func f() { do 5; }", impl.RsDone, "nil", 2},
		{in("print f();") + " func f() { let x = 5; if x { print 1; }; while 0 { }; }", impl.RsDone, "1 nil", 5},
		{in("print f();") + " func f() { return nil; }", impl.RsDone, "nil", 2},
		{in("print (f().a = f().a);") + " func f() { return new; }", impl.RsDone, "1", 3},
		{in("print (f() = f());") + " func f() { return new; }", impl.RsDone, "0", 3},
		{in("let x = new; print (f(x) = x); print f(weak(x));") + " func f(p) { return p; }", impl.RsDone, "1 weak", 5},
		{in("print f(); print 2;") + " func f() { while 1 { return 5; }; return 6; }", impl.RsDone, "5 2", 4},
		{in("print f();") + " func f() { while 1 { while 1 { if 1 { if 0 { } else { return 5; }; }; print 1; }; print 2; }; print 3; }", impl.RsDone, "5", 6},
		{in("let i = 0; while (i < 2) { do f(); set i = (i + 1); }; print i;") + " func f() { while 1 { return 5; }; }", impl.RsDone, "2", 1 + 3 + 2*4 + 1},
		{in("while 1 { while 1 { return 1; }; };"), impl.RsDone, "", 3},
		{in("print f(0); print f(1);") + " func f(p) { if p { return 1; }; return 2; }", impl.RsDone, "2 1", 7 - 1},
		{in("print 1; return f();") + " func f() { print 2; }", impl.RsDone, "1 2", 3},
	})
}

func TestWalkCalls(t *testing.T) {
	wantPlays(t, []play{
		{in("do f(say(1), say(2), say(3));") + " func say(p) { print p; return (p * 10); } func f(a, b, c) { print a; print b; print c; }", impl.RsDone, "1 2 3 10 20 30", 1 + 6 + 3},
		{in("print f(1, 2); print f(2, 1);") + " func f(a, b) { return (a - b); }", impl.RsDone, "-1 1", 4},
		{in("print say(say(say(4)));") + " func say(p) { print p; return (p + 1); }", impl.RsDone, "4 5 6 7", 7},
		{in("do f((1 + nil), say(2));") + " func say(p) { print p; } func f(a, b) { print a; }", impl.RsType, "", 1},
		{in("do f(say(2), (1 + nil));") + " func say(p) { print p; } func f(a, b) { print a; }", impl.RsType, "2", 2},
		{in("do a(); do b(); do c();") + " func c() { print 3; } func b() { print 2; do c(); } func a() { print 1; }", impl.RsDone, "1 2 3 3", 8},
		{in("print f(nil, new, weak(new));") + " func f(a, b, c) { print a; print b; return c; }", impl.RsDone, "nil thing weak", 4},
		// whatever ends with a code ends all
		{in("while 1 { do f(); print 1; };") + " func f() { while 1 { do g(); print 2; }; } func g() { print 3; if 1 { do nil.a; }; print 4; }", impl.RsType, "3", 7},
		{in("if f() { print 1; }; print 2;") + " func f() { return (nil < 1); }", impl.RsType, "", 2},
		{in("let x = f(g()); print 1;") + " func f(p) { print 2; } func g() { return live(0); }", impl.RsType, "", 2},
	})
}

// MaxCalls functions may have begun and not ended, but the first one.
func TestWalkDeep(t *testing.T) {
	count := func(n int) string {
		return fmt.Sprintf(" func f(n) { if (n < %d) { return f((n + 1)); }; return n; }", n)
	}
	says := "1 2 3 4 5 6 7 8 9 10 11 12"
	wantPlays(t, []play{
		{in("print f(1);") + count(impl.MaxCalls), impl.RsDone, "12", 1 + 12*2},
		{in("print f(1);") + count(impl.MaxCalls+1), impl.RsDeep, "", 1 + 12*2},
		{in("do f(1);") + " func f(n) { print n; return f((n + 1)); }", impl.RsDeep, says, 25},
		{in("do f(1); print 99;") + " func f(n) { print n; do g(n); } func g(n) { do f((n + 1)); }", impl.RsDeep, "1 2 3 4 5 6", 1 + 6*2 + 6},
		{in("print 1; do main();"), impl.RsDeep, strings.Repeat("1 ", 13), 26},
		{in("while 1 { if 1 { print 1; while 1 { do main(); }; }; };"), impl.RsDeep, strings.Repeat("1 ", 13), 65},
		// those that have ended do not count
		{in("let i = 0; while (i < 40) { do f(); set i = (i + 1); }; print i;") + " func f() { }", impl.RsDone, "40", 1 + 3*40 + 2},
		{in("print f(f(f(f(9))));") + count(9), impl.RsDone, "9", 1 + 4*2},
		{in("let i = 0; while (i < 3) { print f(1); set i = (i + 1); };") + count(impl.MaxCalls), impl.RsDone, "12 12 12", 1 + 3*(3+24) + 1},
		{in("do f(1);") + " func f(n) { if (n < 11) { do f((n + 1)); }; do g(); } func g() { print 5; }", impl.RsDone, strings.Repeat("5 ", 11), 1 + 11*4 - 1},
		{in("do f(1);") + " func f(n) { if (n < 12) { do f((n + 1)); }; do g(); } func g() { print 5; }", impl.RsDeep, "", 1 + 12*2},
		// what is asked with is reckoned first
		{in("do f(1);") + " func f(n) { if (n < 12) { do f((n + 1)); }; do f((1 + nil)); }", impl.RsType, "", 1 + 12*2},
		{in("do f(1);") + " func f(n) { if (n < 12) { do f((n + 1)); }; do g(nil.a); } func g(p) { }", impl.RsType, "", 1 + 12*2},
	})
}

func TestWalkForm(t *testing.T) {
	want := impl.Result{Code: impl.RsForm}
	refuse := func(what string, p impl.Prog, fuel int) {
		t.Helper()
		if r := impl.Walk(p, fuel); !sameResult(r, want) {
			t.Errorf("%s with fuel %d: %s", what, fuel, picture(r))
		}
	}
	right := mustRead(t, in("print 1; print 2;"))
	for _, fuel := range []int{-1, -2, -2000, 2001, 2002, 4000, 1 << 32, math.MinInt, math.MinInt + 1, math.MaxInt} {
		refuse("a program", right, fuel)
		refuse("a program of nothing", mainOf(), fuel)
	}
	for _, s := range []string{
		in("set main = 1;"), in("print 1; print x;"), in("print x; let x = 1;"), in("let x = x;"), in("do f(1);") + " func f() { }", in("do g();"),
		in("print 1;") + " func main() { }", "func main(p) { print 1; }", in("print 1;") + " func f(a, a) { }", in("print 1;") + " func f() { print x; }", in("if 0 { } else { print x; }; print 1;"),
		in("let a = 1; let b = 1; let c = 1; let d = 1; let e = 1; let f = 1; let g = 1; let h = 1; let i = 1;"),
	} {
		refuse(s, mustRead(t, s), 100)
		refuse(s, mustRead(t, s), -1)
		refuse(s, mustRead(t, s), 0)
	}
	rounds := []impl.St{loop(num(1))}
	rounds[0].Body = rounds
	for what, p := range map[string]impl.Prog{
		"no function":         {},
		"five functions":      prog(fun("a", ""), fun("b", ""), fun("c", ""), fun("d", ""), fun("e", "")),
		"a kind that is none": mainOf(show(num(1)), do(exOf(9, 0, ""))),
		"below the first":     mainOf(show(num(1)), impl.St{Kind: -1}),
		"too many parts":      mainOf(times(46, show(num(1)))...),
		"too deep":            mainOf(show(deepEx(5, weak))),
		"a number too great":  mainOf(show(num(1000000))),
		"a number below 0":    mainOf(show(num(-1))),
		"no sign":             mainOf(show(bin(num(1), '/', num(1)))),
		"a list in itself":    mainOf(rounds[0]),
	} {
		refuse(what, p, 100)
		refuse(what, p, 2000)
	}
}

func TestWalkFuel(t *testing.T) {
	wantWalk(t, in(""), 0, told(impl.RsDone, "", 0))
	wantWalk(t, in(""), 2000, told(impl.RsDone, "", 0))
	wantWalk(t, in("do 1;"), 0, told(impl.RsFuel, "", 0))
	wantWalk(t, in("do (1 + nil);"), 0, told(impl.RsFuel, "", 0))
	wantWalk(t, in("do 1;"), 1, told(impl.RsDone, "", 1))
	wantWalk(t, in("do (1 + nil);"), 1, told(impl.RsType, "", 1))
	wantWalk(t, in("print 1; print 2;"), 1, told(impl.RsFuel, "1", 1))
	wantWalk(t, in("print f();")+" func f() { return 1; }", 1, told(impl.RsFuel, "", 1))
	wantWalk(t, in("print f();")+" func f() { }", 1, told(impl.RsDone, "nil", 1))
	wantWalk(t, in("return 1; print 2;"), 1, told(impl.RsDone, "", 1))
	wantWalk(t, in("while 0 { };"), 0, told(impl.RsFuel, "", 0))
	wantWalk(t, in("while 0 { };"), 1, told(impl.RsDone, "", 1))
	// Just 2000 ticks, and one more.
	rounds := "let i = 0; while (i < 999) { set i = (i + 1); }; "
	wantWalk(t, in(rounds), 2000, told(impl.RsDone, "", 2000))
	wantWalk(t, in(rounds+"do 1;"), 2000, told(impl.RsFuel, "", 2000))
	wantWalk(t, in(rounds), 1999, told(impl.RsFuel, "", 1999))
	wantWalk(t, in("do 1; "+rounds+"print 1;"), 2000, told(impl.RsFuel, "", 2000))
}
