package tests

// Promises 9, 10, 11 and 12, and 2 as far as Play goes: what is played to its end.

import (
	"bytes"
	"fmt"
	"math"
	"math/rand"
	"slices"
	"strings"
	"testing"

	"loop.example/g00547/impl"
)

func plannedAt(plan []int, ticks int) int {
	if len(plan) == 0 {
		return impl.DoNothing
	}
	return plan[ticks%len(plan)]
}

// stepByStep does order after order, as long as VmStep does them: it is true where there is no end of that ahead of the run's.
func stepByStep(v impl.Vm, fuel int, plan []int, most int) (impl.Vm, bool) {
	for n := 0; n < most && len(v.Frames) > 0; n++ {
		w, ok := impl.VmStep(v, fuel, plannedAt(plan, v.Ticks))
		if !ok {
			return v, false
		}
		v = w
	}
	return v, true
}

// wantRun is promise 9 of VmRun: by the plain machine, which goes on past all bounds, and by VmStep, as far as that goes.
func wantRun(t *testing.T, v impl.Vm, fuel int, plan []int) impl.Vm {
	t.Helper()
	w, ok := impl.VmRun(v, fuel, plan)
	if want := plainRun(v, fuel, plan); !ok || !sameVm(w, want) {
		t.Fatalf("%s, fuel %d, plan %v:\n%s, %v; want\n%s", pictured(v), fuel, plan, pictured(w), ok, pictured(want))
	}
	if x, all := stepByStep(v, fuel, plan, mostOrders); all && (!sameVm(w, x) || !impl.VmOk(w)) {
		t.Fatalf("%s, fuel %d, plan %v:\n%s; step by step\n%s", pictured(v), fuel, plan, pictured(w), pictured(x))
	}
	return w
}

// wantPlay is promise 9 of Play.
func wantPlay(t *testing.T, p impl.Prog, size, fuel int, plan []int) impl.Vm {
	t.Helper()
	c, _ := impl.Compile(p)
	v, ok := impl.VmNew(c, size)
	if !ok {
		t.Fatalf("%q: there is no machine", impl.ProgText(p))
	}
	v, _ = stepByStep(v, fuel, plan, math.MaxInt)
	r := impl.Play(p, size, fuel, plan)
	if want := (impl.Result{Code: v.State, Log: v.Log, Ticks: v.Ticks}); !sameResult(r, want) || len(v.Frames) > 0 {
		t.Fatalf("%q in %d, fuel %d, plan %v: %s; want %s", impl.ProgText(p), size, fuel, plan, picture(r), picture(want))
	}
	return v
}

func somePlan(r *rand.Rand) []int {
	var plan []int
	for range []int{0, 1, 1 + r.Intn(5), mostPlans}[r.Intn(4)] {
		plan = append(plan, r.Intn(3))
	}
	return plan
}

func TestRunIsStepAfterStep(t *testing.T) {
	m := wright{rand.New(rand.NewSource(29))}
	long := 0
	for range 600 {
		v := m.machine()
		if w := wantRun(t, v, []int{0, 2, 50, 2000}[m.Intn(4)], somePlan(m.Rand)); len(w.Frames) > 0 {
			long++
		}
	}
	if long < 10 {
		t.Errorf("only %d are not at their end: the test sees too few", long)
	}
}

func TestPlayIsStepAfterStep(t *testing.T) {
	r := rand.New(rand.NewSource(30))
	codes := map[int]int{}
	for i := range 500 {
		p := madeProgram(t, r, i)
		if impl.ProgOk(p) {
			v := wantPlay(t, p, 1+i%impl.MaxCap, []int{10, 60, 150}[r.Intn(3)], somePlan(r))
			codes[v.State]++
		}
	}
	for code := impl.RsDone; code <= impl.RsFull; code++ {
		if codes[code] < 10 {
			t.Errorf("only %d of code %d: the test sees too few", codes[code], code)
		}
	}
}

// On the way a run may stop and go on.
func TestRunGoesOn(t *testing.T) {
	r := rand.New(rand.NewSource(31))
	for i := range 200 {
		p := mustRead(t, churner{r}.program())
		c, _ := impl.Compile(p)
		v, _ := impl.VmNew(c, 1+i%impl.MaxCap)
		plan := somePlan(r)
		v, _ = stepByStep(v, 100, plan, r.Intn(300))
		w := wantRun(t, v, 100, plan)
		if want := impl.Play(p, 1+i%impl.MaxCap, 100, plan); !sameResult(impl.Result{Code: w.State, Log: w.Log, Ticks: w.Ticks}, want) {
			t.Fatalf("%q: %s; want %s", impl.ProgText(p), pictured(w), picture(want))
		}
	}
}

// 20000 orders are done, and no more.
func TestRunStops(t *testing.T) {
	around := codeOf(unit(0, 1, ins(impl.IxNil, 0, 0, 0), ins(impl.IxNum, 0, 1, 0), ins(impl.IxJump, 0, 0, 0), ins(impl.IxBack, 0, 0, 0)))
	v, _ := impl.VmNew(around, 1)
	for n := 1; n <= 4; n++ {
		v = wantRun(t, v, 2000, nil)
		if len(v.Frames) != 1 || v.Frames[0].Pc != n*mostOrders%3 || v.State != impl.RsDone || v.Ticks != 0 {
			t.Errorf("run %d: %s", n, pictured(v))
		}
	}
	// two orders, 4999 rounds of four, the last of which is one less, and IxBack
	for more, left := range map[int]int{1: 0, 2: 0, 3: 1, 4: 1} {
		l := append(slices.Repeat([]impl.Ins{ins(impl.IxNil, 1, 0, 0)}, more), ins(impl.IxNum, 0, 4999, 0), ins(impl.IxNum, 2, 1, 0))
		round := len(l)
		l = append(l, ins(impl.IxBin, 1, 0, '-'), ins(impl.IxMove, 0, 1, 0), ins(impl.IxZero, 0, round+4, 0), ins(impl.IxJump, round, 0, 0))
		v, _ := impl.VmNew(codeOf(ended(0, 3, l...)), 1)
		w := wantRun(t, v, 0, nil)
		if len(w.Frames) != left {
			t.Errorf("%d orders: %s", 19998+more, pictured(w))
		}
		if left == 1 {
			w = wantRun(t, w, 0, nil)
		}
		if len(w.Frames) != 0 || w.State != impl.RsDone {
			t.Errorf("%d orders, once more: %s", 19998+more, pictured(w))
		}
	}
}

func TestRunRefused(t *testing.T) {
	over := impl.Vm{Code: sample(), Arena: queued(slots(2, thing(1, 1)), 0, 1), Log: []byte("7\n"), Ticks: 9}
	for _, v := range []impl.Vm{couple(), over, changedVm(over, func(v *impl.Vm) { v.State = impl.RsFull })} {
		for _, fuel := range []int{math.MinInt, -2000, -1, 2001, 2002, 1 << 32, math.MaxInt} {
			wantNoRun(t, "a fuel", v, fuel, nil)
			wantNoRun(t, "a fuel", v, fuel, []int{1})
		}
		for _, do := range []int{math.MinInt, -2, -1, 3, 4, 256, 1 << 32, math.MaxInt} {
			wantNoRun(t, "a plan", v, 10, []int{do})
			wantNoRun(t, "a plan, last", v, 10, []int{0, 1, 2, do})
			wantNoRun(t, "a plan, first", v, 10, append([]int{do}, make([]int, 49)...))
		}
		for _, n := range []int{51, 52, 100, 100000} {
			wantNoRun(t, "many plans", v, 10, make([]int, n))
		}
		for _, fuel := range []int{0, 1, 5, 6, 1999, 2000} {
			for _, n := range []int{0, 1, 2, 49, 50} {
				for do := range 3 {
					w := wantRun(t, v, fuel, slices.Repeat([]int{do}, n))
					if len(v.Frames) == 0 && !sameVm(w, v) {
						t.Errorf("without frames %s becomes %s", pictured(v), pictured(w))
					}
				}
			}
		}
	}
}

// do is told by how many ticks there were ahead of the order, not by how many orders were done.
func TestRunPlans(t *testing.T) {
	tick, drop := impl.Ins{}, ins(impl.IxNil, 0, 0, 0)
	c := codeOf(ended(0, 1, drop, drop, tick, drop, tick, tick, tick))
	for ticks := range 8 {
		for n := 1; n <= 5; n++ {
			for at := range n {
				plan := make([]int, n)
				plan[at] = impl.DoDrain
				v := machineWith(c, queued(room(thing(1, 0)), 0), frame(0, 0, 0, nilVal()))
				v.Ticks = ticks
				w := wantRun(t, v, 2000, plan)
				drained := false
				for i := range 4 {
					drained = drained || (ticks+i)%n == at
				}
				if w.Ticks != ticks+4 || drained == w.Arena.Slots[0].Live {
					t.Errorf("%d ticks, plan %v: %s", ticks, plan, pictured(w))
				}
			}
		}
	}
}

func TestPlayForm(t *testing.T) {
	want := impl.Result{Code: impl.RsForm}
	refuse := func(what string, p impl.Prog, size, fuel int, plan []int) {
		t.Helper()
		if r := impl.Play(p, size, fuel, plan); !sameResult(r, want) {
			t.Errorf("%s in %d, fuel %d, plan %v: %s", what, size, fuel, plan, picture(r))
		}
	}
	p := mustRead(t, in("print 1; print new;"))
	for _, n := range []int{math.MinInt, -16, -1, 0, 17, 18, 256 + 1, 1 << 32, math.MaxInt} {
		refuse("a size", p, n, 100, nil)
	}
	for _, n := range []int{math.MinInt, -2000, -1, 2001, 2002, 1 << 32, math.MaxInt} {
		refuse("a fuel", p, 4, n, nil)
	}
	for _, n := range []int{51, 52, 1000} {
		refuse("plans", p, 4, 100, make([]int, n))
	}
	for _, do := range []int{math.MinInt, -1, 3, 4, 256, math.MaxInt} {
		refuse("a plan", p, 4, 100, []int{do})
		refuse("a plan", p, 4, 100, []int{0, 1, 2, do})
		refuse("a plan that is not come to", p, 4, 1, append(make([]int, 49), do))
	}
	for _, s := range []string{in("print 1; print x;"), in("set x = 1;"), in("do f(1);") + " func f() { }", "func main(p) { }", in("do 1;") + " func main() { }"} {
		refuse(s, mustRead(t, s), 4, 100, nil)
		refuse(s, mustRead(t, s), 0, -1, []int{3})
	}
	for what, p := range map[string]impl.Prog{
		"no function":    {},
		"too many parts": mainOf(times(46, show(num(1)))...),
		"too deep":       mainOf(show(deepEx(5, weak))),
		"a number":       mainOf(show(num(-1))),
		"no sign":        mainOf(show(bin(num(1), '/', num(1)))),
	} {
		refuse(what, p, 4, 100, nil)
	}
	for _, size := range []int{1, 2, 15, 16} {
		for _, fuel := range []int{2, 3, 1999, 2000} {
			for _, n := range []int{0, 1, 49, 50} {
				for do := range 3 {
					if r := impl.Play(p, size, fuel, slices.Repeat([]int{do}, n)); !sameResult(r, told(impl.RsDone, "1 thing", 2)) {
						t.Errorf("in %d, fuel %d, %d plans of %d: %s", size, fuel, n, do, picture(r))
					}
				}
			}
		}
		for fuel, want := range []impl.Result{told(impl.RsFuel, "", 0), told(impl.RsFuel, "1", 1)} {
			if r := impl.Play(p, size, fuel, nil); !sameResult(r, want) {
				t.Errorf("in %d, fuel %d: %s", size, fuel, picture(r))
			}
		}
	}
}

// wantPlayed: the program tells just that, with each plan.
func wantPlayed(t *testing.T, s string, size int, want impl.Result) {
	t.Helper()
	for _, plan := range [][]int{nil, {0}, {1}, {2}, {0, 1}, {2, 0, 0}, {1, 2, 0, 0, 1}} {
		if r := impl.Play(mustRead(t, s), size, 2000, plan); !sameResult(r, want) {
			t.Errorf("%s in %d, plan %v: %s; want %s", s, size, plan, picture(r), picture(want))
		}
	}
}

func TestPlayIsFull(t *testing.T) {
	chain := in("let x = nil; let y = nil; while 1 { set y = new; set y.next = x; set x = y; print 1; };")
	for size := 1; size <= impl.MaxCap; size++ {
		wantPlayed(t, chain, size, told(impl.RsFull, strings.Repeat("1 ", size), 2+5*size+2))
		// what is dropped makes room, and so does a round
		wantPlayed(t, in("let i = 0; while (i < 40) { set new.a = i; set i = (i + 1); }; print i;"), size, told(impl.RsDone, "40", 123))
	}
	round := in("let i = 0; let x = nil; while (i < 40) { set x = new; set x.a = new; set x.a.b = x; set i = (i + 1); set x = nil; }; print i;")
	wantPlayed(t, round, 1, told(impl.RsFull, "", 5))
	held := strings.Replace(round, "set x = nil; ", "", 1) // the last round is there still when a new one is made
	wantPlayed(t, held, 2, told(impl.RsFull, "", 2+5+2))
	for size := 2; size <= impl.MaxCap; size++ {
		wantPlayed(t, round, size, told(impl.RsDone, "40", 2+40*6+2))
	}
	for size := 3; size <= impl.MaxCap; size++ {
		wantPlayed(t, held, size, told(impl.RsDone, "40", 2+40*5+2))
	}
	// a thing that is asked with, and the one that is given back, are held
	calls := in("print f(new, new).a;") + " func f(p, q) { set p.a = 7; set q = new; return p; }"
	wantPlayed(t, calls, 1, told(impl.RsFull, "", 1))
	wantPlayed(t, calls, 2, told(impl.RsFull, "", 3))
	wantPlayed(t, calls, 3, told(impl.RsDone, "7", 4))
	for s, code := range map[string]int{"do nil.a;": impl.RsType, "do main();": impl.RsDeep, "while 1 { };": impl.RsFuel, "return new;": impl.RsDone} {
		p := mustRead(t, in("let x = new; print x; "+s))
		w := impl.Walk(p, 2000)
		if w.Code != code {
			t.Fatalf("%s: %s", s, picture(w))
		}
		wantPlayed(t, in("let x = new; print x; "+s), impl.MaxCap, w)
	}
}

// Of weak ones it is told whether their thing has gone; that is as it is drained and collected.
func TestPlayOfWeakOnes(t *testing.T) {
	gone := in("let x = new; let w = weak(x); print live(w); set x = nil; print live(w); print w; set x = live(w); print x;")
	round := in("let x = new; set x.a = x; let w = weak(x); set x = nil; print live(w); print live(w);")
	again := in("let w = weak(new); do 1; let y = new; print live(w); print (weak(y) = w); print w;")
	for _, x := range []struct {
		text string
		size int
		plan []int
		want string
	}{
		{gone, 4, nil, "thing thing weak thing"},
		{gone, 4, []int{0}, "thing thing weak thing"},
		{gone, 4, []int{1}, "thing nil weak nil"},
		{gone, 4, []int{2}, "thing nil weak nil"},
		{gone, 4, []int{0, 0, 0, 0, 0, 1, 0, 0}, "thing thing weak nil"},
		{round, 4, nil, "thing thing"},
		{round, 4, []int{1}, "thing thing"},
		{round, 4, []int{2}, "nil nil"},
		{round, 4, []int{0, 0, 0, 0, 0, 2}, "thing nil"},
		{again, 2, nil, "thing 0 weak"},
		{again, 2, []int{1}, "nil 0 weak"},
		{again, 1, nil, "nil 0 weak"},
		{again, 1, []int{2}, "nil 0 weak"},
	} {
		p := mustRead(t, x.text)
		v := wantPlay(t, p, x.size, 100, x.plan)
		if want := told(impl.RsDone, x.want, 0); string(v.Log) != string(want.Log) || v.State != impl.RsDone {
			t.Errorf("%s in %d, plan %v: %s; want %s", x.text, x.size, x.plan, pictured(v), x.want)
		}
	}
}

// heavy has functions without statements: to call one needs no tick.
const heavy = " func f(a, b, c) { } func g() { }"

// Play goes to the end, though there may be more orders than VmRun does.
func TestPlayToItsEnd(t *testing.T) {
	call := "f(f(1, 2, 3), f(4, 5, 6), f(7, 8, 9))"
	long := in("while 1 { do "+call+"; do "+call+"; do "+call+"; print 1; };") + heavy
	p := mustRead(t, long)
	w := impl.Walk(p, 2000)
	if w.Code != impl.RsFuel || len(w.Log) != 800 {
		t.Fatalf("%s", picture(w))
	}
	for _, size := range []int{1, impl.MaxCap} {
		wantPlayed(t, long, size, w)
	}
	c, _ := impl.Compile(p)
	v, _ := impl.VmNew(c, 2)
	some := wantRun(t, v, 2000, nil)
	if len(some.Frames) == 0 || some.Ticks >= 2000 || some.State != impl.RsDone {
		t.Fatalf("20000 orders are enough: %s", pictured(some))
	}
	end := wantPlay(t, p, 2, 2000, nil)
	if end.Ticks != 2000 || end.State != impl.RsFuel {
		t.Errorf("%s", pictured(end))
	}
	// as it is when it is done, not when it has no more fuel
	done := in("let i = 0; while (i < 300) { do "+call+"; do "+call+"; do "+call+"; set i = (i + 1); }; print i;") + heavy
	if w := impl.Walk(mustRead(t, done), 2000); !sameResult(w, told(impl.RsDone, "300", 1+5*300+2)) {
		t.Fatalf("%s", picture(w))
	}
	wantPlayed(t, done, 3, told(impl.RsDone, "300", 1503))
}

// A churner makes programs that make things, link them and drop them, round after round; none has a weak one.
type churner struct{ *rand.Rand }

func (m churner) statement() string {
	name := func() string { return []string{"a", "b", "c"}[m.Intn(3)] }
	field := func() string { return []string{"l", "r"}[m.Intn(2)] }
	switch m.Intn(12) {
	case 0, 1:
		return "set " + name() + " = new; "
	case 2:
		return "set " + name() + " = nil; "
	case 3:
		return "set " + name() + " = " + name() + "; "
	case 4, 5:
		s := name()
		return "if " + s + " { set " + s + "." + field() + " = " + name() + "; }; "
	case 6, 7:
		s := name()
		return "if " + s + " { set " + name() + " = " + s + "." + field() + "; }; "
	case 8:
		return "print (" + name() + " = " + name() + "); "
	case 9:
		s := name()
		return "if " + s + " { print " + s + "." + field() + "; }; "
	case 10:
		return "set " + name() + " = f(" + name() + "); "
	}
	return "do g(" + name() + ", " + name() + "); "
}

func (m churner) program() string {
	s := "let a = nil; let b = nil; let c = nil; let i = 0; while (i < " + fmt.Sprint(5+m.Intn(25)) + ") { "
	for range 4 + m.Intn(5) {
		s += m.statement()
	}
	s = in(s + "set i = (i + 1); }; print i; print a; print (b = c);")
	return s + " func f(p) { let x = new; set x.l = p; return x; } func g(p, q) { if p { set p.r = q; if (p = q) { set p.l = new; }; }; return q; }"
}

// madeProgram is by turns one that churns and one of all kinds.
func madeProgram(t *testing.T, r *rand.Rand, i int) impl.Prog {
	t.Helper()
	if i%2 == 0 {
		return mustRead(t, churner{r}.program())
	}
	return playerProgram(r)
}

// weakless are made programs without weak ones.
func weakless(t *testing.T, r *rand.Rand, n int) []impl.Prog {
	t.Helper()
	var l []impl.Prog
	for i := 0; len(l) < n; i++ {
		p := madeProgram(t, r, i)
		if impl.ProgOk(p) && !impl.UsesWeak(p) {
			l = append(l, p)
		}
	}
	return l
}

// wantAsWalk is promise 10.
func wantAsWalk(t *testing.T, p impl.Prog, size, fuel int, plan []int, walk impl.Result) impl.Result {
	t.Helper()
	r := impl.Play(p, size, fuel, plan)
	if r.Code == impl.RsFull {
		if !bytes.HasPrefix(walk.Log, r.Log) || r.Ticks > walk.Ticks {
			t.Fatalf("%q in %d, fuel %d, plan %v: %s; want a beginning of %s", impl.ProgText(p), size, fuel, plan, picture(r), picture(walk))
		}
	} else if !sameResult(r, walk) {
		t.Fatalf("%q in %d, fuel %d, plan %v: %s; want %s", impl.ProgText(p), size, fuel, plan, picture(r), picture(walk))
	}
	return r
}

func plansOf(r *rand.Rand) [][]int {
	return [][]int{nil, {0}, {1}, {2}, somePlan(r), {r.Intn(3), r.Intn(3), r.Intn(3)}}
}

// Promises 10 and 11: whoever is not RsFull tells what Walk tells, and so all tell the same. It is RsFull where too many are reached, so with each plan alike, and in each less room too.
func TestRoomsAndPlansTellTheSame(t *testing.T) {
	r := rand.New(rand.NewSource(32))
	codes := map[int]int{}
	for i, p := range weakless(t, r, 300) {
		fuel := []int{2000, 2000, 7, 60, 200}[i%5]
		walk := impl.Walk(p, fuel)
		fits := false
		for size := 1; size <= impl.MaxCap; size++ {
			var first impl.Result
			for k, plan := range plansOf(r) {
				got := wantAsWalk(t, p, size, fuel, plan, walk)
				codes[got.Code]++
				if k == 0 {
					first = got
				}
				if !sameResult(got, first) || fits && got.Code == impl.RsFull {
					t.Fatalf("%q in %d, plan %v: %s; without one %s", impl.ProgText(p), size, plan, picture(got), picture(first))
				}
			}
			fits = first.Code != impl.RsFull
		}
	}
	for code := impl.RsDone; code <= impl.RsFull; code++ {
		if codes[code] < 100 {
			t.Errorf("only %d of code %d: the test sees too few", codes[code], code)
		}
	}
}

// The programs of chapter 3's table of texts, with weak ones or not: what holds its things tells all that Walk tells.
func TestRightProgramsPlay(t *testing.T) {
	for _, s := range append([]string{
		in(things + "print live(v); print (live(v) = x); print (w = v); print (weak(y) = u); print x.a; print z;"),
		in("do f(say(1), say(2), say(3));") + " func say(p) { print p; return (p * 10); } func f(a, b, c) { print a; print b; print c; }",
		in("print f(1);") + " func f(n) { if (n < 12) { return f((n + 1)); }; return n; }",
		in("print f(1);") + " func f(n) { if (n < 13) { return f((n + 1)); }; return n; }",
		in("let m = 1; let i = 0; while (i < 63) { set m = (m + m); set i = (i + 1); }; print m; print (m - 1); print (m * 3);"),
	}, right...) {
		p := mustRead(t, s)
		for fuel := range 230 {
			for _, plan := range [][]int{nil, {1}, {2}} {
				if r, w := impl.Play(p, impl.MaxCap, fuel, plan), impl.Walk(p, fuel); !sameResult(r, w) {
					t.Fatalf("%s, fuel %d, plan %v: %s; want %s", s, fuel, plan, picture(r), picture(w))
				}
			}
		}
	}
}

// Promise 2: with less fuel a beginning is told, also where there are weak ones.
func TestPlayWithEachFuel(t *testing.T) {
	r := rand.New(rand.NewSource(33))
	for i := range 160 {
		p := madeProgram(t, r, i)
		if !impl.ProgOk(p) {
			continue
		}
		size, plan := 1+r.Intn(impl.MaxCap), somePlan(r)
		whole := impl.Play(p, size, mostFuel, plan)
		short := impl.Result{}
		for fuel := 0; fuel <= min(whole.Ticks+1, 150); fuel++ {
			got := impl.Play(p, size, fuel, plan)
			if fuel >= whole.Ticks && whole.Code != impl.RsFuel {
				if !sameResult(got, whole) {
					t.Fatalf("%q with fuel %d: %s; with all: %s", impl.ProgText(p), fuel, picture(got), picture(whole))
				}
				continue
			}
			if got.Code != impl.RsFuel || got.Ticks != fuel || !bytes.HasPrefix(whole.Log, got.Log) || !bytes.HasPrefix(got.Log, short.Log) {
				t.Fatalf("%q with fuel %d: %s; with one less %s; with all: %s", impl.ProgText(p), fuel, picture(got), picture(short), picture(whole))
			}
			short = got
		}
	}
}

// wantSettled is promise 12 on the way: just those are left whom registers reach, and these as they were.
func wantSettled(t *testing.T, v impl.Vm) impl.Vm {
	t.Helper()
	w, ok := impl.Settle(v)
	roots := impl.VmRoots(v)
	if !ok || !impl.VmOk(w) || !slices.Equal(impl.VmRoots(w), roots) || w.Ticks != v.Ticks || w.State != v.State || !bytes.Equal(w.Log, v.Log) || len(w.Arena.Queue)+len(w.Arena.Purple) > 0 {
		t.Fatalf("%s settled: %s, %v", pictured(v), pictured(w), ok)
	}
	reached := plainReached(v.Arena, roots)
	for n, s := range w.Arena.Slots {
		was := v.Arena.Slots[n]
		was.Count = s.Count
		if s.Live != reached[n] || s.Live && !sameSlot(s, was) || s.Gen != was.Gen {
			t.Fatalf("%s settled: %d is %v, reached %v", pictured(v), n, s, reached[n])
		}
	}
	if len(v.Frames) == 0 && impl.FreeSlots(w.Arena) != len(w.Arena.Slots) {
		t.Fatalf("%s settled: %s", pictured(v), pictured(w))
	}
	return w
}

func TestSettledOnTheWay(t *testing.T) {
	r := rand.New(rand.NewSource(34))
	went, codes := 0, map[int]int{}
	for i := range 250 {
		p := madeProgram(t, r, i)
		c, ok := impl.Compile(p)
		if !ok {
			continue
		}
		v, _ := impl.VmNew(c, 1+r.Intn([]int{4, impl.MaxCap}[r.Intn(2)]))
		plan := somePlan(r)
		fuel := []int{20, 60, 300}[i%3]
		end, _ := impl.VmRun(v, fuel, plan)
		for n := 0; len(v.Frames) > 0; n++ {
			if n < 40 || n%16 == 0 {
				w := wantSettled(t, v)
				went += impl.FreeSlots(w.Arena) - impl.FreeSlots(v.Arena)
				if n%8 == 0 && !impl.UsesWeak(p) {
					x, _ := impl.VmRun(w, fuel, plan)
					if x.State != end.State || x.Ticks != end.Ticks || !bytes.Equal(x.Log, end.Log) {
						t.Fatalf("%q: settled at %d it goes on as %s; want %s", impl.ProgText(p), n, pictured(x), pictured(end))
					}
				}
			}
			v, _ = impl.VmStep(v, fuel, plannedAt(plan, v.Ticks))
		}
		if !sameVm(v, end) {
			t.Fatalf("%q: %s; want %s", impl.ProgText(p), pictured(v), pictured(end))
		}
		wantSettled(t, end)
		codes[end.State]++
	}
	for code := impl.RsDone; code <= impl.RsFull; code++ {
		if codes[code] < 5 {
			t.Errorf("only %d end with %d: the test sees too few", codes[code], code)
		}
	}
	if went < 1000 {
		t.Errorf("only %d went: the test sees too few", went)
	}
}

// Made codes have no end of their own, and are settled where they are.
func TestSettledMadeCodes(t *testing.T) {
	m := coder{rand.New(rand.NewSource(35))}
	for i := range 1500 {
		v, _ := impl.VmNew(m.code(), 1+i%impl.MaxCap)
		for range 30 {
			wantSettled(t, v)
			if len(v.Frames) == 0 {
				break
			}
			v, _ = impl.VmStep(v, 5, m.Intn(3))
		}
	}
}

func TestPlayOnlyReads(t *testing.T) {
	r := rand.New(rand.NewSource(36))
	for i := range 200 {
		p := madeProgram(t, r, i)
		var k tracker
		var s shelf
		plan := somePlan(r)
		q, l := k.program(p), s.numbers(plan)
		before := k.picture() + s.picture()
		size := 1 + r.Intn(impl.MaxCap)
		got, again := impl.Play(q, size, 100, l), impl.Play(q, size, 100, l)
		want := impl.Play(p, size, 100, plan)
		if !sameResult(got, want) {
			t.Fatalf("what lies behind the lists of %q is read", impl.ProgText(p))
		}
		spoil([][]byte{got.Log})
		if k.picture()+s.picture() != before {
			t.Fatalf("%q is changed", impl.ProgText(p))
		}
		if !sameResult(again, want) || !sameResult(impl.Play(q, size, 100, l), want) {
			t.Fatalf("two answers of %q share memory", impl.ProgText(p))
		}
	}
}
