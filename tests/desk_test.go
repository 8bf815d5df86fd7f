package tests

// Chapter 9: reports, sentence by sentence; promises 16 and 17 where they are written out.

import (
	"bytes"
	"fmt"
	"math"
	"slices"
	"strings"
	"testing"

	"loop.example/g00547/impl"
)

var wordsOfCodes = []string{"done", "type", "deep", "fuel", "full", "form"}

// plainReport writes a result that may be in another way than the program does.
func plainReport(r impl.Result) string {
	return fmt.Sprintf("%s %d\n%s", wordsOfCodes[r.Code], r.Ticks, r.Log)
}

func TestCodeWord(t *testing.T) {
	for code, want := range wordsOfCodes {
		for range 2 {
			got := impl.CodeWord(code)
			if string(got) != want {
				t.Errorf("%d is %q; want %q", code, got, want)
			}
			overwritten(got, '!')
		}
	}
	for _, code := range []int{math.MinInt, -6, -1, 6, 7, 256, 1 << 32, math.MaxInt} {
		if got := impl.CodeWord(code); len(got) != 0 {
			t.Errorf("%d is %q", code, got)
		}
	}
}

func TestResultText(t *testing.T) {
	all := make([]byte, 256)
	for i := range all {
		all[i] = byte(i)
	}
	logs := [][]byte{nil, {}, []byte("3\n"), []byte("thing\nnil\n-1\n"), []byte("no end"), {0}, {'\n'}, all, bytes.Repeat(all, 500)}
	numbers := map[int]string{0: "0", 1: "1", 9: "9", 10: "10", 2000: "2000", 2001: "2001", 1 << 32: "4294967296", math.MaxInt: "9223372036854775807"}
	for code, word := range wordsOfCodes {
		for _, log := range logs {
			for n, written := range numbers {
				r := impl.Result{Code: code, Log: log, Ticks: n}
				if got, want := string(impl.ResultText(r)), word+" "+written+"\n"+string(log); got != want {
					t.Errorf("%s: %q; want %q", picture(r), got, want)
				}
			}
			for _, n := range []int{-1, -2, math.MinInt} {
				if got := impl.ResultText(impl.Result{Code: code, Log: log, Ticks: n}); len(got) != 0 {
					t.Errorf("code %d, %d ticks: %q", code, n, got)
				}
			}
		}
	}
	for _, code := range []int{math.MinInt, -1, impl.RsForm + 1, 256, math.MaxInt} {
		for _, n := range []int{-1, 0, 5} {
			if got := impl.ResultText(impl.Result{Code: code, Log: []byte("3\n"), Ticks: n}); len(got) != 0 {
				t.Errorf("code %d, %d ticks: %q", code, n, got)
			}
		}
	}
}

// wrongPrograms can't be played: the first ones have a text, but are not ProgOk, the others are not FormOk either.
func wrongPrograms(t *testing.T) []impl.Prog {
	t.Helper()
	var l []impl.Prog
	for _, s := range wrongTexts {
		l = append(l, mustRead(t, s))
	}
	return append(l, impl.Prog{}, mainOf(times(46, show(num(1)))...), mainOf(show(deepEx(5, weak))), mainOf(show(num(-1))), mainOf(show(bin(num(1), '/', num(1)))))
}

var wrongTexts = []string{
	in("print 1; print x;"),
	in("set x = 1;"),
	in("do f(1);") + " func f() { }",
	"func main(p) { }",
	in("do 1;") + " func main() { }",
}

// wrongPlans, wrongFuels and wrongSizes are such with which Play is RsForm, right ones such with which it is not.
func wrongPlans() [][]int {
	return [][]int{make([]int, mostPlans+1), make([]int, 1000), {-1}, {3}, {0, 1, 2, 3}, {math.MinInt}, {math.MaxInt}, {256}, append(make([]int, mostPlans-1), -1)}
}

func rightPlans() [][]int {
	return [][]int{nil, {}, {0}, {1}, {2}, {0, 1, 2}, make([]int, mostPlans-1), slices.Repeat([]int{2}, mostPlans)}
}

func wrongFuels() []int { return []int{math.MinInt, -2000, -1, 2001, 2002, 1 << 32, math.MaxInt} }

func wrongSizes() []int { return []int{math.MinInt, -16, -1, 0, 17, 18, 257, 1 << 32, math.MaxInt} }

func wantCurve(t *testing.T, s string, size, fuel int, plan []int, want ...int) {
	t.Helper()
	p := mustRead(t, s)
	got := impl.Curve(p, size, fuel, plan)
	if !slices.Equal(got, want) {
		t.Errorf("%s in %d, fuel %d, plan %v: %v; want %v", s, size, fuel, plan, got, want)
	}
	wantPlainCurve(t, p, size, fuel, plan)
}

// plainCurve is told by VmStep after VmStep from VmNew; result is what the machine tells at its end.
func plainCurve(t *testing.T, p impl.Prog, size, fuel int, plan []int) (l []int, result impl.Result) {
	t.Helper()
	c, _ := impl.Compile(p)
	v, ok := impl.VmNew(c, size)
	for ok && len(v.Frames) > 0 {
		ticks := v.Ticks
		v, ok = impl.VmStep(v, fuel, plannedAt(plan, ticks))
		if v.Ticks == ticks {
			continue
		}
		n := 0
		for _, s := range v.Arena.Slots {
			if s.Live {
				n++
			}
		}
		l = append(l, n)
	}
	if !ok {
		t.Fatalf("%q in %d, fuel %d, plan %v: an order can't be done", impl.ProgText(p), size, fuel, plan)
	}
	return l, impl.Result{Code: v.State, Log: v.Log, Ticks: v.Ticks}
}

// wantPlainCurve is promise 16 of Curve: as many numbers as there were ticks, none above the room, and each what the machine has.
func wantPlainCurve(t *testing.T, p impl.Prog, size, fuel int, plan []int) impl.Result {
	t.Helper()
	got := impl.Curve(p, size, fuel, plan)
	want, end := plainCurve(t, p, size, fuel, plan)
	r := impl.Play(p, size, fuel, plan)
	if !slices.Equal(got, want) || len(got) != r.Ticks || !sameResult(r, end) {
		t.Fatalf("%q in %d, fuel %d, plan %v: %v, %s; want %v, %s", impl.ProgText(p), size, fuel, plan, got, picture(r), want, picture(end))
	}
	for _, n := range got {
		if n < 0 || n > size {
			t.Fatalf("%q in %d, fuel %d, plan %v: %v", impl.ProgText(p), size, fuel, plan, got)
		}
	}
	return r
}

func TestCurveAsThingsGo(t *testing.T) {
	two := in("let x = new; let y = new; set x = nil; set y = nil; print 3;")
	for _, size := range []int{2, 3, impl.MaxCap} {
		wantCurve(t, two, size, 50, nil, 0, 1, 2, 2, 2)
		wantCurve(t, two, size, 50, []int{0}, 0, 1, 2, 2, 2)
		wantCurve(t, two, size, 50, []int{1}, 0, 1, 2, 1, 0)
		wantCurve(t, two, size, 50, []int{2}, 0, 1, 2, 1, 0)
		wantCurve(t, two, size, 50, []int{0, 0, 0, 0, 1}, 0, 1, 2, 2, 0)
		wantCurve(t, two, size, 50, []int{0, 0, 0, 1, 0}, 0, 1, 2, 1, 1)
		wantCurve(t, two, size, 50, []int{0, 2}, 0, 1, 2, 1, 1)
	}
	// a round goes only as it is collected
	round := in("let x = new; set x.a = new; set x.a.b = x; set x = nil; print 1; print 2;")
	wantCurve(t, round, 4, 50, nil, 0, 1, 2, 2, 2, 2)
	wantCurve(t, round, 4, 50, []int{1}, 0, 1, 2, 2, 2, 2)
	wantCurve(t, round, 4, 50, []int{2}, 0, 1, 2, 2, 0, 0)
	wantCurve(t, round, 4, 50, []int{0, 0, 0, 0, 0, 2}, 0, 1, 2, 2, 2, 0)
	// what goes as a thing is made is seen behind the next tick
	again := in("let i = 0; while (i < 3) { do new; set i = (i + 1); };")
	wantCurve(t, again, 1, 50, nil, 0, 0, 0, 1, 1, 1, 1, 1, 1, 1, 1)
	wantCurve(t, again, 2, 50, nil, 0, 0, 0, 1, 1, 1, 2, 2, 2, 1, 1)
	wantCurve(t, again, 2, 50, []int{1}, 0, 0, 0, 0, 0, 0, 0, 0, 0, 0, 0)
	// a weak one holds nothing
	weak := in("let w = weak(new); print w; print live(w);")
	wantCurve(t, weak, 2, 50, nil, 0, 1, 1)
	wantCurve(t, weak, 2, 50, []int{1}, 0, 0, 0)
	// what a function had goes behind it
	calls := in("do f(); print 1; print 2;") + " func f() { let x = new; let y = new; return x; }"
	wantCurve(t, calls, 4, 50, nil, 0, 0, 1, 2, 2, 2)
	wantCurve(t, calls, 4, 50, []int{1}, 0, 0, 1, 2, 0, 0)
	wantCurve(t, calls, 4, 50, []int{0, 0, 0, 0, 0, 1}, 0, 0, 1, 2, 2, 0)
}

// Where no order has a tick there are no numbers; the tick of the statement that ends all is there.
func TestCurveByItsEnd(t *testing.T) {
	for _, size := range []int{1, 2, impl.MaxCap} {
		for _, plan := range rightPlans() {
			wantCurve(t, in(""), size, 2000, plan)
			wantCurve(t, in("print 1;"), size, 0, plan)
			wantCurve(t, in("print 1;"), size, 1, plan, 0)
			wantCurve(t, in("let x = new; do nil.a; print 1;"), size, 50, plan, 0, 1)
			wantCurve(t, in("let x = new; while 1 { };"), size, 4, plan, 0, 1, 1, 1)
			wantCurve(t, in("let x = new; let y = x; return y; print 1;"), size, 50, plan, 0, 1, 1)
		}
	}
	for _, plan := range rightPlans() {
		chain := in("let x = nil; while 1 { let y = new; set y.next = x; set x = y; set y = nil; };")
		wantCurve(t, chain, 1, 2000, plan, 0, 0, 0, 1, 1, 1, 1, 1)
		wantCurve(t, chain, 2, 2000, plan, 0, 0, 0, 1, 1, 1, 1, 1, 2, 2, 2, 2, 2)
		// thirteen functions have begun, and each holds a thing
		deep := in("let x = new; do main();")
		var want []int
		for n := range 13 {
			want = append(want, n, n+1)
		}
		wantCurve(t, deep, impl.MaxCap, 2000, plan, want...)
		wantCurve(t, deep, 13, 2000, plan, want...)
		wantCurve(t, deep, 12, 2000, plan, want[:25]...)
	}
}

func TestCurveOfManyOrders(t *testing.T) {
	call := "f(f(1, 2, 3), f(4, 5, 6), f(7, 8, 9))"
	p := mustRead(t, in("let x = nil; while 1 { set x = new; do "+call+"; do "+call+"; set x.a = new; set x.a.b = x; do "+call+"; };")+heavy)
	for _, size := range []int{4, impl.MaxCap} {
		for _, plan := range [][]int{nil, {0, 0, 0, 1, 0, 0, 0, 2}} {
			c, _ := impl.Compile(p)
			v, _ := impl.VmNew(c, size)
			if v, _ = impl.VmRun(v, 2000, plan); len(v.Frames) == 0 {
				t.Fatalf("20000 orders are enough: %s", pictured(v))
			}
			if r := wantPlainCurve(t, p, size, 2000, plan); r.Ticks != 2000 || r.Code != impl.RsFuel {
				t.Errorf("in %d: %s", size, picture(r))
			}
		}
	}
}

func TestCurveRefused(t *testing.T) {
	refuse := func(what string, p impl.Prog, size, fuel int, plan []int) {
		t.Helper()
		if l := impl.Curve(p, size, fuel, plan); len(l) != 0 {
			t.Errorf("%s in %d, fuel %d, plan %v: %v", what, size, fuel, plan, l)
		}
	}
	p := mustRead(t, in("print 1; print new;"))
	for _, n := range wrongSizes() {
		refuse("a size", p, n, 100, nil)
	}
	for _, n := range wrongFuels() {
		refuse("a fuel", p, 4, n, nil)
	}
	for _, plan := range wrongPlans() {
		refuse("a plan", p, 4, 100, plan)
	}
	for _, p := range wrongPrograms(t) {
		refuse("no program", p, 4, 100, nil)
		refuse("nothing at all", p, 0, -1, []int{3})
	}
	for _, size := range []int{1, impl.MaxCap} {
		for _, plan := range rightPlans() {
			if l := impl.Curve(p, size, mostFuel, plan); !slices.Equal(l, []int{0, 0}) {
				t.Errorf("in %d, plan %v: %v", size, plan, l)
			}
		}
	}
}

func wantLeast(t *testing.T, s string, fuel, want int) {
	t.Helper()
	if got := impl.LeastRoom(mustRead(t, s), fuel); got != want {
		t.Errorf("%s, fuel %d: %d; want %d", s, fuel, got, want)
	}
}

// keeping makes and keeps so many things, one behind the other.
func keeping(n int) string {
	return fmt.Sprintf("let x = nil; let y = nil; let i = 0; while (i < %d) { set y = new; set y.next = x; set x = y; set i = (i + 1); }; set y = nil; ", n)
}

func TestLeastRoom(t *testing.T) {
	for n := 1; n <= impl.MaxCap; n++ {
		wantLeast(t, in(keeping(n)+"print x;"), 2000, n)
	}
	for n := impl.MaxCap + 1; n < 20; n++ {
		wantLeast(t, in(keeping(n)+"print x;"), 2000, 0)
	}
	wantLeast(t, in("let x = nil; while 1 { let y = new; set y.a = x; set x = y; };"), 2000, 0)
	for _, s := range []string{in(""), in("print 1;"), in("print nil.a;"), in("do main();"), in("while 1 { };"), in("do new; do new; do new;"), in("print 1;") + heavy} {
		wantLeast(t, s, 2000, 1)
	}
	round := "let x = nil; let i = 0; while (i < 40) { set x = new; set x.a = new; set x.a.b = x; set i = (i + 1); set x = nil; };"
	wantLeast(t, in(round), 2000, 2)
	wantLeast(t, in(strings.Replace(round, "set x = nil; ", "", 1)), 2000, 3)
	wantLeast(t, in("print f(new, new).a;")+" func f(p, q) { set p.a = 7; set q = new; return p; }", 50, 3)
}

func TestLeastRoomByFuel(t *testing.T) {
	three := in("let x = new; let y = new; let z = new; print 1;")
	for fuel, want := range []int{1, 1, 2, 3, 3, 3} {
		wantLeast(t, three, fuel, want)
	}
	wantLeast(t, three, 1999, 3)
	wantLeast(t, three, 2000, 3)
	wantLeast(t, in(""), 0, 1)
	wantLeast(t, in(keeping(17)), 0, 1)
	for _, fuel := range wrongFuels() {
		for _, s := range []string{three, in(""), in("print 1;"), in(keeping(17))} {
			wantLeast(t, s, fuel, 0)
		}
	}
	for _, p := range wrongPrograms(t) {
		for _, fuel := range append(wrongFuels(), 0, 1, 2000) {
			if n := impl.LeastRoom(p, fuel); n != 0 {
				t.Errorf("%v, fuel %d: %d", p, fuel, n)
			}
		}
	}
}

// doingSizes are those with which Play, without a plan, is not RsFull.
func doingSizes(p impl.Prog, fuel int) []int {
	var l []int
	for size := 1; size <= impl.MaxCap; size++ {
		if impl.Play(p, size, fuel, nil).Code != impl.RsFull {
			l = append(l, size)
		}
	}
	return l
}

func wantSizes(t *testing.T, s string, want ...int) {
	t.Helper()
	p := mustRead(t, s)
	if got := doingSizes(p, 2000); !slices.Equal(got, want) {
		t.Fatalf("%s does in %v; want %v", s, got, want)
	}
	least := 0
	if len(want) > 0 {
		least = want[0]
	}
	wantLeast(t, s, 2000, least)
}

func span(a, b int) []int {
	var l []int
	for n := a; n <= b; n++ {
		l = append(l, n)
	}
	return l
}

// With weak ones the sizes that do need not stand together: a thing that goes, as there is no room, is asked for no more.
func TestLeastRoomOfWeakOnes(t *testing.T) {
	forever := "if live(w) { while 1 { let z = new; set z.a = x; set x = z; }; };"
	some := "if live(w) { set x.a = new; set x.b = new; set x.c = new; };"
	for k := 1; k <= impl.MaxCap; k++ {
		// of k things the last one is made where w's thing was, if there are just k slots
		ahead := keeping(k-1) + "let w = weak(new); set y = new; set y.next = x; set x = y; "
		wantSizes(t, in(ahead+forever), k)
		all := []int{k}
		wantSizes(t, in(ahead+some), append(all, span(k+3, impl.MaxCap)...)...)
	}
	wantSizes(t, in(keeping(16)+"let w = weak(new); "+forever))
	// it is just the other way round where the thing has to be there
	wantSizes(t, in("let w = weak(new); let x = new; if live(w) { print 1; } else { while 1 { let z = new; set z.a = x; set x = z; }; };"), span(2, 16)...)
}

func wantAlike(t *testing.T, p impl.Prog, fuel int, a, b []int, want bool) {
	t.Helper()
	if got := impl.Alike(p, fuel, a, b); got != want {
		t.Errorf("%q, fuel %d, plans %v and %v: %v", impl.ProgText(p), fuel, a, b, got)
	}
	if got := impl.Alike(p, fuel, b, a); got != want {
		t.Errorf("%q, fuel %d, plans %v and %v: %v", impl.ProgText(p), fuel, b, a, got)
	}
}

// Each of Code, Log and Ticks counts; a and b differ in just that one.
func TestAlikeDiffers(t *testing.T) {
	ahead := "let x = new; let w = weak(x); set x = nil; if live(w) "
	for what, s := range map[string]string{
		"Code":  in(ahead + "{ do 1; } else { do nil.a; };"),
		"Log":   in(ahead + "{ print 1; } else { print 2; };"),
		"Ticks": in(ahead + "{ do 1; do 2; } else { do 1; };"),
	} {
		p := mustRead(t, s)
		a, b := impl.Play(p, impl.MaxCap, 100, nil), impl.Play(p, impl.MaxCap, 100, []int{impl.DoDrain})
		differ := fmt.Sprint(a.Code != b.Code, string(a.Log) != string(b.Log), a.Ticks != b.Ticks)
		if differ != fmt.Sprint(what == "Code", what == "Log", what == "Ticks") {
			t.Fatalf("%s: %s and %s", what, picture(a), picture(b))
		}
		for _, none := range [][]int{nil, {}, {0}, {0, 0}, {1, 1, 1, 0}} {
			for _, some := range [][]int{{1}, {2}, {0, 0, 0, 1}} {
				wantAlike(t, p, 100, none, some, false)
				wantAlike(t, p, 3, none, some, true) // the end is ahead of that
			}
			wantAlike(t, p, 100, none, nil, true)
		}
		wantAlike(t, p, 100, []int{1}, []int{2}, true)
	}
}

// The plays are in MaxCap slots: w's thing, 14 more and z have just room, so it is still there if nobody collects; 15 more, and it has to go for z.
func TestAlikeHasMaxCapSlots(t *testing.T) {
	for n, want := range map[int]bool{13: false, 14: false, 15: true, 16: true, 17: true} {
		p := mustRead(t, in("let w = weak(new); "+keeping(n)+" let z = new; print live(w);"))
		wantAlike(t, p, 2000, nil, []int{impl.DoCollect}, want)
	}
}

func TestAlikeByForm(t *testing.T) {
	p := mustRead(t, in("print 1; print new;"))
	for _, a := range wrongPlans() {
		for _, b := range rightPlans() {
			wantAlike(t, p, 100, a, b, false)
			for _, fuel := range wrongFuels() {
				wantAlike(t, p, fuel, a, b, true)
			}
		}
		for _, b := range wrongPlans() {
			wantAlike(t, p, 100, a, b, true)
		}
	}
	for _, a := range rightPlans() {
		for _, b := range rightPlans() {
			for _, fuel := range append(wrongFuels(), 0, 1, 2000) {
				wantAlike(t, p, fuel, a, b, true)
			}
		}
	}
	for _, p := range wrongPrograms(t) {
		for _, fuel := range []int{-1, 0, 100, 2000, 2001} {
			wantAlike(t, p, fuel, nil, nil, true)
			wantAlike(t, p, fuel, nil, []int{2}, true)
			wantAlike(t, p, fuel, nil, []int{3}, true)
			wantAlike(t, p, fuel, []int{-1}, make([]int, 51), true)
		}
	}
}

func wantReport(t *testing.T, s string, size, fuel int, plan []int, want string) {
	t.Helper()
	if got := string(impl.Report([]byte(s), size, fuel, plan)); got != want {
		t.Errorf("%q in %d, fuel %d, plan %v: %q; want %q", s, size, fuel, plan, got, want)
	}
}

func TestReport(t *testing.T) {
	two := in("let x = new; let y = new; set x = nil; set y = nil; print 3;")
	for _, size := range []int{2, impl.MaxCap} {
		for _, plan := range rightPlans() {
			wantReport(t, two, size, 50, plan, "done 5\n3\n")
			wantReport(t, two, size, 2000, plan, "done 5\n3\n")
			wantReport(t, two, size, 4, plan, "fuel 4\n")
			wantReport(t, two, size, 0, plan, "fuel 0\n")
		}
	}
	wantReport(t, two, 1, 50, nil, "full 2\n")
	wantReport(t, in(""), 1, 0, nil, "done 0\n")
	wantReport(t, in("print 1; print new; print (0 - 12); do nil.a;"), 1, 50, nil, "type 4\n1\nthing\n-12\n")
	wantReport(t, in("print 1; do main();"), 1, 50, nil, "deep 26\n"+strings.Repeat("1\n", 13))
	wantReport(t, in("let w = weak(new); print live(w);"), 4, 50, nil, "done 2\nthing\n")
	wantReport(t, in("let w = weak(new); print live(w);"), 4, 50, []int{0, 1}, "done 2\nnil\n")
}

// A text that is a program, but no right one, is played as little as with a wrong size, fuel or plan; of one that is none only the place is told.
func TestReportRefused(t *testing.T) {
	p := in("print 1;")
	no := map[string]string{"": "no program at 0\n", "func main": "no program at 9\n", in("print 1 1;"): "no program at 22\n", in("print 1;") + " +": "no program at 25\n"}
	wantForm := func(size, fuel int, plan []int) {
		t.Helper()
		wantReport(t, p, size, fuel, plan, "form 0\n")
		for s, want := range no {
			wantReport(t, s, size, fuel, plan, want)
		}
	}
	for _, size := range wrongSizes() {
		wantForm(size, 50, nil)
	}
	for _, fuel := range wrongFuels() {
		wantForm(4, fuel, nil)
	}
	for _, plan := range wrongPlans() {
		wantForm(4, 50, plan)
	}
	wantForm(0, -1, []int{3})
	for _, size := range []int{1, impl.MaxCap} {
		for _, plan := range rightPlans() {
			wantReport(t, p, size, 2000, plan, "done 1\n1\n")
			for s, want := range no {
				wantReport(t, s, size, 2000, plan, want)
			}
			for _, s := range wrongTexts {
				wantReport(t, s, size, 2000, plan, "form 0\n")
				wantReport(t, s, size, 2001, plan, "form 0\n")
			}
		}
	}
}

func TestReportOfWrongTexts(t *testing.T) {
	p := in("print 1;")
	for s, at := range map[string]int{
		"\n\n":                           2,
		"   ":                            3,
		"print 1;":                       0,
		"\xff":                           0,
		" Func main() { }":               1,
		"func main() { let x = 01; }":    22,
		"func main() { print 1234567; }": 20,
		"func while() { }":               5,
		"func abcdefg() { }":             5,
		"func main() { }\x00":            15,
		"func main() { }\t":              15,
		"func main() { do 1 }":           19,
		"func main() { set 1 = 2; }":     20,
		strings.Repeat(" ", impl.MaxText-len(p)) + p:   -1,
		strings.Repeat(" ", impl.MaxText-len(p)+1) + p: 0,
		p + strings.Repeat("\n", impl.MaxText):         0,
		strings.Repeat("\xff", impl.MaxText+1):         0,
		strings.Repeat(" ", impl.MaxText-1) + "\xff":   impl.MaxText - 1,
		strings.Repeat(" ", impl.MaxText):              impl.MaxText,
		in(strings.Repeat("do 1;", 45)):                -1,
		in(strings.Repeat("do 1;", 46)):                14 + 46*5 + 2,
		"func f(a,b,c,d){}":                            17,
	} {
		want := fmt.Sprintf("no program at %d\n", at)
		if at == -1 {
			_, bad := impl.ProgRead([]byte(s))
			if bad != -1 {
				t.Fatalf("%q cannot be read: %d", s, bad)
			}
			want = plainReport(impl.Play(mustRead(t, s), 4, 50, nil))
		}
		wantReport(t, s, 4, 50, nil, want)
	}
}

func TestTicksOf(t *testing.T) {
	loops := in("let i = 0; while (i < 3) { set i = (i + 1); }; print i;")
	for s, want := range map[string]int{
		in(""):                 0,
		in("print 1;"):         1,
		loops:                  9,
		in("do nil.a; do 1;"):  1,
		in("do 1; do main();"): 26,
		in("while 1 { };"):     2000,
		in(keeping(17)):        3 + 17*5 + 2, // things never go, and there is room for all
		in("let w = weak(new); print live(w).a; print 1;"): 3, // and so for weak ones
	} {
		p := mustRead(t, s)
		if got := impl.TicksOf(p, 2000); got != want || got != impl.Walk(p, 2000).Ticks {
			t.Errorf("%s: %d ticks; want %d", s, got, want)
		}
		for fuel := range 40 {
			if got := impl.TicksOf(p, fuel); got != min(fuel, want) {
				t.Errorf("%s, fuel %d: %d ticks; want %d", s, fuel, got, min(fuel, want))
			}
		}
		for _, fuel := range wrongFuels() {
			if got := impl.TicksOf(p, fuel); got != 0 {
				t.Errorf("%s, fuel %d: %d ticks", s, fuel, got)
			}
		}
	}
	for _, p := range wrongPrograms(t) {
		for _, fuel := range []int{-1, 0, 100, 2000, 2001} {
			if got := impl.TicksOf(p, fuel); got != 0 {
				t.Errorf("%v, fuel %d: %d ticks", p, fuel, got)
			}
		}
	}
}
