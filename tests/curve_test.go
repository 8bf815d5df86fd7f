package tests

// Promises 11, 16 and 17 over made programs, and what holds of all reports: they read only, share nothing, and answer the same each time.

import (
	"bytes"
	"fmt"
	"math/rand"
	"slices"
	"strings"
	"sync"
	"testing"

	"loop.example/g00547/impl"
)

func TestCurvesOfMadePrograms(t *testing.T) {
	r := rand.New(rand.NewSource(37))
	codes, fell := map[int]int{}, 0
	for i := range 960 {
		p := madeProgram(t, r, i)
		size, fuel, plan := 1+i%impl.MaxCap, []int{0, 1, 10, 60, 150}[r.Intn(5)], somePlan(r)
		if !impl.ProgOk(p) {
			if l := impl.Curve(p, size, fuel, plan); len(l) != 0 {
				t.Fatalf("%q: %v", impl.ProgText(p), l)
			}
			continue
		}
		codes[wantPlainCurve(t, p, size, fuel, plan).Code]++
		l := impl.Curve(p, size, fuel, plan)
		if !slices.IsSorted(l) {
			fell++
		}
	}
	for code := impl.RsDone; code <= impl.RsFull; code++ {
		if codes[code] < 10 {
			t.Errorf("only %d of code %d: the test sees too few", codes[code], code)
		}
	}
	if fell < 50 {
		t.Errorf("only in %d plays do things go: the test sees too few", fell)
	}
}

// wantLeastDoes is promise 16 of LeastRoom: in it and in each greater room the program is not RsFull, in each less it is.
func wantLeastDoes(t *testing.T, p impl.Prog, fuel int, plans [][]int) int {
	t.Helper()
	least := impl.LeastRoom(p, fuel)
	if least < 0 || least > impl.MaxCap {
		t.Fatalf("%q, fuel %d: %d", impl.ProgText(p), fuel, least)
	}
	for size := 1; size <= impl.MaxCap; size++ {
		for _, plan := range plans {
			does := impl.Play(p, size, fuel, plan).Code != impl.RsFull
			if does != (least > 0 && size >= least) {
				t.Fatalf("%q in %d, fuel %d, plan %v: not RsFull is %v; the least room is %d", impl.ProgText(p), size, fuel, plan, does, least)
			}
		}
	}
	return least
}

// A hoarder makes programs that keep many things. Those that ask do it by weak ones, which tell how large the room is: where a thing is gone they keep more, or fewer.
type hoarder struct {
	*rand.Rand
	asks bool
}

func (m hoarder) statement() string {
	name := func() string { return []string{"a", "b"}[m.Intn(2)] }
	more := fmt.Sprintf("set %s = g(%s, %d); ", name(), name(), 1+m.Intn(6))
	if !m.asks {
		return []string{"set " + name() + " = nil; ", more, more}[m.Intn(3)]
	}
	return []string{"set " + name() + " = nil; ", more, "set w = weak(new); ", "if live(w) { " + more + "}; ", "if live(w) { " + more + "}; ", "if live(w) { } else { " + more + "}; "}[m.Intn(6)]
}

func (m hoarder) program() string {
	s := "let a = nil; let b = nil; let w = nil; "
	if m.asks {
		s = "let a = nil; let b = nil; let w = weak(new); "
	}
	for range 3 + m.Intn(6) {
		s += m.statement()
	}
	return in(s) + " func g(p, n) { let x = p; while (0 < n) { let y = new; set y.l = x; set x = y; set n = (n - 1); }; return x; }"
}

func TestLeastRoomsOfMadePrograms(t *testing.T) {
	r := rand.New(rand.NewSource(38))
	rooms := map[int]int{}
	l := weakless(t, r, 150)
	for range 100 {
		l = append(l, mustRead(t, hoarder{r, false}.program()))
	}
	for i, p := range l {
		rooms[wantLeastDoes(t, p, []int{2000, 2000, 20, 60, 200}[i%5], plansOf(r))]++
	}
	for least := 0; least <= impl.MaxCap; least++ {
		if rooms[least] < 2 {
			t.Errorf("only %d with least room %d: the test sees too few", rooms[least], least)
		}
	}
}

// With weak ones or not, it is the least of all that do.
func TestLeastRoomByPlainSearch(t *testing.T) {
	r := rand.New(rand.NewSource(39))
	apart, mid, weak := 0, 0, 0
	for i := range 900 {
		p := madeProgram(t, r, i)
		if i%3 > 0 {
			p = mustRead(t, hoarder{r, true}.program())
		}
		if impl.UsesWeak(p) {
			weak++
		}
		fuel := []int{2000, 300, 20}[r.Intn(3)]
		want := 0
		if impl.ProgOk(p) {
			l := doingSizes(p, fuel)
			if len(l) > 0 {
				want = l[0]
				if len(l) <= impl.MaxCap-want {
					apart++
				}
				if want > 1 {
					mid++
				}
			}
		}
		if got := impl.LeastRoom(p, fuel); got != want {
			t.Fatalf("%q, fuel %d: %d; want %d", impl.ProgText(p), fuel, got, want)
		}
	}
	if apart < 10 || mid < 50 || weak < 300 {
		t.Errorf("only %d where they do not stand together, %d with more than 1, %d with weak ones: the test sees too few", apart, mid, weak)
	}
}

// Promise 11 for Alike: without weak ones it is true wherever neither play is RsFull.
func TestMadeProgramsAreAlike(t *testing.T) {
	r := rand.New(rand.NewSource(40))
	seen := 0
	for i, p := range weakless(t, r, 250) {
		fuel := []int{2000, 7, 60, 200}[i%4]
		plans := plansOf(r)
		for _, a := range plans {
			b := plans[r.Intn(len(plans))]
			full := impl.Play(p, impl.MaxCap, fuel, a).Code == impl.RsFull || impl.Play(p, impl.MaxCap, fuel, b).Code == impl.RsFull
			if full {
				continue
			}
			seen++
			if !impl.Alike(p, fuel, a, b) {
				t.Fatalf("%q, fuel %d, plans %v and %v: not alike", impl.ProgText(p), fuel, a, b)
			}
		}
	}
	if seen < 500 {
		t.Errorf("only %d: the test sees too few", seen)
	}
}

// anyPlan is mostly right.
func anyPlan(r *rand.Rand) []int {
	if r.Intn(8) == 0 {
		l := wrongPlans()
		return l[r.Intn(len(l))]
	}
	return somePlan(r)
}

func anyFuel(r *rand.Rand) int {
	return []int{-1, 0, 1, 20, 60, 150, 2000, 2001, 60, 150}[r.Intn(10)]
}

// In any case Alike is what both plays tell, and TicksOf what Walk tells; programs may be wrong, and have weak ones.
func TestAlikeIsWhatPlaysTell(t *testing.T) {
	r := rand.New(rand.NewSource(41))
	m := maker{r}
	told := map[bool]int{}
	for i := range 1500 {
		p := madeProgram(t, r, 1)
		switch i % 3 {
		case 0:
			p = m.program(r.Intn(3))
		case 1:
			p = mustRead(t, hoarder{r, true}.program())
		}
		fuel, a, b := anyFuel(r), anyPlan(r), anyPlan(r)
		want := sameResult(impl.Play(p, impl.MaxCap, fuel, a), impl.Play(p, impl.MaxCap, fuel, b))
		wantAlike(t, p, fuel, a, b, want)
		wantAlike(t, p, fuel, a, slices.Clone(a), true)
		told[want]++
		if got, walk := impl.TicksOf(p, fuel), impl.Walk(p, fuel); got != walk.Ticks {
			t.Fatalf("%q, fuel %d: %d ticks; want %s", impl.ProgText(p), fuel, got, picture(walk))
		}
	}
	if told[true] < 100 || told[false] < 100 {
		t.Errorf("only %v: the test sees too few", told)
	}
}

// wantReported is promise 17 of Report.
func wantReported(t *testing.T, text []byte, size, fuel int, plan []int) bool {
	t.Helper()
	p, bad := impl.ProgRead(text)
	want := fmt.Sprintf("no program at %d\n", bad)
	if bad == -1 {
		r := impl.Play(p, size, fuel, plan)
		want = plainReport(r)
		if got := string(impl.ResultText(r)); got != want {
			t.Fatalf("%s: %q; want %q", picture(r), got, want)
		}
	}
	if got := string(impl.Report(text, size, fuel, plan)); got != want {
		t.Fatalf("%q in %d, fuel %d, plan %v: %q; want %q", text, size, fuel, plan, got, want)
	}
	return bad == -1
}

// spoiled changes a text in a few places, by bytes and by words.
func spoiled(r *rand.Rand, text []byte) []byte {
	b := bytes.Clone(text)
	pieces := []string{"", " ", "x", "1", "(", ")", "{", "}", ";", "=", ".", "+", "new ", "print ", "if ", "else ", "func ", "\n", "\xff", "?", "0000001"}
	for range 1 + r.Intn(3) {
		at := r.Intn(len(b) + 1)
		end := min(len(b), at+r.Intn(4))
		b = slices.Concat(b[:at], []byte(pieces[r.Intn(len(pieces))]), b[end:])
	}
	return b
}

func TestReportsOfMadePrograms(t *testing.T) {
	r := rand.New(rand.NewSource(42))
	read := map[bool]int{}
	for i := range 500 {
		p := madeProgram(t, r, i)
		text := impl.ProgText(p)
		size, fuel, plan := r.Intn(impl.MaxCap+2), anyFuel(r), anyPlan(r)
		if len(text) == 0 {
			continue // not FormOk
		}
		wantReported(t, text, size, fuel, plan)
		if len(text) <= impl.MaxText {
			want := impl.ResultText(impl.Play(p, size, fuel, plan))
			if got := impl.Report(text, size, fuel, plan); !bytes.Equal(got, want) {
				t.Fatalf("%q in %d, fuel %d, plan %v: %q; want %q", text, size, fuel, plan, got, want)
			}
		}
		for range 12 {
			read[wantReported(t, spoiled(r, text), size, fuel, plan)]++
		}
	}
	if read[true] < 100 || read[false] < 1000 {
		t.Errorf("spoiled texts that are programs: %v: the test sees too few", read)
	}
}

// desk is all that chapter 9 is asked with.
type desk struct {
	p          impl.Prog
	text       []byte
	r          impl.Result
	size, fuel int
	a, b       []int
}

// answers are all reports, as texts; each answer is written over once it is copied.
func (d desk) answers() []string {
	return []string{
		overwritten(impl.Curve(d.p, d.size, d.fuel, d.a), -9),
		fmt.Sprint(impl.LeastRoom(d.p, d.fuel)),
		overwritten(impl.ResultText(d.r), '!'),
		overwritten(impl.Report(d.text, d.size, d.fuel, d.b), '!'),
		fmt.Sprint(impl.Alike(d.p, d.fuel, d.a, d.b)),
		fmt.Sprint(impl.TicksOf(d.p, d.fuel)),
		overwritten(impl.CodeWord(d.r.Code), '!'),
	}
}

func someDesk(t *testing.T, r *rand.Rand, i int) desk {
	t.Helper()
	d := desk{p: madeProgram(t, r, i), size: r.Intn(impl.MaxCap + 2), fuel: anyFuel(r), a: anyPlan(r), b: anyPlan(r)}
	if i%6 == 0 {
		d.p = maker{r}.program(2)
	}
	d.text = impl.ProgText(d.p)
	if i%4 == 0 {
		d.text = spoiled(r, d.text)
	}
	d.r = impl.Result{Code: r.Intn(8) - 1, Log: bytes.Repeat([]byte("thing\n"), r.Intn(4)), Ticks: r.Intn(50) - 1}
	return d
}

// roomyDesk is the same with spare room behind each list; picture shows all of its memory.
func roomyDesk(d desk) (x desk, picture func() string) {
	var k tracker
	var s shelf
	x = d
	x.p = k.program(d.p)
	x.text, x.r.Log = s.name(d.text), s.name(d.r.Log)
	x.a, x.b = s.numbers(d.a), s.numbers(d.b)
	return x, func() string { return k.picture() + s.picture() }
}

func TestReportsOnlyRead(t *testing.T) {
	r := rand.New(rand.NewSource(43))
	for i := range 300 {
		d := someDesk(t, r, i)
		x, picture := roomyDesk(d)
		before := picture()
		got := x.answers()
		if picture() != before {
			t.Fatalf("%v: something is changed", d)
		}
		want := d.answers()
		if !slices.Equal(got, want) || !slices.Equal(x.answers(), want) {
			t.Fatalf("what lies behind the lists is read, or an answer is kept: %v; want %v", got, want)
		}
	}
}

// An answer stays as it is when what was asked with is written over.
func TestReportsShareNothing(t *testing.T) {
	text := []byte(in("let x = new; print x; print 12;"))
	plan := []int{0, 1, 2}
	r := impl.Result{Code: impl.RsType, Log: []byte("thing\n12\n"), Ticks: 3}
	p := mustRead(t, string(text))
	curve, told, report := impl.Curve(p, 2, 50, plan), impl.ResultText(r), impl.Report(text, 2, 50, plan)
	overwritten(text, '!')
	overwritten(plan, -9)
	overwritten(r.Log, '!')
	if !slices.Equal(curve, []int{0, 1, 1}) || string(told) != "type 3\nthing\n12\n" || string(report) != "done 3\nthing\n12\n" {
		t.Errorf("%v, %q, %q", curve, told, report)
	}
}

// Calls one behind the other and at once answer the same: nothing is kept, and what is counted belongs to the call.
func TestReportsAtOnce(t *testing.T) {
	r := rand.New(rand.NewSource(44))
	for i := range 40 {
		d := someDesk(t, r, i)
		want := strings.Join(d.answers(), "|")
		if got := strings.Join(d.answers(), "|"); got != want {
			t.Fatalf("once more: %s; want %s", got, want)
		}
		got := make([]string, 8)
		var all sync.WaitGroup
		for n := range got {
			all.Go(func() { got[n] = strings.Join(d.answers(), "|") })
		}
		all.Wait()
		for _, s := range got {
			if s != want {
				t.Fatalf("at once: %s; want %s", s, want)
			}
		}
	}
}
