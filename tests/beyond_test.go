package tests

// Promise 9 past the bounds of VmOk: VmRun goes on behind an order that leaves more than a machine may have, and VmStep does no such order.

import (
	"bytes"
	"math/rand"
	"slices"
	"testing"

	"loop.example/g00547/impl"
)

// wantStuck: VmStep goes so far, and no further, whatever do is.
func wantStuck(t *testing.T, v impl.Vm, fuel int, plan []int) {
	t.Helper()
	at, all := stepByStep(v, fuel, plan, mostOrders)
	if all {
		t.Fatalf("%s, plan %v: no bound is passed", pictured(v), plan)
	}
	for do := range 3 {
		if w, ok := wantStepped(t, at, fuel, do); ok || !sameVm(w, at) {
			t.Fatalf("%s, do %d: VmStep answers %s, %v", pictured(at), do, pictured(w), ok)
		}
	}
}

// wantBeyond: what VmRun answers is no machine that may be, and nothing more is told of it.
func wantBeyond(t *testing.T, v impl.Vm, fuel int, plan []int) impl.Vm {
	t.Helper()
	wantStuck(t, v, fuel, plan)
	w := wantRun(t, v, fuel, plan)
	wantNoVm(t, "past a bound", w)
	return w
}

func plansBeyond() [][]int { return [][]int{nil, {0}, {1}, {2}, {0, 1, 2}, {2, 0}} }

// running has these orders ahead of it; units with 1, 2 and 3 Params can be called.
func running(a impl.Arena, regs []impl.Val, l ...impl.Ins) impl.Vm {
	c := codeOf(ended(0, len(regs), l...), ended(1, 2), ended(2, 2), ended(3, 5))
	return balanced(impl.Vm{Code: c, Arena: copied(a), Frames: []impl.Frame{frame(0, 0, 0, regs...)}})
}

// behind are rows of orders that begin with the first: it alone, with one behind it, and with several.
func behind(first impl.Ins) [][]impl.Ins {
	tick := impl.Ins{}
	l := [][]impl.Ins{{first}, {tick, first, tick}}
	for _, o := range eachOrder() {
		l = append(l, []impl.Ins{first, o}, []impl.Ins{tick, first, tick, o, tick, ins(impl.IxMove, 2, 0, 0), ins(impl.IxNil, 0, 0, 0), tick, ins(impl.IxNew, 1, 0, 0), tick, o})
	}
	return l
}

func TestRunBeyondGen(t *testing.T) {
	ring := purple(room(thing(mostCount, 0, field("a", refTo(1, 7))), thing(7, 0, field("a", refTo(0, mostCount))), thing(1, 0)), 1)
	ends := map[int]int{}
	for _, x := range []struct {
		a    impl.Arena
		regs []impl.Val
	}{
		{room(hole(mostCount)), make([]impl.Val, 3)},
		{room(thing(2, 0, field("a", y0)), thing(1, 0), hole(mostCount), hole(0)), vals(x0, y0, weakTo(2, mostCount))},
		{ring, vals(nilVal(), refTo(2, 1), weakTo(0, mostCount))},
		{queued(room(thing(mostCount, 0), thing(mostCount, 0)), 0), vals(numVal(3), refTo(1, mostCount), weakTo(1, 0))},
	} {
		for _, l := range behind(ins(impl.IxNew, 0, 0, 0)) {
			for i, plan := range plansBeyond() {
				w := wantBeyond(t, running(x.a, x.regs, l...), []int{2, 100}[i%2], plan)
				ends[w.State]++
			}
		}
	}
	for _, state := range []int{impl.RsDone, impl.RsType, impl.RsFuel, impl.RsFull} {
		if ends[state] < 50 {
			t.Errorf("only %d end with %d: the test sees too few", ends[state], state)
		}
	}
}

// Written out: what is made past the bound is made, goes, and is made anew.
func TestRunBeyondGenWrittenOut(t *testing.T) {
	tick, fresh, none := impl.Ins{}, ins(impl.IxNew, 0, 0, 0), ins(impl.IxNil, 0, 0, 0)
	v := running(room(hole(mostCount)), vals(nilVal()), tick, fresh, tick, none, tick)
	for do, want := range []impl.Arena{
		queued(room(thing(mostCount+1, 1)), 0),
		room(hole(mostCount + 1)),
		room(hole(mostCount + 1)),
	} {
		w := wantBeyond(t, v, 50, []int{do})
		if !sameArena(w.Arena, want) || len(w.Frames) > 0 || w.Ticks != 3 || w.State != impl.RsDone || len(w.Log) > 0 {
			t.Errorf("do %d: %s; want %v", do, pictured(w), want)
		}
	}
	v = running(room(hole(mostCount-1)), vals(nilVal()), fresh, none, fresh, none, fresh, ins(impl.IxShow, 0, 0, 0))
	w := wantBeyond(t, v, 50, nil)
	if !sameArena(w.Arena, queued(room(thing(mostCount+2, 2)), 0, 0)) || w.State != impl.RsDone || string(w.Log) != "thing\n" {
		t.Errorf("made three times: %s", pictured(w))
	}
	// a weak one of what is made past the bound is alive just as long as that is
	weak, live := ins(impl.IxWeak, 1, 0, 0), ins(impl.IxLive, 2, 1, 0)
	v = running(room(hole(mostCount)), make([]impl.Val, 3), fresh, weak, live, ins(impl.IxShow, 2, 0, 0), none, ins(impl.IxNil, 2, 0, 0), tick, live, ins(impl.IxShow, 2, 0, 0))
	for do, want := range []string{"thing\nthing\n", "thing\nnil\n", "thing\nnil\n"} {
		if w := wantBeyond(t, v, 50, []int{do}); string(w.Log) != want || w.State != impl.RsDone {
			t.Errorf("a weak one, do %d: %s; want %q", do, pictured(w), want)
		}
	}
}

func TestRunBeyondLog(t *testing.T) {
	ends := map[int]int{}
	for x, size := range map[impl.Val]int{nilVal(): 4, numVal(7): 2, x0: 6, g0: 5} {
		for i, l := range behind(ins(impl.IxShow, 0, 0, 0)) {
			v := running(scene(), vals(x, x0, w0), l...)
			v.Log = bytes.Repeat([]byte("!"), mostLog-i%size)
			for k, plan := range [][]int{nil, {1}, {2, 0}} {
				w := wantBeyond(t, v, []int{1, 100}[k%2], plan)
				ends[w.State]++
			}
		}
	}
	for _, state := range []int{impl.RsDone, impl.RsType, impl.RsFuel} {
		if ends[state] < 50 {
			t.Errorf("only %d end with %d: the test sees too few", ends[state], state)
		}
	}
}

func TestRunBeyondLogWrittenOut(t *testing.T) {
	tick, show := impl.Ins{}, ins(impl.IxShow, 0, 0, 0)
	full := bytes.Repeat([]byte("x"), mostLog)
	for _, x := range []struct {
		fuel int
		l    []impl.Ins
		more string
		want impl.Vm
	}{
		{50, []impl.Ins{show}, "nil\n", impl.Vm{}},
		{50, []impl.Ins{tick, show, tick}, "nil\n", impl.Vm{Ticks: 2}},
		{50, []impl.Ins{tick, show, show, tick, show}, "nil\nnil\nnil\n", impl.Vm{Ticks: 2}},
		{1, []impl.Ins{tick, show, tick, show}, "nil\n", impl.Vm{Ticks: 1, State: impl.RsFuel}},
		{50, []impl.Ins{show, ins(impl.IxWeak, 0, 0, 0), show}, "nil\n", impl.Vm{State: impl.RsType}},
		{50, []impl.Ins{show, ins(impl.IxNew, 0, 0, 0), show, ins(impl.IxNew, 0, 0, 0), show}, "nil\nthing\n", impl.Vm{State: impl.RsFull}},
		{50, []impl.Ins{show, ins(impl.IxCall, 0, 0, 0)}, "nil\nnil\nnil\nnil\nnil\nnil\nnil\nnil\nnil\nnil\nnil\nnil\nnil\n", impl.Vm{State: impl.RsDeep}},
	} {
		for _, plan := range plansBeyond() {
			v := running(room(hole(0)), vals(nilVal()), x.l...)
			v.Log = bytes.Clone(full)
			w := wantBeyond(t, v, x.fuel, plan)
			if w.State != x.want.State || w.Ticks != x.want.Ticks || len(w.Frames) > 0 || string(w.Log) != string(full)+x.more {
				t.Errorf("%v, plan %v: %s", x.l, plan, pictured(w))
			}
		}
	}
}

// 20000 orders are done, and no more, also where the log passes its bound on the way.
func TestRunStopsBeyondLog(t *testing.T) {
	l := append(slices.Repeat([]impl.Ins{ins(impl.IxShow, 0, 0, 0)}, 298), ins(impl.IxJump, 0, 0, 0))
	v := machineWith(codeOf(ended(0, 1, l...)), slots(1, thing(1, 0)), frame(0, 0, 0, refTo(0, 1)))
	w := wantBeyond(t, v, 100, []int{1, 2})
	shows := mostOrders/299*298 + mostOrders%299
	if len(w.Log) != shows*6 || len(w.Frames) != 1 || w.Frames[0].Pc != mostOrders%299 || w.Frames[0].Regs[0] != refTo(0, 1) {
		t.Errorf("%s", pictured(w))
	}
}

// famous has one thing that refers to itself so often.
func famous(n int) impl.Arena {
	var l []impl.Field
	name := []byte("aaaaaa")
	for len(l) < n {
		l = append(l, impl.Field{Name: bytes.Clone(name), V: refTo(0, 1)})
		at := 5
		for name[at] == 'z' {
			name[at] = 'a'
			at--
		}
		name[at]++
	}
	return room(thing(1, n, l...))
}

// keepers are orders by which a thing in register 0 is counted once more, where register 1 has nothing and 2 a weak one.
func keepers() []impl.Ins {
	return []impl.Ins{ins(impl.IxMove, 1, 0, 0), named(impl.IxGet, 1, 0, 0, "aaaaab"), ins(impl.IxLive, 1, 2, 0), ins(impl.IxCall, 1, 1, 0), named(impl.IxPut, 0, 0, 0, "a"), ins(impl.IxBack, 0, 0, 0)}
}

// renowned is counted just as often as may be, by its fields and a register.
func renowned(l ...impl.Ins) impl.Vm {
	c := codeOf(ended(0, 3, l...), ended(1, 2))
	a := famous(mostCount - 1)
	a.Slots[0].Count = mostCount
	return impl.Vm{Code: c, Arena: a, Frames: []impl.Frame{frame(0, 0, 0, refTo(0, 1), nilVal(), weakTo(0, 1))}}
}

func TestStepBeyondCount(t *testing.T) {
	v := renowned(keepers()...)
	if !impl.VmOk(v) {
		t.Fatal("it may not be")
	}
	for pc, o := range keepers() {
		v.Frames[0].Pc = pc
		if w, ok := impl.VmStep(v, 9, pc%3); ok || !sameVm(w, v) {
			t.Errorf("order %v: counted %d, %v", o, w.Arena.Slots[0].Count, ok)
		}
	}
}

// One order behind the bound, and several; where the last tick drains it, it is counted as often as may be again.
func TestRunBeyondCount(t *testing.T) {
	tick, none := impl.Ins{}, ins(impl.IxNil, 1, 0, 0)
	keep := keepers()
	for _, x := range []struct {
		l     []impl.Ins
		plan  []int
		count int
		may   bool
	}{
		{nil, nil, mostCount + 1, false}, // the IxBack, for which register 0 is kept
		{keep[:1], []int{impl.DoNothing}, mostCount + 2, false},
		{keep[:4], []int{impl.DoCollect}, mostCount + 6, false},
		{keep[4:5], []int{impl.DoDrain}, mostCount + 2, false},
		{slices.Concat(keep[:4], []impl.Ins{none, tick}), []int{impl.DoNothing}, mostCount + 6, false},
		{slices.Concat(keep[:3], []impl.Ins{none, tick, ins(impl.IxJump, 4, 0, 0)}), []int{impl.DoDrain}, mostCount - 1, true},
		{slices.Concat(keep[:3], []impl.Ins{none, ins(impl.IxNil, 0, 0, 0), tick}), []int{impl.DoCollect}, 0, true},
	} {
		v := renowned(x.l...)
		w := wantRun(t, v, 3, x.plan)
		if s := w.Arena.Slots[0]; s.Count != x.count || impl.VmOk(w) != x.may {
			t.Errorf("%v, plan %v: counted %d, state %d; want %d", x.l, x.plan, s.Count, w.State, x.count)
		}
	}
}

// Made machines at their bounds: slots whose Gen is the last or last but one, and a log that is nearly full.
func TestMadeMachinesRunBeyond(t *testing.T) {
	m := wright{rand.New(rand.NewSource(37))}
	passed := map[string]int{}
	for i := range 8000 {
		v := m.machine()
		for n, s := range v.Arena.Slots {
			if !s.Live && m.Intn(3) > 0 {
				v.Arena.Slots[n].Gen = mostCount - m.Intn(2)
			}
		}
		v.Log = nil
		if i%2 == 0 {
			v.Log = bytes.Repeat([]byte("!"), mostLog-m.Intn(9))
		}
		fuel, plan := []int{0, 2, 50, 2000}[m.Intn(4)], somePlan(m.Rand)
		w, ok := impl.VmRun(v, fuel, plan)
		if want := plainRun(v, fuel, plan); !ok || !sameVm(w, want) {
			t.Fatalf("%s, fuel %d, plan %v:\n%s, %v; want\n%s", pictured(v), fuel, plan, pictured(w), ok, pictured(want))
		}
		gen := slices.ContainsFunc(w.Arena.Slots, func(s impl.Slot) bool { return s.Gen > mostCount })
		if gen {
			passed["Gen"]++
		}
		if len(w.Log) > mostLog {
			passed["Log"]++
		}
		if gen || len(w.Log) > mostLog {
			wantNoVm(t, "past a bound", w)
			passed[[]string{"at its end", "on its way"}[min(1, len(w.Frames))]]++
		}
	}
	for _, what := range []string{"Gen", "Log", "at its end", "on its way"} {
		if passed[what] < 30 {
			t.Errorf("%s: only %d: the test sees too few", what, passed[what])
		}
	}
}
