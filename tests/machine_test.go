package tests

// Promise 8: made machines, and such as come of made programs, held order by order against a second, plain machine.

import (
	"bytes"
	"fmt"
	"math/rand"
	"slices"
	"strings"
	"testing"

	"loop.example/g00547/impl"
)

// The plain machine does orders on a copy, by the plain reckoning of chapter 5. On the way it asks for no bound.

type plainMachine struct {
	impl.Vm
	r []impl.Val // registers of the last frame
}

func plainStep(v impl.Vm, fuel, do int) (impl.Vm, bool) {
	if !plainVmOk(v) || len(v.Frames) == 0 || fuel < 0 || fuel > mostFuel || do < 0 || do > 2 {
		return impl.Vm{}, false
	}
	k := plainMachine{Vm: copiedVm(v)}
	k.step(fuel, do)
	if !plainVmOk(k.Vm) {
		return copiedVm(v), false
	}
	return k.Vm, true
}

// plainRun does order after order, whatever comes of them.
func plainRun(v impl.Vm, fuel int, plan []int) impl.Vm {
	k := plainMachine{Vm: copiedVm(v)}
	for n := 0; n < mostOrders && len(k.Frames) > 0; n++ {
		k.step(fuel, plannedAt(plan, k.Ticks))
	}
	return k.Vm
}

func (k *plainMachine) step(fuel, do int) {
	f := &k.Frames[len(k.Frames)-1]
	o := k.Code.Units[f.Unit].L[f.Pc]
	f.Pc++
	k.r = f.Regs
	k.order(o, fuel, do)
	if k.State != impl.RsDone {
		k.drop(plainRoots(k.Vm)...)
		k.Frames = nil
		k.Arena, _ = plainDrain(k.Arena)
	}
	if len(k.Arena.Queue) > 300 {
		k.Arena, _ = plainDrain(k.Arena)
	}
}

func (k *plainMachine) keep(v impl.Val) {
	if v.Kind == impl.VlRef {
		k.Arena.Slots[v.N].Count++
	}
}

func (k *plainMachine) drop(l ...impl.Val) {
	for _, v := range l {
		if v.Kind == impl.VlRef {
			k.Arena.Queue = append(k.Arena.Queue, v.N)
		}
	}
}

func (k *plainMachine) put(at int, v impl.Val) {
	k.keep(v)
	k.drop(k.r[at])
	k.r[at] = v
}

// needs is false, and the end, where a value is of another kind.
func (k *plainMachine) needs(v impl.Val, kind int) bool {
	if v.Kind != kind {
		k.State = impl.RsType
	}
	return v.Kind == kind
}

func (k *plainMachine) order(o impl.Ins, fuel, do int) {
	switch o.Op {
	case impl.IxTick:
		k.tick(fuel, do)
	case impl.IxNum:
		k.put(o.A, numVal(o.B))
	case impl.IxNil:
		k.put(o.A, nilVal())
	case impl.IxMove:
		k.put(o.A, k.r[o.B])
	case impl.IxNew:
		k.fresh(o.A)
	case impl.IxGet:
		if k.needs(k.r[o.B], impl.VlRef) {
			v := nilVal()
			for _, f := range k.Arena.Slots[k.r[o.B].N].Fields {
				if bytes.Equal(f.Name, o.Name) {
					v = f.V
				}
			}
			k.put(o.A, v)
		}
	case impl.IxPut:
		if k.needs(k.r[o.A], impl.VlRef) {
			k.Arena, _ = plainPut(k.Arena, k.r[o.A], string(o.Name), k.r[o.B])
		}
	case impl.IxBin:
		k.both(o)
	case impl.IxJump:
		k.Frames[len(k.Frames)-1].Pc = o.A
	case impl.IxZero:
		if v := k.r[o.A]; v == nilVal() || v == numVal(0) {
			k.Frames[len(k.Frames)-1].Pc = o.B
		}
	case impl.IxCall:
		k.begin(o)
	case impl.IxBack:
		k.end(o)
	case impl.IxShow:
		v := k.r[o.A]
		k.Log = append(k.Log, []string{"nil", fmt.Sprint(v.N), "thing", "weak"}[v.Kind]+"\n"...)
	case impl.IxWeak:
		if v := k.r[o.B]; k.needs(v, impl.VlRef) {
			k.put(o.A, weakTo(v.N, v.Gen))
		}
	case impl.IxLive:
		if v := k.r[o.B]; k.needs(v, impl.VlWeak) {
			of := refTo(v.N, v.Gen)
			if !plainValOk(k.Arena, of) {
				of = nilVal()
			}
			k.put(o.A, of)
		}
	}
}

// tick takes it that more ticks than fuel are enough, too.
func (k *plainMachine) tick(fuel, do int) {
	if k.Ticks >= fuel {
		k.State = impl.RsFuel
		return
	}
	k.Ticks++
	if do == impl.DoDrain {
		k.Arena, _ = plainDrain(k.Arena)
	}
	if do == impl.DoCollect {
		k.Arena, _ = plainCollect(k.Arena)
	}
}

func (k *plainMachine) fresh(at int) {
	isFree := func(s impl.Slot) bool { return !s.Live }
	if !slices.ContainsFunc(k.Arena.Slots, isFree) {
		k.Arena, _ = plainCollect(k.Arena)
	}
	n := slices.IndexFunc(k.Arena.Slots, isFree)
	if n < 0 {
		k.State = impl.RsFull
		return
	}
	k.Arena.Slots[n] = thing(k.Arena.Slots[n].Gen+1, 1)
	k.drop(k.r[at])
	k.r[at] = refTo(n, k.Arena.Slots[n].Gen)
}

func (k *plainMachine) both(o impl.Ins) {
	x, y := k.r[o.B], k.r[o.A+1]
	flag := func(is bool) impl.Val {
		if is {
			return numVal(1)
		}
		return numVal(0)
	}
	if o.C == '=' {
		k.put(o.A, flag(x == y))
	} else if k.needs(x, impl.VlNum) && k.needs(y, impl.VlNum) {
		k.put(o.A, map[int]impl.Val{'+': numVal(x.N + y.N), '-': numVal(x.N - y.N), '*': numVal(x.N * y.N), '<': flag(x.N < y.N)}[o.C])
	}
}

func (k *plainMachine) begin(o impl.Ins) {
	if len(k.Frames) == 13 {
		k.State = impl.RsDeep
		return
	}
	u := k.Code.Units[o.B]
	f := frame(o.B, 0, o.A, make([]impl.Val, u.Regs)...)
	for i, v := range k.r[o.C : o.C+u.Params] {
		f.Regs[i] = v
		k.keep(v)
	}
	k.Frames = append(k.Frames, f)
}

func (k *plainMachine) end(o impl.Ins) {
	v := k.r[o.A]
	k.keep(v)
	k.drop(k.r...)
	last := len(k.Frames) - 1
	to := k.Frames[last].To
	k.Frames = k.Frames[:last]
	if last == 0 {
		k.drop(v)
		return
	}
	ahead := k.Frames[last-1].Regs
	k.drop(ahead[to])
	ahead[to] = v
}

// wantStepped holds one order against the plain machine, and is promise 8.
func wantStepped(t *testing.T, v impl.Vm, fuel, do int) (impl.Vm, bool) {
	t.Helper()
	w, ok := impl.VmStep(v, fuel, do)
	want, fine := plainStep(v, fuel, do)
	if ok != fine || !sameVm(w, want) {
		t.Fatalf("%s, fuel %d, do %d, order %v:\n%s, %v; want\n%s, %v", pictured(v), fuel, do, nextOf(v), pictured(w), ok, pictured(want), fine)
	}
	if ok {
		wantPromise8(t, v, w)
	}
	return w, ok
}

func nextOf(v impl.Vm) impl.Ins {
	if len(v.Frames) == 0 || !impl.VmOk(v) {
		return ins(-1, 0, 0, 0)
	}
	f := v.Frames[len(v.Frames)-1]
	return v.Code.Units[f.Unit].L[f.Pc]
}

// wantPromise8: it may be; counts are just what they are; whom registers reach is live, and the same thing as before, but the one that is made; its last frame is of a unit that there is.
func wantPromise8(t *testing.T, v, w impl.Vm) {
	t.Helper()
	roots := impl.VmRoots(w)
	if !impl.VmOk(w) || !impl.Counted(w.Arena, roots) || !sameCode(v.Code, w.Code) {
		t.Fatalf("%s, order %v: %s", pictured(v), nextOf(v), pictured(w))
	}
	for n, is := range impl.Reached(w.Arena, roots) {
		if !is {
			continue
		}
		was, s := v.Arena.Slots[n], w.Arena.Slots[n]
		made := nextOf(v).Op == impl.IxNew && w.Frames[len(w.Frames)-1].Regs[nextOf(v).A] == refTo(n, s.Gen) && s.Gen == was.Gen+1
		if !s.Live || !made && (!was.Live || was.Gen != s.Gen) {
			t.Fatalf("%s, order %v: %d is reached, and another: %s", pictured(v), nextOf(v), n, pictured(w))
		}
	}
	if top := impl.TopUnit(w); top < -1 || top >= len(w.Code.Units) || top == -1 != (len(w.Frames) == 0) {
		t.Fatalf("%s, order %v: TopUnit is %d", pictured(v), nextOf(v), top)
	}
}

func TestMadeMachinesStep(t *testing.T) {
	m := wright{rand.New(rand.NewSource(26))}
	states, ops := map[int]int{}, map[int]int{}
	stuck := 0
	for range 4000 {
		v := m.machine()
		for range 6 {
			fuel := []int{0, 1, 5, 1999, 2000, 2000}[m.Intn(6)]
			ops[nextOf(v).Op]++
			w, ok := wantStepped(t, v, fuel, m.Intn(3))
			if !ok {
				if len(v.Frames) > 0 {
					stuck++
				}
				break
			}
			states[w.State]++
			v = w
		}
	}
	for op := impl.IxTick; op <= impl.IxLive; op++ {
		if ops[op] < 100 {
			t.Errorf("only %d of op %d: the test sees too few", ops[op], op)
		}
	}
	for state := impl.RsDone; state <= impl.RsFull; state++ {
		if states[state] < 20 {
			t.Errorf("only %d of state %d: the test sees too few", states[state], state)
		}
	}
	if stuck < 10 {
		t.Errorf("only %d orders that can't be done: the test sees too few", stuck)
	}
}

// Made programs are played by the plain machine beside, order by order, in rooms of each size.
func TestMadeProgramsStep(t *testing.T) {
	r := rand.New(rand.NewSource(27))
	states := map[int]int{}
	for i := range 700 {
		p := playerProgram(r)
		c, ok := impl.Compile(p)
		if !ok {
			continue
		}
		v, _ := impl.VmNew(c, 1+i%impl.MaxCap)
		fuel := []int{5, 20, 100}[i%3]
		for n := 0; len(v.Frames) > 0 && n < 120; n++ {
			v, ok = wantStepped(t, v, fuel, r.Intn(3))
			if !ok {
				t.Fatalf("%q: an order can't be done: %s", impl.ProgText(p), pictured(v))
			}
		}
		if len(v.Frames) == 0 {
			states[v.State]++
		}
	}
	for state := impl.RsDone; state <= impl.RsFull; state++ {
		if states[state] < 5 {
			t.Errorf("only %d end with %d: the test sees too few", states[state], state)
		}
	}
}

// What a function answers is new memory, and an argument stays as it was.

// A crate makes machines anew with spare room behind each of their lists, and knows all of this memory.
type crate struct {
	rack
	frames [][]impl.Frame
}

func (k *crate) vm(v impl.Vm) impl.Vm {
	v.Code = k.code(v.Code)
	v.Arena = k.arena(v.Arena)
	var l []impl.Frame
	for _, f := range v.Frames {
		f.Regs = k.values(f.Regs)
		l = append(l, f)
	}
	l = append(l, frame(0, 0, 0, refTo(0, 1)), frame(-1, -1, -1))
	k.frames = append(k.frames, l)
	v.Frames = l[:len(v.Frames)]
	v.Log = k.name(v.Log)
	return v
}

func (k *crate) picture() string { return fmt.Sprint(*k) }

// opened is each list of a machine as one text; with over it is written over, with the room behind it, once it is copied.
func opened(v impl.Vm, over bool) string {
	if !over {
		v = copiedVm(v)
	}
	s := unpacked(v.Code, over) + laidOut(v.Arena, over)
	for _, f := range v.Frames {
		s += overwritten(f.Regs, refTo(-9, 9))
	}
	for _, f := range v.Frames {
		s += fmt.Sprint(f.Unit, f.Pc, f.To, " ")
	}
	overwritten(v.Frames, frame(-9, -9, -9))
	return s + overwritten(v.Log, '!') + fmt.Sprint(v.Ticks, v.State)
}

// vmAnswers are all that chapter 7 tells of a machine, as texts; each answer is written over, list by list.
func vmAnswers(t *testing.T, v impl.Vm, fuel int, plan []int) []string {
	t.Helper()
	var l []string
	add := func(w impl.Vm, ok bool) {
		t.Helper()
		want := opened(w, false)
		if got := opened(w, true); got != want {
			t.Fatalf("of %s: two lists of an answer share memory:\n%s; want\n%s", pictured(v), got, want)
		}
		l = append(l, fmt.Sprint(want, ok))
	}
	for do := range 3 {
		add(impl.VmStep(v, fuel, do))
	}
	add(impl.VmRun(v, fuel, plan))
	add(impl.Settle(v))
	add(impl.VmNew(v.Code, 1+fuel%3))
	return append(l, overwritten(impl.VmRoots(v), refTo(-9, 9)), fmt.Sprint(impl.VmOk(v), impl.Depth(v), impl.TopUnit(v), impl.RefRegs(v)))
}

func wantVmOnlyRead(t *testing.T, v impl.Vm, fuel int, plan []int) {
	t.Helper()
	var k crate
	w, l := k.vm(v), k.numbers(plan)
	before := k.picture()
	got := vmAnswers(t, w, fuel, l)
	if k.picture() != before {
		t.Fatalf("%s: something is changed", pictured(v))
	}
	want := vmAnswers(t, v, fuel, plan)
	if !slices.Equal(got, want) || !slices.Equal(vmAnswers(t, w, fuel, l), want) {
		t.Fatalf("%s: what lies behind the lists is read, or an answer is kept", pictured(v))
	}
}

func TestMachinesAreOnlyRead(t *testing.T) {
	m := wright{rand.New(rand.NewSource(28))}
	for i := range 900 {
		v := m.machine()
		if len(v.Log) > 0 {
			v.Log = v.Log[:9]
		}
		if i%5 == 0 {
			v = m.changed(v)
		}
		var plan []int
		for range m.Intn(4) {
			plan = append(plan, m.Intn(3))
		}
		wantVmOnlyRead(t, v, []int{0, 3, 100, 2000}[m.Intn(4)], plan)
	}
	// where the answer is the machine as it was
	last := about(ins(impl.IxNew, 0, 0, 0), room(hole(mostCount), thing(1, 0, field("a", refTo(1, 1)))), refTo(1, 1))
	wantVmOnlyRead(t, last, 9, nil)
	long := about(ins(impl.IxShow, 0, 0, 0), scene(), x0)
	long.Log = []byte(strings.Repeat("!", mostLog))
	wantVmOnlyRead(t, long, 9, nil)
	wantVmOnlyRead(t, impl.Vm{Code: sample(), Arena: scene(), State: impl.RsFuel}, 9, []int{1})
	wantVmOnlyRead(t, couple(), 9, []int{1, 2})
}
