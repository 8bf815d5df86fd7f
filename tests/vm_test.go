package tests

// Chapter 7: what a machine may be, sentence by sentence, and what is told of one.

import (
	"bytes"
	"fmt"
	"math"
	"math/rand"
	"slices"
	"testing"

	"loop.example/g00547/impl"
)

const mostLog = 100000
const mostPlans = 50
const mostOrders = 20000

func frame(unit, pc, to int, regs ...impl.Val) impl.Frame {
	return impl.Frame{Unit: unit, Pc: pc, To: to, Regs: regs}
}

// recountedVm gives each thing the Count that registers, fields and what is queued make.
func recountedVm(v impl.Vm) impl.Vm {
	v = copiedVm(v)
	for n, refs := range plainRefs(v.Arena, plainRoots(v)) {
		if v.Arena.Slots[n].Live {
			v.Arena.Slots[n].Count = refs
		}
	}
	return v
}

func machineWith(c impl.Code, a impl.Arena, l ...impl.Frame) impl.Vm {
	return recountedVm(impl.Vm{Code: c, Arena: a, Frames: l})
}

func copiedVm(v impl.Vm) impl.Vm {
	v.Code = copiedCode(v.Code)
	v.Arena = copied(v.Arena)
	var l []impl.Frame
	for _, f := range v.Frames {
		l = append(l, frame(f.Unit, f.Pc, f.To, slices.Clone(f.Regs)...))
	}
	v.Frames = l
	v.Log = bytes.Clone(v.Log)
	return v
}

func sameFrame(a, b impl.Frame) bool {
	return a.Unit == b.Unit && a.Pc == b.Pc && a.To == b.To && slices.Equal(a.Regs, b.Regs)
}

func sameVm(a, b impl.Vm) bool {
	return sameCode(a.Code, b.Code) && sameArena(a.Arena, b.Arena) && slices.EqualFunc(a.Frames, b.Frames, sameFrame) &&
		bytes.Equal(a.Log, b.Log) && a.Ticks == b.Ticks && a.State == b.State
}

func isZeroVm(v impl.Vm) bool { return sameVm(v, impl.Vm{}) }

// pictured is a machine without its code, and with the end of its log.
func pictured(v impl.Vm) string {
	end := v.Log[max(0, len(v.Log)-30):]
	return fmt.Sprintf("state %d, %d ticks, frames %v, %v, log of %d %q", v.State, v.Ticks, v.Frames, v.Arena, len(v.Log), end)
}

func plainRoots(v impl.Vm) []impl.Val {
	var l []impl.Val
	for _, f := range v.Frames {
		l = append(l, f.Regs...)
	}
	return l
}

func plainFrameOk(v impl.Vm, i int) bool {
	f := v.Frames[i]
	if f.Unit < 0 || f.Unit >= len(v.Code.Units) || i == 0 && f.To != 0 {
		return false
	}
	u := v.Code.Units[f.Unit]
	if f.Pc < 0 || f.Pc >= len(u.L) || len(f.Regs) != u.Regs || i > 0 && (f.To < 0 || f.To >= len(v.Frames[i-1].Regs)) {
		return false
	}
	return !slices.ContainsFunc(f.Regs, func(x impl.Val) bool { return !plainValOk(v.Arena, x) })
}

func plainVmOk(v impl.Vm) bool {
	if !plainCodeOk(v.Code) || !plainArenaOk(v.Arena) || len(v.Frames) > 13 || len(v.Frames) > 0 && v.State != 0 {
		return false
	}
	if len(v.Log) > mostLog || v.Ticks < 0 || v.Ticks > mostFuel || v.State < 0 || v.State > 4 {
		return false
	}
	for i := range v.Frames {
		if !plainFrameOk(v, i) {
			return false
		}
	}
	for n, refs := range plainRefs(v.Arena, plainRoots(v)) {
		if v.Arena.Slots[n].Live && v.Arena.Slots[n].Count != refs {
			return false
		}
	}
	return true
}

// wantVm also looks at all that answers only when a machine is VmOk.
func wantVm(t *testing.T, what string, v impl.Vm, want bool) {
	t.Helper()
	if impl.VmOk(v) != want {
		t.Fatalf("%s: VmOk is not %v: %s", what, want, pictured(v))
	}
	if !want {
		wantNoVm(t, what, v)
		return
	}
	roots := plainRoots(v)
	top, refs := -1, 0
	for _, f := range v.Frames {
		top = f.Unit
		for _, x := range f.Regs {
			if x.Kind == impl.VlRef {
				refs++
			}
		}
	}
	if got := impl.VmRoots(v); !slices.Equal(got, roots) {
		t.Fatalf("%s: VmRoots are %v; want %v", what, got, roots)
	}
	if impl.Depth(v) != len(v.Frames) || impl.TopUnit(v) != top || impl.RefRegs(v) != refs {
		t.Fatalf("%s: Depth %d, TopUnit %d, RefRegs %d; want %d, %d, %d", what, impl.Depth(v), impl.TopUnit(v), impl.RefRegs(v), len(v.Frames), top, refs)
	}
	wantVmBack(t, what, v)
	s, ok := impl.Settle(v)
	w := copiedVm(v)
	w.Arena, _ = plainCollect(w.Arena)
	if !ok || !sameVm(s, w) {
		t.Fatalf("%s: %s settled is %s, %v; want %s", what, pictured(v), pictured(s), ok, pictured(w))
	}
}

func wantNoVm(t *testing.T, what string, v impl.Vm) {
	t.Helper()
	if l := impl.VmRoots(v); len(l) > 0 {
		t.Fatalf("%s: VmRoots are %v", what, l)
	}
	if impl.Depth(v) != -1 || impl.TopUnit(v) != -1 || impl.RefRegs(v) != -1 {
		t.Fatalf("%s: Depth %d, TopUnit %d, RefRegs %d", what, impl.Depth(v), impl.TopUnit(v), impl.RefRegs(v))
	}
	if w, ok := impl.Settle(v); ok || !isZeroVm(w) {
		t.Fatalf("%s: settled it is %s, %v", what, pictured(w), ok)
	}
	for do := range 3 {
		wantNoStep(t, what, v, 9, do)
		wantNoRun(t, what, v, 9, []int{do})
	}
	wantNoRun(t, what, v, mostFuel, nil)
	wantNoVmBytes(t, what, v)
}

func wantNoStep(t *testing.T, what string, v impl.Vm, fuel, do int) {
	t.Helper()
	if w, ok := impl.VmStep(v, fuel, do); ok || !isZeroVm(w) {
		t.Fatalf("%s, fuel %d, do %d: VmStep answers %s, %v", what, fuel, do, pictured(w), ok)
	}
}

func wantNoRun(t *testing.T, what string, v impl.Vm, fuel int, plan []int) {
	t.Helper()
	if w, ok := impl.VmRun(v, fuel, plan); ok || !isZeroVm(w) {
		t.Fatalf("%s, fuel %d, plan %v: VmRun answers %s, %v", what, fuel, plan, pictured(w), ok)
	}
}

// couple has two frames, of a unit with three registers and of one with two.
func couple() impl.Vm {
	c := codeOf(ended(0, 3, ins(impl.IxCall, 2, 1, 0), ins(impl.IxShow, 2, 0, 0)), ended(2, 2, ins(impl.IxNew, 0, 0, 0), ins(impl.IxNil, 1, 0, 0), impl.Ins{}))
	a := room(thing(2, 0, field("a", refTo(1, 1)), field("b", weakTo(2, 3))), thing(1, 0, field("c", refTo(0, 2))), hole(3), thing(4, 0, field("d", refTo(3, 4))))
	v := machineWith(c, queued(purple(a, 3, 0), 1, 0, 1), frame(0, 1, 0, refTo(0, 2), numVal(-7), nilVal()), frame(1, 2, 2, weakTo(2, 0), refTo(0, 2)))
	v.Log, v.Ticks = []byte("7\n"), 5
	return v
}

// changedVm is a copy of a machine in which something is another.
func changedVm(v impl.Vm, change func(v *impl.Vm)) impl.Vm {
	v = copiedVm(v)
	change(&v)
	return v
}

func wantChanged(t *testing.T, what string, want bool, change func(v *impl.Vm)) {
	t.Helper()
	wantVm(t, what, changedVm(couple(), change), want)
}

func TestVmOkOfCodeAndArena(t *testing.T) {
	wantVm(t, "two frames", couple(), true)
	wantVm(t, "the zero value", impl.Vm{}, false)
	wantVm(t, "no frames", impl.Vm{Code: sample(), Arena: slots(1, hole(0))}, true)
	wantVm(t, "no code", impl.Vm{Arena: slots(1, hole(0))}, false)
	wantVm(t, "no arena", impl.Vm{Code: sample()}, false)
	for n := range 19 {
		wantVm(t, fmt.Sprint(n, " slots"), impl.Vm{Code: sample(), Arena: slots(n, hole(2))}, 1 <= n && n <= impl.MaxCap)
	}
	wantChanged(t, "a code that is not CodeOk", false, func(v *impl.Vm) { v.Code.Units[1].L[2].B = 1 })
	wantChanged(t, "a fifth unit", false, func(v *impl.Vm) {
		v.Code.Units = append(v.Code.Units, ended(0, 1), ended(0, 1), ended(0, 1))
	})
	wantChanged(t, "a fourth unit", true, func(v *impl.Vm) { v.Code.Units = append(v.Code.Units, ended(0, 1), ended(0, 1)) })
	wantChanged(t, "an arena with a field of no thing", false, func(v *impl.Vm) { v.Arena.Slots[2].Fields = fieldsOf("a") })
	wantChanged(t, "a Gen of a thing", false, func(v *impl.Vm) { v.Arena.Slots[3].Gen = 5 })
	wantChanged(t, "purple twice", false, func(v *impl.Vm) { v.Arena.Purple = []int{3, 3} })
	wantChanged(t, "no purple", true, func(v *impl.Vm) { v.Arena.Purple = nil })
	wantChanged(t, "queued, but no thing", false, func(v *impl.Vm) { v.Arena.Queue = append(v.Arena.Queue, 2) })
	for _, n := range []int{500, 501} {
		v := couple()
		v.Arena.Queue = slices.Repeat([]int{0}, n)
		wantVm(t, fmt.Sprint(n, " queued"), recountedVm(v), n == mostQueue)
	}
}

func TestVmOkOfFramesAndStates(t *testing.T) {
	c := codeOf(ended(0, 1))
	for n := range 17 {
		for state := -2; state <= 7; state++ {
			v := impl.Vm{Code: c, Arena: slots(2, hole(0)), State: state}
			for range n {
				v.Frames = append(v.Frames, frame(0, 0, 0, numVal(n)))
			}
			want := n <= impl.MaxFrames && (state == impl.RsDone || n == 0 && impl.RsDone <= state && state <= impl.RsFull)
			wantVm(t, fmt.Sprint(n, " frames, state ", state), v, want)
		}
	}
	for _, state := range []int{math.MinInt, math.MaxInt, 256, 1 << 32} {
		wantVm(t, "a state", impl.Vm{Code: c, Arena: slots(2, hole(0)), State: state}, false)
	}
	wantVm(t, "a lot of frames", impl.Vm{Code: c, Arena: slots(2, hole(0)), Frames: make([]impl.Frame, 100000)}, false)
}

func TestVmOkOfLogAndTicks(t *testing.T) {
	for _, n := range []int{0, 1, mostLog - 1, mostLog, mostLog + 1, 2 * mostLog} {
		wantChanged(t, fmt.Sprint("a log of ", n), n <= mostLog, func(v *impl.Vm) { v.Log = make([]byte, n) })
	}
	wantChanged(t, "any bytes", true, func(v *impl.Vm) { v.Log = []byte("\x00\xff!") })
	for _, n := range []int{math.MinInt, -2000, -1, 0, 1, 1999, 2000, 2001, 2002, 1 << 32, math.MaxInt} {
		wantChanged(t, fmt.Sprint("ticks ", n), 0 <= n && n <= mostFuel, func(v *impl.Vm) { v.Ticks = n })
		wantVm(t, fmt.Sprint("ticks ", n, " at the end"), impl.Vm{Code: sample(), Arena: slots(1, hole(0)), Ticks: n, State: impl.RsFuel}, 0 <= n && n <= mostFuel)
	}
}

func TestVmOkOfUnitsAndPlaces(t *testing.T) {
	for _, n := range []int{math.MinInt, -256, -2, -1, 0, 1, 2, 3, 4, 5, 256, 1 << 32, math.MaxInt} {
		what := fmt.Sprint(" is ", n)
		// unit 0 has three registers and orders, unit 1 two registers and four orders
		wantChanged(t, "the first's Unit"+what, n == 0, func(v *impl.Vm) { v.Frames[0].Unit = n })
		wantChanged(t, "the last's Unit"+what, n == 1, func(v *impl.Vm) { v.Frames[1].Unit = n })
		wantChanged(t, "the first's Pc"+what, 0 <= n && n < 3, func(v *impl.Vm) { v.Frames[0].Pc = n })
		wantChanged(t, "the last's Pc"+what, 0 <= n && n < 4, func(v *impl.Vm) { v.Frames[1].Pc = n })
		// units alike, so that only their number counts
		v := machineWith(codeOf(ended(0, 1), ended(1, 1), ended(0, 1)), slots(1, hole(0)), frame(0, 0, 0, nilVal()), frame(0, 1, 0, nilVal()))
		v.Frames[1].Pc = 0
		v.Frames[1].Unit = n
		wantVm(t, "Unit"+what, v, 0 <= n && n < 3)
		v.Frames[0].Unit = n
		wantVm(t, "both Units"+what, v, 0 <= n && n < 3)
	}
}

func TestVmOkOfRegs(t *testing.T) {
	for n := range 7 {
		regs := slices.Repeat([]impl.Val{nilVal()}, n)
		empty := func(v *impl.Vm) {
			v.Arena = slots(3, hole(1))
			v.Frames[0].Regs, v.Frames[1].Regs = make([]impl.Val, 3), make([]impl.Val, 2)
		}
		wantChanged(t, fmt.Sprint(n, " Regs of the first"), n == 3, func(v *impl.Vm) { empty(v); v.Frames[0].Regs = regs })
		wantChanged(t, fmt.Sprint(n, " Regs of the last"), n == 2, func(v *impl.Vm) { empty(v); v.Frames[1].Regs = regs })
	}
	for n := 1; n <= impl.MaxRegs; n++ {
		for _, more := range []int{-1, 0, 1} {
			v := machineWith(codeOf(ended(0, n)), slots(1, hole(0)), frame(0, 0, 0, make([]impl.Val, n+more)...))
			wantVm(t, fmt.Sprint(n, " Regs and ", more), v, more == 0)
		}
	}
	full := frame(0, 0, 0, slices.Repeat([]impl.Val{refTo(0, 1)}, impl.MaxRegs)...)
	v := machineWith(codeOf(ended(0, impl.MaxRegs)), room(thing(1, 0)), slices.Repeat([]impl.Frame{full}, impl.MaxFrames)...)
	wantVm(t, "all registers", v, true)
	if n := impl.RefRegs(v); n != 312 || v.Arena.Slots[0].Count != 312 {
		t.Errorf("RefRegs of all registers: %d, counted %d", n, v.Arena.Slots[0].Count)
	}
}

func TestVmOkOfTo(t *testing.T) {
	for _, n := range []int{math.MinInt, -2, -1, 0, 1, 2, 3, 4, 24, 1 << 32, math.MaxInt} {
		what := fmt.Sprint(" is ", n)
		wantChanged(t, "To of the first"+what, n == 0, func(v *impl.Vm) { v.Frames[0].To = n })
		wantChanged(t, "To of the second"+what, 0 <= n && n < 3, func(v *impl.Vm) { v.Frames[1].To = n })
		wantChanged(t, "To of the third"+what, 0 <= n && n < 2, func(v *impl.Vm) { v.Frames = append(v.Frames, frame(0, 0, n, make([]impl.Val, 3)...)) })
		wantChanged(t, "To of the first of one"+what, n == 0, func(v *impl.Vm) {
			v.Frames = v.Frames[:1]
			v.Frames[0].To = n
			*v = recountedVm(*v)
		})
	}
}

// Registers of each value that is right, and of each that is not, in a frame that is not the last and in one that is.
func TestVmOkOfValues(t *testing.T) {
	c := codeOf(ended(0, 2), ended(1, 3))
	with := func(x impl.Val) []impl.Vm {
		var l []impl.Vm
		for at := range 5 {
			v := impl.Vm{Code: c, Arena: queued(home(), 0, 2, 4), Frames: []impl.Frame{frame(0, 0, 0, make([]impl.Val, 2)...), frame(1, 0, 1, make([]impl.Val, 3)...)}}
			if at < 2 {
				v.Frames[0].Regs[at] = x
			} else {
				v.Frames[1].Regs[at-2] = x
			}
			l = append(l, recountedVm(v))
		}
		return l
	}
	for _, x := range rightVals() {
		for _, v := range with(x) {
			wantVm(t, fmt.Sprint("a register with ", x), v, true)
		}
	}
	for _, x := range wrongVals() {
		for _, v := range with(x) {
			wantVm(t, fmt.Sprint("a register with ", x), v, false)
		}
	}
}

func TestVmOkOfCounts(t *testing.T) {
	for n, s := range couple().Arena.Slots {
		for _, more := range []int{-2, -1, 1, 2, 1000} {
			if s.Live {
				wantChanged(t, fmt.Sprint(more, " more of ", n), false, func(v *impl.Vm) { v.Arena.Slots[n].Count += more })
			}
		}
	}
	wantChanged(t, "a register more", false, func(v *impl.Vm) { v.Frames[0].Regs[2] = refTo(0, 2) })
	wantChanged(t, "a register less", false, func(v *impl.Vm) { v.Frames[1].Regs[1] = nilVal() })
	wantChanged(t, "a weak one instead", false, func(v *impl.Vm) { v.Frames[1].Regs[1] = weakTo(0, 2) })
	wantChanged(t, "a weak one more", true, func(v *impl.Vm) { v.Frames[0].Regs[2] = weakTo(0, 2) })
	wantChanged(t, "a field less", false, func(v *impl.Vm) { v.Arena.Slots[1].Fields = nil })
	wantChanged(t, "one less is queued", false, func(v *impl.Vm) { v.Arena.Queue = v.Arena.Queue[1:] })
	wantChanged(t, "another is queued", false, func(v *impl.Vm) { v.Arena.Queue[0] = 0 })
	wantChanged(t, "queued in another order", true, func(v *impl.Vm) { v.Arena.Queue = []int{0, 1, 1} })
	wantChanged(t, "a register for one that is queued", true, func(v *impl.Vm) {
		v.Arena.Queue = v.Arena.Queue[1:]
		v.Frames[0].Regs[2] = refTo(1, 1)
	})
}

func TestVmNew(t *testing.T) {
	l := []impl.Code{sample(), codeOf(ended(0, 1)), codeOf(ended(0, impl.MaxRegs, ticks(299)...), ended(3, 4)), mustCompile(t, right[0])}
	for i, c := range l {
		for _, size := range []int{math.MinInt, -1, 0, 1, 2, 15, 16, 17, 18, 256, 1 << 32, math.MaxInt} {
			what := fmt.Sprint("code ", i, " in ", size)
			v, ok := impl.VmNew(c, size)
			if ok != (1 <= size && size <= impl.MaxCap) {
				t.Errorf("%s: VmNew is %v", what, ok)
			}
			if !ok {
				if !isZeroVm(v) {
					t.Errorf("%s: false, and %s", what, pictured(v))
				}
				continue
			}
			want := impl.Vm{Code: c, Arena: slots(size, hole(0)), Frames: []impl.Frame{frame(0, 0, 0, make([]impl.Val, c.Units[0].Regs)...)}}
			if !sameVm(v, want) {
				t.Errorf("%s: %s; want %s", what, pictured(v), pictured(want))
			}
			wantVm(t, what, v, true)
		}
	}
	for what, c := range map[string]impl.Code{
		"no units":         {},
		"Params":           codeOf(ended(1, 1)),
		"no orders":        codeOf(unit(0, 1)),
		"no registers":     codeOf(ended(0, 0)),
		"25 registers":     codeOf(ended(0, 25)),
		"301 orders":       codeOf(ended(0, 1, ticks(300)...)),
		"five units":       codeOf(slices.Repeat([]impl.Unit{ended(0, 1)}, 5)...),
		"a wrong order":    codeOf(ended(0, 1, ins(impl.IxNil, 1, 0, 0))),
		"one of the last":  codeOf(ended(0, 1), ended(0, 1, ins(15, 0, 0, 0))),
		"not ended":        codeOf(unit(0, 1, impl.Ins{})),
		"a place too much": codeOf(ended(0, 1, ins(impl.IxJump, 2, 0, 0))),
	} {
		for _, size := range []int{0, 1, 16, 17} {
			if v, ok := impl.VmNew(c, size); ok || !isZeroVm(v) {
				t.Errorf("%s in %d: VmNew answers %s, %v", what, size, pictured(v), ok)
			}
		}
	}
}

func TestVmRoots(t *testing.T) {
	roots := func(what string, v impl.Vm, want ...impl.Val) {
		t.Helper()
		if l := impl.VmRoots(v); !slices.Equal(l, want) {
			t.Errorf("%s: VmRoots are %v; want %v", what, l, want)
		}
	}
	roots("two frames", couple(), refTo(0, 2), numVal(-7), nilVal(), weakTo(2, 0), refTo(0, 2))
	roots("no frames", impl.Vm{Code: sample(), Arena: slots(1, hole(0))})
	v, _ := impl.VmNew(sample(), 1)
	roots("a new one", v, make([]impl.Val, 24)...)
	c := codeOf(ended(0, 1), ended(0, 2))
	a := room(thing(1, 0), thing(2, 0))
	roots("three frames", machineWith(c, a, frame(0, 0, 0, numVal(1)), frame(1, 0, 0, refTo(1, 2), numVal(2)), frame(0, 0, 1, refTo(0, 1))), numVal(1), refTo(1, 2), numVal(2), refTo(0, 1))
	v = couple()
	v.Ticks = -1
	roots("not VmOk", v)
}

func wantTold(t *testing.T, what string, v impl.Vm, depth, top, refs int) {
	t.Helper()
	if impl.Depth(v) != depth || impl.TopUnit(v) != top || impl.RefRegs(v) != refs {
		t.Errorf("%s: Depth %d, TopUnit %d, RefRegs %d; want %d, %d, %d", what, impl.Depth(v), impl.TopUnit(v), impl.RefRegs(v), depth, top, refs)
	}
}

func TestDepthTopUnitRefRegs(t *testing.T) {
	wantTold(t, "two frames", couple(), 2, 1, 2)
	wantTold(t, "no frames", impl.Vm{Code: sample(), Arena: slots(1, hole(0))}, 0, -1, 0)
	wantTold(t, "no frames, at its end", impl.Vm{Code: sample(), Arena: slots(1, hole(0)), State: impl.RsFull}, 0, -1, 0)
	v, _ := impl.VmNew(sample(), 1)
	wantTold(t, "a new one", v, 1, 0, 0)
	c := codeOf(ended(0, 2), ended(0, 1), ended(1, 3))
	a := room(thing(1, 0), thing(2, 0))
	x, y, w := refTo(0, 1), refTo(1, 2), weakTo(0, 1)
	wantTold(t, "three", machineWith(c, a, frame(0, 0, 0, x, x), frame(2, 0, 1, y, w, x), frame(1, 0, 2, nilVal())), 3, 1, 4)
	wantTold(t, "the first unit last", machineWith(c, a, frame(2, 0, 0, y, w, x), frame(0, 0, 0, w, numVal(2))), 2, 0, 2)
	wantTold(t, "the zero value", impl.Vm{}, -1, -1, -1)
	v = couple()
	v.State = impl.RsType
	wantTold(t, "not VmOk", v, -1, -1, -1)
}

// Settle of who is queued, of a round that is purple, and of one that nobody knows of.
func TestSettle(t *testing.T) {
	c := codeOf(ended(0, 2))
	a := room(thing(1, 0, field("a", refTo(1, 1))), thing(1, 0), thing(1, 0, field("a", refTo(3, 1))), thing(1, 0, field("a", refTo(2, 1))), thing(7, 0, field("a", refTo(4, 7))), hole(2))
	v := machineWith(c, queued(purple(a, 3), 0), frame(0, 0, 0, refTo(1, 1), weakTo(2, 1)))
	v.Log, v.Ticks = []byte("nil\n"), 2000
	w, ok := impl.Settle(v)
	want := changedVm(v, func(v *impl.Vm) {
		v.Arena = room(hole(1), thing(1, 1), hole(1), hole(1), thing(7, 1, field("a", refTo(4, 7))), hole(2))
	})
	if !ok || !sameVm(w, want) {
		t.Errorf("settled: %s, %v; want %s", pictured(w), ok, pictured(want))
	}
	over := impl.Vm{Code: c, Arena: queued(room(thing(3, 2), hole(0)), 0, 0), State: impl.RsDeep, Log: []byte("1\n"), Ticks: 3}
	w, ok = impl.Settle(over)
	over.Arena = room(hole(3), hole(0))
	if !ok || !sameVm(w, over) {
		t.Errorf("settled at its end: %s, %v", pictured(w), ok)
	}
}

// A wright makes machines that may be.
type wright struct{ *rand.Rand }

// balanced has each thing that nobody refers to queued, and just the counts that this makes.
func balanced(v impl.Vm) impl.Vm {
	for n, refs := range plainRefs(v.Arena, plainRoots(v)) {
		if v.Arena.Slots[n].Live && refs == 0 {
			v.Arena.Queue = append(v.Arena.Queue, n)
		}
	}
	return recountedVm(v)
}

func (m wright) machine() impl.Vm {
	c := coder{m.Rand}.code()
	v := impl.Vm{Code: c, Arena: m.arena(), Ticks: []int{0, 1, 5, 1999, 2000}[m.Intn(5)]}
	for range []int{0, m.Intn(4), 1 + m.Intn(3), 1 + m.Intn(13), 13}[m.Intn(5)] {
		unit := m.Intn(len(c.Units))
		f := frame(unit, m.Intn(len(c.Units[unit].L)), 0)
		if len(v.Frames) > 0 {
			f.To = m.Intn(len(v.Frames[len(v.Frames)-1].Regs))
		}
		for range c.Units[unit].Regs {
			f.Regs = append(f.Regs, m.value(v.Arena))
		}
		v.Frames = append(v.Frames, f)
	}
	if len(v.Frames) == 0 {
		v.State = m.Intn(5)
	}
	if m.Intn(10) == 0 {
		v.Log = bytes.Repeat([]byte("!"), mostLog-m.Intn(9))
	}
	return balanced(v)
}

func (m wright) value(a impl.Arena) impl.Val {
	if m.Intn(5) == 0 {
		return numVal(m.Intn(3))
	}
	return builder{m.Rand}.value(a)
}

// arena has at times all slots live, many that are queued, or a slot whose Gen is at its bound.
func (m wright) arena() impl.Arena {
	a := builder{m.Rand}.arena()
	if m.Intn(4) == 0 {
		for n, s := range a.Slots {
			if !s.Live {
				a.Slots[n] = thing(s.Gen+1, 1)
			}
		}
	}
	for n, s := range a.Slots {
		if s.Live && m.Intn(60) == 0 {
			a.Queue = append(a.Queue, slices.Repeat([]int{n}, 280+m.Intn(100))...)
			a.Queue = a.Queue[:min(len(a.Queue), mostQueue-impl.MaxCap)]
		}
		if !s.Live && m.Intn(20) == 0 {
			a.Slots[n].Gen = mostCount - m.Intn(2)
		}
	}
	return a
}

// changed has one number of a machine changed at random; so it may be as before, or not.
func (m wright) changed(v impl.Vm) impl.Vm {
	v = copiedVm(v)
	n := []int{-1, 0, 1, 2, 3, 4, 5, 13, 2000, 2001}[m.Intn(10)]
	if len(v.Frames) > 0 && m.Intn(2) == 0 {
		f := &v.Frames[m.Intn(len(v.Frames))]
		switch m.Intn(6) {
		case 0:
			f.Unit = n
		case 1:
			f.Pc = n
		case 2:
			f.To = n
		case 3:
			f.Regs = f.Regs[:len(f.Regs)-1]
		case 4:
			f.Regs = append(f.Regs, nilVal())
		case 5:
			f.Regs[m.Intn(len(f.Regs))] = builder{m.Rand}.value(v.Arena)
		}
		return v
	}
	switch m.Intn(6) {
	case 0:
		v.Ticks = n
	case 1:
		v.State = n
	case 2:
		v.Code = coder{m.Rand}.changed(v.Code)
	case 3:
		v.Frames = append(v.Frames, frame(0, 0, 0, make([]impl.Val, v.Code.Units[0].Regs)...))
	default:
		v.Arena = builder{m.Rand}.changed(v.Arena)
	}
	return v
}

func TestMadeMachines(t *testing.T) {
	m := wright{rand.New(rand.NewSource(25))}
	may, not := 0, 0
	for range 2500 {
		v := m.machine()
		wantVm(t, "made", v, true)
		for range 4 {
			w := m.changed(v)
			want := plainVmOk(w)
			wantVm(t, "changed", w, want)
			if want {
				may++
			} else {
				not++
			}
		}
	}
	if may < 1500 || not < 1500 {
		t.Errorf("%d changed ones may be, %d may not: the test sees too few", may, not)
	}
}
