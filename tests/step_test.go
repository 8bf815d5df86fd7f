package tests

// Chapter 7's orders one by one: what VmStep makes of a machine, written out and held against the plain machine.

import (
	"bytes"
	"math"
	"slices"
	"testing"

	"loop.example/g00547/impl"
)

// Each order once, written out. A scene has a thing 0 with a field, which is 1, a slot 2 that had things, and one that had none.

func scene() impl.Arena {
	return room(thing(2, 0, field("a", refTo(1, 1)), field("n", numVal(5))), thing(1, 0), hole(3), hole(0))
}

var x0, y0, w0, g0 = refTo(0, 2), refTo(1, 1), weakTo(0, 2), weakTo(2, 3)

// about has that order next, and these registers; behind it are units with 1, 2 and 3 Params.
func about(o impl.Ins, a impl.Arena, regs ...impl.Val) impl.Vm {
	c := codeOf(ended(0, len(regs), o, impl.Ins{}), ended(1, 2), ended(2, 2), ended(3, 5))
	return balanced(impl.Vm{Code: c, Arena: copied(a), Frames: []impl.Frame{frame(0, 0, 0, regs...)}})
}

func wantStep(t *testing.T, v impl.Vm, fuel, do int, want impl.Vm) {
	t.Helper()
	w, ok := impl.VmStep(v, fuel, do)
	if !ok || !sameVm(w, want) {
		t.Errorf("%s, order %v:\n%s, %v; want\n%s", pictured(v), nextOf(v), pictured(w), ok, pictured(want))
	}
	wantStepped(t, v, fuel, do)
}

// wantDone: behind the order Pc is one more, and the change is all; counts are made anew.
func wantDone(t *testing.T, v impl.Vm, change func(v *impl.Vm, f *impl.Frame)) {
	t.Helper()
	want := copiedVm(v)
	f := &want.Frames[len(want.Frames)-1]
	f.Pc++
	change(&want, f)
	wantStep(t, v, 100, impl.DoNothing, recountedVm(want))
}

// wantInto: the value is in that register, and what was there is dropped.
func wantInto(t *testing.T, v impl.Vm, at int, x impl.Val) {
	t.Helper()
	wantDone(t, v, func(v *impl.Vm, f *impl.Frame) {
		if had := f.Regs[at]; had.Kind == impl.VlRef {
			v.Arena.Queue = append(v.Arena.Queue, had.N)
		}
		f.Regs[at] = x
	})
}

// wantOver: all is over with that state; log and ticks stay.
func wantOver(t *testing.T, v impl.Vm, fuel, do, state int) {
	t.Helper()
	want := copiedVm(v)
	want.State, want.Frames = state, nil
	for _, x := range plainRoots(v) {
		want.Arena, _ = plainDrop(want.Arena, x)
	}
	want.Arena, _ = plainDrain(want.Arena)
	if len(want.Arena.Queue) > 0 {
		t.Fatalf("%v is not drained", want.Arena)
	}
	wantStep(t, v, fuel, do, want)
}

func wantTypeEnd(t *testing.T, v impl.Vm) {
	t.Helper()
	wantOver(t, v, 100, impl.DoNothing, impl.RsType)
}

// eachVal are values of each kind in a scene.
func eachVal() []impl.Val {
	return vals(nilVal(), numVal(0), numVal(7), numVal(-1), numVal(math.MinInt), x0, y0, w0, g0, weakTo(2, 1), weakTo(3, 0))
}

// ofOther are those of another kind than a thing, or than a weak one.
func ofOther(kind int) []impl.Val {
	return slices.DeleteFunc(eachVal(), func(v impl.Val) bool { return v.Kind == kind })
}

func TestStepNumNilMove(t *testing.T) {
	for _, had := range eachVal() {
		for _, n := range []int{0, 1, 7, lastNumber} {
			wantInto(t, about(ins(impl.IxNum, 1, n, 0), scene(), x0, had, y0), 1, numVal(n))
		}
		wantInto(t, about(ins(impl.IxNil, 0, 0, 0), scene(), had, x0), 0, nilVal())
		wantInto(t, about(ins(impl.IxNil, 2, 0, 0), scene(), x0, had, had), 2, nilVal())
		for _, v := range eachVal() {
			wantInto(t, about(ins(impl.IxMove, 0, 2, 0), scene(), had, x0, v), 0, v)
			wantInto(t, about(ins(impl.IxMove, 2, 1, 0), scene(), x0, v, had), 2, v)
		}
		// into itself: kept, and dropped
		wantInto(t, about(ins(impl.IxMove, 1, 1, 0), scene(), x0, had), 1, had)
	}
}

func TestStepTick(t *testing.T) {
	// 0 is reached, 1 is queued, 2 and 3 are a round that is purple, 4 is reached and purple
	a := room(thing(1, 0), thing(2, 0, field("a", refTo(4, 1))), thing(3, 0, field("a", refTo(3, 1))), thing(1, 0, field("b", refTo(2, 3))), thing(1, 0))
	v := about(impl.Ins{}, queued(purple(a, 3, 4), 1), refTo(0, 1), refTo(4, 1))
	v.Ticks, v.Log = 7, []byte("nil\n")
	ticked := func(change func(a *impl.Arena)) impl.Vm {
		return changedVm(v, func(v *impl.Vm) {
			v.Ticks = 8
			v.Frames[0].Pc = 1
			change(&v.Arena)
		})
	}
	for _, fuel := range []int{8, 9, 1999, 2000} {
		wantStep(t, v, fuel, impl.DoNothing, ticked(func(a *impl.Arena) {}))
		wantStep(t, v, fuel, impl.DoDrain, ticked(func(a *impl.Arena) {
			a.Queue, a.Slots[1] = nil, hole(2)
			a.Slots[4].Count = 1
		}))
		wantStep(t, v, fuel, impl.DoCollect, ticked(func(a *impl.Arena) {
			*a = room(thing(1, 1), hole(2), hole(3), hole(1), thing(1, 1))
		}))
	}
	for do := range 3 {
		// as many as fuel, or more: all ends, whatever do is; the round stays, and is purple
		end := impl.Vm{Code: v.Code, Ticks: 7, Log: v.Log, State: impl.RsFuel}
		end.Arena = purple(room(hole(1), hole(2), thing(3, 1, field("a", refTo(3, 1))), thing(1, 1, field("b", refTo(2, 3))), hole(1)), 3)
		for _, fuel := range []int{0, 1, 6, 7} {
			wantStep(t, v, fuel, do, end)
		}
		for _, ticks := range []int{0, 1, 1999, 2000} {
			v := changedVm(v, func(v *impl.Vm) { v.Ticks = ticks })
			wantOver(t, v, ticks, do, impl.RsFuel)
			if w, ok := impl.VmStep(v, 2000, do); !ok || ticks < 2000 && w.Ticks != ticks+1 || ticks == 2000 && w.State != impl.RsFuel {
				t.Errorf("%d ticks, fuel 2000: %s, %v", ticks, pictured(w), ok)
			}
		}
	}
}

func TestStepNew(t *testing.T) {
	o := ins(impl.IxNew, 1, 0, 0)
	for _, had := range eachVal() {
		wantDone(t, about(o, scene(), x0, had), func(v *impl.Vm, f *impl.Frame) {
			if had.Kind == impl.VlRef {
				v.Arena.Queue = append(v.Arena.Queue, had.N)
			}
			v.Arena.Slots[2] = thing(4, 1)
			f.Regs[1] = refTo(2, 4)
		})
	}
	// a slot is free: nothing is collected, though there is garbage
	loose := queued(purple(room(thing(1, 0), thing(1, 0, field("a", refTo(1, 1))), hole(0)), 1), 0)
	wantDone(t, about(o, loose, nilVal(), numVal(3)), func(v *impl.Vm, f *impl.Frame) {
		v.Arena.Slots[2] = thing(1, 1)
		f.Regs[1] = refTo(2, 1)
	})
	// none is, but for what can be collected: the first that is empty then
	full := queued(purple(room(thing(1, 0), thing(5, 0, field("a", refTo(2, 2))), thing(2, 0, field("a", refTo(1, 5))), thing(9, 0)), 2), 3)
	v := about(o, full, refTo(0, 1), refTo(0, 1))
	want := changedVm(v, func(v *impl.Vm) {
		v.Arena = queued(room(thing(1, 2), thing(6, 1), hole(2), hole(9)), 0)
		v.Frames[0].Pc = 1
		v.Frames[0].Regs[1] = refTo(1, 6)
	})
	wantStep(t, v, 100, impl.DoNothing, want)
	// what is queued is enough
	v = about(o, queued(room(thing(1, 0), thing(3, 0)), 1), refTo(0, 1), nilVal())
	wantStep(t, v, 0, impl.DoNothing, changedVm(v, func(v *impl.Vm) {
		v.Arena = room(thing(1, 1), thing(4, 1))
		v.Frames[0] = frame(0, 1, 0, refTo(0, 1), refTo(1, 4))
	}))
	// none is at all; what lies in the register is still reached
	for n := 1; n <= impl.MaxCap; n++ {
		a := slots(n, thing(2, 0))
		for i := range n - 1 {
			a.Slots[i].Fields = []impl.Field{field("a", refTo(i+1, 2)), field("b", weakTo(0, 1))}
		}
		v := about(o, a, weakTo(0, 2), refTo(0, 2))
		v.Log, v.Ticks = []byte("7\n"), 3
		end := impl.Vm{Code: v.Code, Arena: slots(n, hole(2)), Log: v.Log, Ticks: 3, State: impl.RsFull}
		wantStep(t, v, 100, impl.DoNothing, end)
	}
}

func TestStepNewAtTheLastGen(t *testing.T) {
	o := ins(impl.IxNew, 0, 0, 0)
	refused := func(v impl.Vm) {
		t.Helper()
		if w, ok := impl.VmStep(v, 100, impl.DoNothing); ok || !sameVm(w, v) {
			t.Errorf("%s: IxNew answers %s, %v", pictured(v), pictured(w), ok)
		}
		wantStepped(t, v, 100, impl.DoNothing)
	}
	refused(about(o, room(hole(mostCount)), nilVal()))
	refused(about(o, room(hole(mostCount), hole(0)), nilVal())) // another slot is not tried
	refused(about(o, queued(room(thing(mostCount, 0)), 0), nilVal()))
	refused(about(o, queued(purple(room(thing(mostCount, 0, field("a", refTo(0, mostCount))), thing(1, 0)), 0), 1), numVal(1)))
	wantDone(t, about(o, room(hole(mostCount-1)), nilVal()), func(v *impl.Vm, f *impl.Frame) {
		v.Arena.Slots[0] = thing(mostCount, 1)
		f.Regs[0] = refTo(0, mostCount)
	})
	wantDone(t, about(o, room(hole(0), hole(mostCount)), nilVal()), func(v *impl.Vm, f *impl.Frame) {
		v.Arena.Slots[0] = thing(1, 1)
		f.Regs[0] = refTo(0, 1)
	})
}

func TestStepGet(t *testing.T) {
	get := func(a, b int, s string) impl.Ins { return named(impl.IxGet, a, b, 0, s) }
	a := scene()
	a.Slots[1].Fields = []impl.Field{field("self", refTo(1, 1)), field("w", w0), field("x", nilVal()), field("z", g0)}
	for _, had := range eachVal() {
		wantInto(t, about(get(0, 1, "a"), a, had, x0), 0, y0)
		wantInto(t, about(get(2, 1, "n"), a, nilVal(), x0, had), 2, numVal(5))
		wantInto(t, about(get(0, 1, "b"), a, had, x0), 0, nilVal())
		wantInto(t, about(get(0, 1, "aa"), a, had, x0), 0, nilVal())
		wantInto(t, about(get(0, 1, "new"), a, had, y0), 0, nilVal())
		wantInto(t, about(get(0, 1, "w"), a, had, y0), 0, w0)
		wantInto(t, about(get(0, 1, "x"), a, had, y0), 0, nilVal())
		wantInto(t, about(get(0, 1, "z"), a, had, y0), 0, g0)
	}
	wantInto(t, about(get(1, 1, "a"), a, nilVal(), x0), 1, y0)
	wantInto(t, about(get(1, 1, "self"), a, nilVal(), y0), 1, y0)
	for _, v := range ofOther(impl.VlRef) {
		wantTypeEnd(t, about(get(0, 1, "a"), a, x0, v))
		wantTypeEnd(t, about(get(1, 1, "a"), a, x0, v))
		wantTypeEnd(t, about(get(0, 2, "b"), a, nilVal(), x0, v))
	}
}

func TestStepPut(t *testing.T) {
	put := func(a, b int, s string) impl.Ins { return named(impl.IxPut, a, b, 0, s) }
	with := func(s impl.Slot, l ...impl.Field) impl.Slot {
		s.Fields = l
		return s
	}
	for _, x := range eachVal() {
		wantDone(t, about(put(0, 1, "a"), scene(), x0, x), func(v *impl.Vm, f *impl.Frame) {
			v.Arena.Slots[0] = with(v.Arena.Slots[0], field("a", x), field("n", numVal(5)))
			v.Arena.Queue = append(v.Arena.Queue, 1)
		})
		wantDone(t, about(put(1, 0, "n"), scene(), x, x0), func(v *impl.Vm, f *impl.Frame) {
			v.Arena.Slots[0] = with(v.Arena.Slots[0], field("a", y0), field("n", x))
		})
		for i, s := range []string{"aa", "abcdef", "m", "new"} {
			at := 1 + i/3
			wantDone(t, about(put(0, 2, s), scene(), x0, nilVal(), x), func(v *impl.Vm, f *impl.Frame) {
				v.Arena.Slots[0].Fields = slices.Insert(v.Arena.Slots[0].Fields, at, field(s, x))
			})
		}
		wantDone(t, about(put(2, 0, "b"), scene(), x, x0, y0), func(v *impl.Vm, f *impl.Frame) {
			v.Arena.Slots[1].Fields = []impl.Field{field("b", x)}
		})
	}
	wantDone(t, about(put(0, 0, "a"), scene(), x0), func(v *impl.Vm, f *impl.Frame) {
		v.Arena.Slots[0] = with(v.Arena.Slots[0], field("a", x0), field("n", numVal(5)))
		v.Arena.Queue = append(v.Arena.Queue, 1)
	})
	// what is there already: kept, and dropped
	wantDone(t, about(put(0, 1, "a"), scene(), x0, y0), func(v *impl.Vm, f *impl.Frame) { v.Arena.Queue = append(v.Arena.Queue, 1) })
	for _, v := range ofOther(impl.VlRef) {
		wantTypeEnd(t, about(put(0, 1, "a"), scene(), v, x0))
		wantTypeEnd(t, about(put(1, 0, "a"), scene(), nilVal(), v))
		wantTypeEnd(t, about(put(0, 0, "b"), scene(), v, y0))
	}
}

func TestStepBin(t *testing.T) {
	bin := func(a, b int, c byte) impl.Ins { return ins(impl.IxBin, a, b, int(c)) }
	flags := map[bool]impl.Val{true: numVal(1), false: numVal(0)}
	for i, x := range eachVal() {
		for j, y := range eachVal() {
			for _, had := range vals(nilVal(), x0, g0) {
				wantInto(t, about(bin(0, 2, '='), scene(), had, y, x), 0, flags[i == j])
			}
			wantInto(t, about(bin(0, 0, '='), scene(), x, y), 0, flags[i == j])
			wantInto(t, about(bin(0, 1, '='), scene(), y, x), 0, flags[true])
			for _, c := range []byte("+-*<") {
				if x.Kind != impl.VlNum || y.Kind != impl.VlNum {
					wantTypeEnd(t, about(bin(0, 2, c), scene(), x0, y, x))
					wantTypeEnd(t, about(bin(1, 1, c), scene(), x0, x, y))
				}
			}
		}
	}
	for _, x := range ends {
		for _, y := range ends {
			for c, want := range map[byte]impl.Val{'+': numVal(x + y), '-': numVal(x - y), '*': numVal(x * y), '<': flags[x < y], '=': flags[x == y]} {
				wantInto(t, about(bin(0, 2, c), scene(), x0, numVal(y), numVal(x)), 0, want)
				wantInto(t, about(bin(1, 1, c), scene(), x0, numVal(x), numVal(y)), 1, want)
			}
		}
	}
	for c, want := range map[byte]int{'+': math.MinInt, '*': -2, '<': 0, '=': 0, '-': math.MaxInt - 1} {
		y := map[byte]int{'*': 2}[c]
		if y == 0 {
			y = 1
		}
		wantInto(t, about(bin(0, 0, c), scene(), numVal(math.MaxInt), numVal(y)), 0, numVal(want))
	}
	// weak ones of what lies, and of what lay, in one slot
	a := room(thing(3, 0))
	wantInto(t, about(bin(0, 0, '='), a, weakTo(0, 3), weakTo(0, 2)), 0, numVal(0))
	wantInto(t, about(bin(0, 0, '='), a, weakTo(0, 2), weakTo(0, 2)), 0, numVal(1))
	wantInto(t, about(bin(0, 0, '='), a, refTo(0, 3), weakTo(0, 3)), 0, numVal(0))
	wantInto(t, about(bin(0, 0, '='), a, refTo(0, 3), refTo(0, 3)), 0, numVal(1))
}

func TestStepJumpZero(t *testing.T) {
	for to := range 3 {
		wantDone(t, about(ins(impl.IxJump, to, 0, 0), scene(), x0), func(v *impl.Vm, f *impl.Frame) { f.Pc = to })
		for _, x := range eachVal() {
			wantDone(t, about(ins(impl.IxZero, 1, to, 0), scene(), x0, x, numVal(0)), func(v *impl.Vm, f *impl.Frame) {
				if x == nilVal() || x == numVal(0) {
					f.Pc = to
				}
			})
		}
	}
}

func TestStepShow(t *testing.T) {
	texts := map[impl.Val]string{nilVal(): "nil", x0: "thing", y0: "thing", w0: "weak", g0: "weak", numVal(math.MinInt): "-9223372036854775808", numVal(math.MaxInt): "9223372036854775807", numVal(0): "0", numVal(-1): "-1", numVal(lastNumber): "999999", numVal(10): "10"}
	for x, s := range texts {
		for _, log := range []string{"", "7\n", "what"} {
			v := about(ins(impl.IxShow, 1, 0, 0), scene(), y0, x)
			v.Log = []byte(log)
			wantDone(t, v, func(v *impl.Vm, f *impl.Frame) { v.Log = []byte(log + s + "\n") })
		}
	}
}

// The log may have mostLog bytes; one more, and the machine is as it was.
func TestStepShowAtTheEndOfTheLog(t *testing.T) {
	for x, size := range map[impl.Val]int{nilVal(): 4, numVal(7): 2, x0: 6, g0: 5, numVal(math.MinInt): 21} {
		v := about(ins(impl.IxShow, 0, 0, 0), scene(), x, x0)
		v.Log = bytes.Repeat([]byte("!"), mostLog-size)
		if w, ok := wantStepped(t, v, 0, impl.DoNothing); !ok || len(w.Log) != mostLog || w.Frames[0].Pc != 1 {
			t.Errorf("%v shown: %s, %v", x, pictured(w), ok)
		}
		for more := 1; more <= size; more++ {
			v.Log = bytes.Repeat([]byte("!"), mostLog-size+more)
			if w, ok := wantStepped(t, v, 0, impl.DoNothing); ok || !sameVm(w, v) {
				t.Errorf("%v shown, %d too much: %s, %v", x, more, pictured(w), ok)
			}
		}
	}
}

func TestStepCall(t *testing.T) {
	c := codeOf(
		ended(0, 4, ins(impl.IxCall, 3, 1, 0), ins(impl.IxCall, 0, 2, 1), ins(impl.IxCall, 1, 3, 2), ins(impl.IxCall, 2, 3, 0), ins(impl.IxCall, 1, 0, 4), ins(impl.IxCall, 3, 1, 3)),
		ended(1, 1), ended(2, 3), ended(2, 2))
	want := []struct {
		pc, unit, to int
		regs         []impl.Val
	}{
		{0, 1, 3, vals(x0)},
		{1, 2, 0, vals(numVal(3), y0, nilVal())},
		{2, 3, 1, vals(y0, w0)},
		{3, 3, 2, vals(x0, numVal(3))},
		{4, 0, 1, make([]impl.Val, 4)},
		{5, 1, 3, vals(w0)},
	}
	for _, x := range want {
		v := balanced(impl.Vm{Code: c, Arena: scene(), Frames: []impl.Frame{frame(0, x.pc, 0, x0, numVal(3), y0, w0)}})
		wantDone(t, v, func(v *impl.Vm, f *impl.Frame) { v.Frames = append(v.Frames, frame(x.unit, 0, x.to, x.regs...)) })
	}
	for _, a := range eachVal() {
		for _, b := range eachVal() {
			v := about(ins(impl.IxCall, 1, 3, 1), scene(), x0, a, b, a)
			wantDone(t, v, func(v *impl.Vm, f *impl.Frame) {
				v.Frames = append(v.Frames, frame(3, 0, 1, a, b, a, nilVal(), nilVal()))
			})
		}
	}
}

func TestStepCallUpToMaxFrames(t *testing.T) {
	c := codeOf(ended(0, 2, ins(impl.IxCall, 1, 0, 0)), ended(1, 2, ins(impl.IxCall, 0, 1, 1)))
	for _, unit := range []int{0, 1} {
		for n := 1; n <= impl.MaxFrames; n++ {
			v := impl.Vm{Code: c, Arena: scene(), Log: []byte("7\n"), Ticks: 9}
			for i := range n {
				v.Frames = append(v.Frames, frame(unit, 0, min(i, 1), x0, y0))
			}
			v = balanced(v)
			if n == impl.MaxFrames {
				wantOver(t, v, 100, impl.DoNothing, impl.RsDeep)
				continue
			}
			wantDone(t, v, func(v *impl.Vm, f *impl.Frame) {
				v.Frames = append(v.Frames, []impl.Frame{frame(0, 0, 1, nilVal(), nilVal()), frame(1, 0, 0, y0, nilVal())}[unit])
			})
		}
	}
}

func TestStepBack(t *testing.T) {
	c := codeOf(ended(0, 3, impl.Ins{}), unit(1, 2, ins(impl.IxBack, 1, 0, 0)), unit(0, 2, ins(impl.IxBack, 0, 0, 0)))
	for _, x := range eachVal() {
		for _, had := range eachVal() {
			for to := range 3 {
				ahead := frame(0, 1, 0, x0, y0, nilVal())
				ahead.Regs[to] = had
				v := balanced(impl.Vm{Code: c, Arena: scene(), Frames: []impl.Frame{ahead, frame(1, 0, to, y0, x)}})
				want := copiedVm(v)
				for _, gone := range vals(y0, x, had) {
					if gone.Kind == impl.VlRef {
						want.Arena.Queue = append(want.Arena.Queue, gone.N)
					}
				}
				want.Frames = want.Frames[:1]
				want.Frames[0].Regs[to] = x
				wantStep(t, v, 100, impl.DoNothing, recountedVm(want))
			}
		}
		// the last: registers are dropped in order, then the value
		v := balanced(impl.Vm{Code: c, Arena: scene(), Frames: []impl.Frame{frame(2, 0, 0, x, y0)}, Log: []byte("1\n"), Ticks: 6})
		want := copiedVm(v)
		want.Frames = nil
		for _, gone := range vals(x, y0, x) {
			if gone.Kind == impl.VlRef {
				want.Arena.Queue = append(want.Arena.Queue, gone.N)
			}
		}
		wantStep(t, v, 100, impl.DoNothing, recountedVm(want))
	}
}

// With the value's own register as To of the frame ahead, and through three frames.
func TestStepBackThrough(t *testing.T) {
	c := codeOf(unit(0, 2, ins(impl.IxCall, 1, 1, 1), ins(impl.IxBack, 1, 0, 0)), unit(1, 2, ins(impl.IxCall, 0, 2, 0), ins(impl.IxBack, 0, 0, 0)), unit(1, 1, ins(impl.IxBack, 0, 0, 0)))
	v := machineWith(c, room(thing(1, 0), hole(0)), frame(0, 0, 0, nilVal(), refTo(0, 1)))
	wants := []struct{ depth, queued, count int }{{2, 0, 2}, {3, 0, 3}, {2, 2, 4}, {1, 4, 5}, {0, 6, 6}}
	for i, want := range wants {
		w, ok := wantStepped(t, v, 100, impl.DoNothing)
		if !ok || len(w.Frames) != want.depth || !slices.Equal(w.Arena.Queue, make([]int, want.queued)) || w.Arena.Slots[0].Count != want.count || w.State != impl.RsDone {
			t.Fatalf("order %d: %s, %v; want %v", i, pictured(w), ok, want)
		}
		for _, f := range w.Frames {
			if at := []int{1, 0, 0}[f.Unit]; f.Regs[at] != refTo(0, 1) {
				t.Fatalf("order %d: %s", i, pictured(w))
			}
		}
		v = w
	}
	w, ok := impl.Settle(v)
	if !ok || impl.FreeSlots(w.Arena) != 2 {
		t.Errorf("settled: %s, %v", pictured(w), ok)
	}
}

func TestStepWeakLive(t *testing.T) {
	weak := func(a, b int) impl.Ins { return ins(impl.IxWeak, a, b, 0) }
	live := func(a, b int) impl.Ins { return ins(impl.IxLive, a, b, 0) }
	for _, had := range eachVal() {
		wantInto(t, about(weak(0, 1), scene(), had, x0), 0, w0)
		wantInto(t, about(weak(2, 0), scene(), y0, x0, had), 2, weakTo(1, 1))
		wantInto(t, about(live(0, 1), scene(), had, w0), 0, x0)
		wantInto(t, about(live(2, 0), scene(), weakTo(1, 1), x0, had), 2, y0)
		for _, gone := range vals(g0, weakTo(2, 0), weakTo(3, 0), weakTo(0, 1), weakTo(0, 0), weakTo(1, 0)) {
			wantInto(t, about(live(0, 1), scene(), had, gone), 0, nilVal())
		}
	}
	wantInto(t, about(weak(1, 1), scene(), x0, y0), 1, weakTo(1, 1))
	wantInto(t, about(live(1, 1), scene(), x0, w0), 1, x0)
	wantInto(t, about(live(1, 1), scene(), x0, g0), 1, nilVal())
	// one that is only queued is alive still, and is then kept
	wantInto(t, about(live(0, 1), queued(scene(), 0), nilVal(), w0), 0, x0)
	for _, v := range ofOther(impl.VlRef) {
		wantTypeEnd(t, about(weak(0, 1), scene(), x0, v))
		wantTypeEnd(t, about(weak(1, 1), scene(), x0, v))
	}
	for _, v := range ofOther(impl.VlWeak) {
		wantTypeEnd(t, about(live(0, 1), scene(), x0, v))
		wantTypeEnd(t, about(live(1, 1), scene(), x0, v))
	}
}

// A queue of 300 stays behind an order, one of 301 is drained.
func TestStepDrainsALongQueue(t *testing.T) {
	for _, n := range []int{298, 299, 300, 301, 302, 499, 500} {
		a := queued(scene(), slices.Repeat([]int{0}, n)...)
		for _, o := range []impl.Ins{ins(impl.IxNil, 1, 0, 0), ins(impl.IxNum, 1, 9, 0), ins(impl.IxShow, 1, 0, 0), ins(impl.IxNil, 0, 0, 0), ins(impl.IxJump, 0, 0, 0), {}, ins(impl.IxNew, 1, 0, 0), named(impl.IxPut, 1, 0, 0, "a")} {
			v := about(o, a, nilVal(), refTo(0, 2))
			w, ok := wantStepped(t, v, 100, impl.DoNothing)
			drops := o.Op == impl.IxNil && o.A == 1 || o.Op == impl.IxNum || o.Op == impl.IxNew || o.Op == impl.IxPut
			left := n
			if drops {
				left++
			}
			if left > 300 {
				left = 0
			}
			if !ok || len(w.Arena.Queue) != left {
				t.Errorf("%d queued, order %v: %d are left, %v; want %d", n, o, len(w.Arena.Queue), ok, left)
			}
		}
		// all registers at once
		full := codeOf(ended(0, impl.MaxRegs))
		v := balanced(impl.Vm{Code: full, Arena: a, Frames: []impl.Frame{frame(0, 0, 0, slices.Repeat([]impl.Val{x0}, impl.MaxRegs)...)}})
		if w, ok := wantStepped(t, v, 100, impl.DoNothing); !ok || len(w.Arena.Queue) != 0 || w.Arena.Slots[0].Live {
			t.Errorf("%d queued: behind IxBack %s, %v", n, pictured(w), ok)
		}
	}
	// 275 and 25 more, 276 and 25 more
	for n, left := range map[int]int{275: 300, 276: 0} {
		v := balanced(impl.Vm{Code: codeOf(ended(0, impl.MaxRegs)), Arena: queued(scene(), slices.Repeat([]int{0}, n)...), Frames: []impl.Frame{frame(0, 0, 0, slices.Repeat([]impl.Val{x0}, impl.MaxRegs)...)}})
		if w, ok := wantStepped(t, v, 100, impl.DoNothing); !ok || len(w.Arena.Queue) != left {
			t.Errorf("%d queued: behind IxBack %s, %v", n, pictured(w), ok)
		}
	}
}

// A thing may be counted mostCount times; a register more, and the machine is as it was.
func TestStepAtTheLastCount(t *testing.T) {
	move := codeOf(ended(0, 3, ins(impl.IxMove, 1, 0, 0), ins(impl.IxMove, 2, 0, 0), ins(impl.IxMove, 2, 0, 0)))
	v := impl.Vm{Code: move, Arena: famous(mostCount - 2), Frames: []impl.Frame{frame(0, 0, 0, refTo(0, 1), nilVal(), nilVal())}}
	v.Arena.Slots[0].Count++
	w, ok := impl.VmStep(v, 0, impl.DoNothing)
	if !ok || w.Arena.Slots[0].Count != mostCount || w.Frames[0].Regs[1] != refTo(0, 1) {
		t.Fatalf("counted %d, %v", w.Arena.Slots[0].Count, ok)
	}
	x, ok := impl.VmStep(w, 0, impl.DoNothing)
	if ok || x.Arena.Slots[0].Count != mostCount || x.Frames[0].Pc != 1 || x.Frames[0].Regs[2] != nilVal() || len(x.Arena.Slots[0].Fields) != mostCount-2 {
		t.Errorf("one more: counted %d, %v", x.Arena.Slots[0].Count, ok)
	}
}

func TestStepRefused(t *testing.T) {
	v := couple()
	for _, n := range []int{math.MinInt, -2000, -2, -1, 2001, 2002, 1 << 32, math.MaxInt} {
		for do := range 3 {
			wantNoStep(t, "a fuel", v, n, do)
		}
		wantNoStep(t, "both", v, n, -1)
	}
	for _, do := range []int{math.MinInt, -256, -1, 3, 4, 256, 1 << 32, math.MaxInt} {
		for _, fuel := range []int{0, 1, 6, 2000} {
			wantNoStep(t, "a do", v, fuel, do)
		}
	}
	for _, fuel := range []int{0, 1, 5, 6, 1999, 2000} {
		for do := range 3 {
			if _, ok := wantStepped(t, v, fuel, do); !ok {
				t.Errorf("fuel %d, do %d: VmStep is false", fuel, do)
			}
		}
	}
	for state := range 5 {
		for do := range 3 {
			over := impl.Vm{Code: sample(), Arena: slots(2, hole(0)), State: state}
			wantNoStep(t, "no frames", over, 100, do)
		}
	}
	wantNoStep(t, "the zero value", impl.Vm{}, 100, impl.DoNothing)
	// each way of not being VmOk
	for what, change := range map[string]func(v *impl.Vm){
		"a count":       func(v *impl.Vm) { v.Arena.Slots[0].Count++ },
		"a Pc":          func(v *impl.Vm) { v.Frames[1].Pc = 4 },
		"a state":       func(v *impl.Vm) { v.State = impl.RsType },
		"a register":    func(v *impl.Vm) { v.Frames[1].Regs[0] = weakTo(2, 4) },
		"ticks":         func(v *impl.Vm) { v.Ticks = 2001 },
		"an order":      func(v *impl.Vm) { v.Code.Units[0].L[0].A = 3 },
		"a queue":       func(v *impl.Vm) { v.Arena.Queue[0] = 4 },
		"To":            func(v *impl.Vm) { v.Frames[1].To = 3 },
		"a log":         func(v *impl.Vm) { v.Log = make([]byte, mostLog+1) },
		"one frame too": func(v *impl.Vm) { v.Frames = slices.Repeat(v.Frames[:1], 14) },
	} {
		wantNoVm(t, what, changedVm(v, change))
	}
}

// eachOrder has all registers of a unit of three, alike and not, and places and units of all.
func eachOrder() []impl.Ins {
	l := []impl.Ins{{}, ins(impl.IxJump, 0, 0, 0), ins(impl.IxJump, 2, 0, 0)}
	for a := range 3 {
		l = append(l, ins(impl.IxNum, a, a, 0), ins(impl.IxNil, a, 0, 0), ins(impl.IxNew, a, 0, 0), ins(impl.IxBack, a, 0, 0), ins(impl.IxShow, a, 0, 0), ins(impl.IxZero, a, 2, 0))
		for b := range 3 {
			l = append(l, ins(impl.IxMove, a, b, 0), named(impl.IxGet, a, b, 0, "a"), named(impl.IxPut, a, b, 0, "a"), named(impl.IxPut, a, b, 0, "z"), ins(impl.IxWeak, a, b, 0), ins(impl.IxLive, a, b, 0))
			for _, c := range []byte("+<=") {
				if a < 2 {
					l = append(l, ins(impl.IxBin, a, b, int(c)))
				}
			}
			for unit := range 4 {
				if b+unit <= 3 {
					l = append(l, ins(impl.IxCall, a, unit, b))
				}
			}
		}
	}
	return l
}

// Each order, with each kind of value in each of three registers, in a room with a free slot and in one with none.
func TestEachOrderWithEachValue(t *testing.T) {
	kinds := vals(nilVal(), numVal(0), numVal(7), x0, y0, w0, g0)
	full := room(thing(2, 0, field("a", y0)), thing(1, 0, field("a", x0)), thing(4, 0, field("a", refTo(2, 4))), thing(1, 0))
	for i, o := range eachOrder() {
		for n := range len(kinds) * len(kinds) * len(kinds) {
			regs := vals(kinds[n%7], kinds[n/7%7], kinds[n/49])
			a := scene()
			if o.Op == impl.IxNew || (n+i)%5 == 0 {
				a = purple(full, 2, 0)
			}
			wantStepped(t, about(o, a, regs...), 100, n%3)
		}
	}
}
