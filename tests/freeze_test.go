package tests

// Chapter 8, what is written: arenas and machines as bytes, byte by byte, and as texts.

import (
	"bytes"
	"encoding/binary"
	"fmt"
	"math"
	"slices"
	"testing"

	"loop.example/g00547/impl"
)

// The plain writer asks for nothing, so that what may not be can be written, too.

// longs are eight bytes for each number.
func longs(l ...int) []byte {
	var b []byte
	for _, n := range l {
		b = binary.BigEndian.AppendUint64(b, uint64(n))
	}
	return b
}

func plainValBytes(v impl.Val) []byte {
	return append([]byte{byte(v.Kind)}, longs(v.N, v.Gen)...)
}

func plainArenaBytes(a impl.Arena) []byte {
	b := longs(len(a.Slots))
	for _, s := range a.Slots {
		b = append(b, map[bool]byte{true: 1}[s.Live])
		b = append(b, longs(s.Gen, s.Count, len(s.Fields))...)
		for _, f := range s.Fields {
			b = append(b, byte(len(f.Name)))
			b = append(b, f.Name...)
			b = append(b, plainValBytes(f.V)...)
		}
	}
	b = append(b, longs(append([]int{len(a.Queue)}, a.Queue...)...)...)
	return append(b, longs(append([]int{len(a.Purple)}, a.Purple...)...)...)
}

// plainVmBytesOf has these bytes where the code's would be.
func plainVmBytesOf(code []byte, v impl.Vm) []byte {
	b := append(longs(len(code)), code...)
	b = append(b, plainArenaBytes(v.Arena)...)
	b = append(b, longs(len(v.Frames))...)
	for _, f := range v.Frames {
		b = append(b, longs(f.Unit, f.Pc, f.To, len(f.Regs))...)
		for _, x := range f.Regs {
			b = append(b, plainValBytes(x)...)
		}
	}
	b = append(b, longs(len(v.Log))...)
	b = append(b, v.Log...)
	return append(b, longs(v.Ticks, v.State)...)
}

func plainVmBytes(v impl.Vm) []byte { return plainVmBytesOf(plainBytes(v.Code), v) }

func plainVmText(v impl.Vm) string {
	s := fmt.Sprintf("ticks %d state %d\n", v.Ticks, v.State)
	for _, f := range v.Frames {
		s += fmt.Sprintf("unit %d at %d", f.Unit, f.Pc)
		for _, x := range f.Regs {
			s += " " + []string{"nil", fmt.Sprint(x.N), "thing", "weak"}[x.Kind]
		}
		s += "\n"
	}
	return s + string(impl.ArenaText(v.Arena))
}

// wantArenaBack is promise 15 of an arena that is ArenaOk.
func wantArenaBack(t *testing.T, what string, a impl.Arena) []byte {
	t.Helper()
	b, ok := impl.ArenaBytes(a)
	if want := plainArenaBytes(a); !ok || !bytes.Equal(b, want) {
		t.Fatalf("%s: %v is %v, %v; want %v", what, a, b, ok, want)
	}
	if c, ok := impl.ArenaRead(b); !ok || !sameArena(c, a) {
		t.Fatalf("%s: %v comes back as %v, %v", what, a, c, ok)
	}
	return b
}

// wantNoArenaBytes: it is not ArenaOk, and what its bytes would be is not read as one that is.
func wantNoArenaBytes(t *testing.T, what string, a impl.Arena) {
	t.Helper()
	if b, ok := impl.ArenaBytes(a); ok || len(b) > 0 {
		t.Fatalf("%s: ArenaBytes of %v is %v, %v", what, a, b, ok)
	}
	wantArenaRead(t, plainArenaBytes(a))
}

// wantVmBack is promise 15 of a machine that is VmOk.
func wantVmBack(t *testing.T, what string, v impl.Vm) []byte {
	t.Helper()
	b, ok := impl.VmBytes(v)
	if want := plainVmBytes(v); !ok || !bytes.Equal(b, want) {
		t.Fatalf("%s: %s is %v, %v; want %v", what, pictured(v), b, ok, want)
	}
	if w, ok := impl.VmRead(b); !ok || !sameVm(w, v) {
		t.Fatalf("%s: %s comes back as %s, %v", what, pictured(v), pictured(w), ok)
	}
	if s, want := string(impl.VmText(v)), plainVmText(v); s != want {
		t.Fatalf("%s: the text of %s is %q; want %q", what, pictured(v), s, want)
	}
	return b
}

func wantNoVmBytes(t *testing.T, what string, v impl.Vm) {
	t.Helper()
	if b, ok := impl.VmBytes(v); ok || len(b) > 0 {
		t.Fatalf("%s: VmBytes of %s is %v, %v", what, pictured(v), b, ok)
	}
	if s := impl.VmText(v); len(s) > 0 {
		t.Fatalf("%s: VmText of %s is %q", what, pictured(v), s)
	}
	wantVmRead(t, plainVmBytes(v))
}

func wantArenaBytes(t *testing.T, a impl.Arena, want []byte) {
	t.Helper()
	if b, ok := impl.ArenaBytes(a); !ok || !bytes.Equal(b, want) {
		t.Errorf("%v is\n%v, %v; want\n%v", a, b, ok, want)
	}
	if b, ok := impl.ArenaRead(want); !ok || !sameArena(a, b) {
		t.Errorf("of %v comes %v, %v", a, b, ok)
	}
}

func TestArenaBytes(t *testing.T) {
	wantArenaBytes(t, room(hole(0)), []byte{
		0, 0, 0, 0, 0, 0, 0, 1, // slots
		0,                      // empty
		0, 0, 0, 0, 0, 0, 0, 0, // Gen
		0, 0, 0, 0, 0, 0, 0, 0, // Count
		0, 0, 0, 0, 0, 0, 0, 0, // fields
		0, 0, 0, 0, 0, 0, 0, 0, // Queue
		0, 0, 0, 0, 0, 0, 0, 0, // Purple
	})
	a := room(thing(3, 256, field("a", refTo(1, 1000000)), field("abcdef", numVal(-2)), field("nil", nilVal()), field("z", weakTo(2, 257))), thing(1000000, 1), hole(258))
	wantArenaBytes(t, purple(queued(a, 1, 0, 1), 1), []byte{
		0, 0, 0, 0, 0, 0, 0, 3, // slots
		1,                      // live
		0, 0, 0, 0, 0, 0, 0, 3, // Gen
		0, 0, 0, 0, 0, 0, 1, 0, // Count
		0, 0, 0, 0, 0, 0, 0, 4, // fields
		1, 'a', 2, 0, 0, 0, 0, 0, 0, 0, 1, 0, 0, 0, 0, 0, 15, 66, 64,
		6, 'a', 'b', 'c', 'd', 'e', 'f', 1, 255, 255, 255, 255, 255, 255, 255, 254, 0, 0, 0, 0, 0, 0, 0, 0,
		3, 'n', 'i', 'l', 0, 0, 0, 0, 0, 0, 0, 0, 0, 0, 0, 0, 0, 0, 0, 0, 0,
		1, 'z', 3, 0, 0, 0, 0, 0, 0, 0, 2, 0, 0, 0, 0, 0, 0, 1, 1,
		1,                         // live
		0, 0, 0, 0, 0, 15, 66, 64, // Gen
		0, 0, 0, 0, 0, 0, 0, 1, // Count
		0, 0, 0, 0, 0, 0, 0, 0, // fields
		0,                      // empty
		0, 0, 0, 0, 0, 0, 1, 2, // Gen
		0, 0, 0, 0, 0, 0, 0, 0, // Count
		0, 0, 0, 0, 0, 0, 0, 0, // fields
		0, 0, 0, 0, 0, 0, 0, 3, // Queue
		0, 0, 0, 0, 0, 0, 0, 1,
		0, 0, 0, 0, 0, 0, 0, 0,
		0, 0, 0, 0, 0, 0, 0, 1,
		0, 0, 0, 0, 0, 0, 0, 1, // Purple
		0, 0, 0, 0, 0, 0, 0, 1,
	})
}

// A number is eight bytes, whatever it is.
func TestBytesOfNumbers(t *testing.T) {
	for n, want := range map[int][]byte{
		0:                 {0, 0, 0, 0, 0, 0, 0, 0},
		1:                 {0, 0, 0, 0, 0, 0, 0, 1},
		127:               {0, 0, 0, 0, 0, 0, 0, 127},
		128:               {0, 0, 0, 0, 0, 0, 0, 128},
		255:               {0, 0, 0, 0, 0, 0, 0, 255},
		256:               {0, 0, 0, 0, 0, 0, 1, 0},
		65535:             {0, 0, 0, 0, 0, 0, 255, 255},
		1 << 32:           {0, 0, 0, 1, 0, 0, 0, 0},
		72623859790382856: {1, 2, 3, 4, 5, 6, 7, 8},
		-1:                {255, 255, 255, 255, 255, 255, 255, 255},
		-2:                {255, 255, 255, 255, 255, 255, 255, 254},
		-255:              {255, 255, 255, 255, 255, 255, 255, 1},
		-256:              {255, 255, 255, 255, 255, 255, 255, 0},
		-257:              {255, 255, 255, 255, 255, 255, 254, 255},
		math.MaxInt:       {127, 255, 255, 255, 255, 255, 255, 255},
		math.MinInt:       {128, 0, 0, 0, 0, 0, 0, 0},
		math.MinInt + 1:   {128, 0, 0, 0, 0, 0, 0, 1},
	} {
		a := room(thing(1, 1, field("n", numVal(n))))
		b := wantArenaBack(t, fmt.Sprint("a field with ", n), a)
		if at := 8 + 25 + 3; !bytes.Equal(b[at:at+8], want) {
			t.Errorf("%d is %v; want %v", n, b[at:at+8], want)
		}
		v := machineWith(codeOf(ended(0, 1)), slots(1, hole(0)), frame(0, 0, 0, numVal(n)))
		b = wantVmBack(t, fmt.Sprint("a register with ", n), v)
		if at := len(b) - 8 - 16 - 16; !bytes.Equal(b[at:at+8], want) {
			t.Errorf("%d in a register is %v; want %v", n, b[at:at+8], want)
		}
	}
}

func wantVmBytes(t *testing.T, v impl.Vm, want []byte) {
	t.Helper()
	if b, ok := impl.VmBytes(v); !ok || !bytes.Equal(b, want) {
		t.Errorf("%s is\n%v, %v; want\n%v", pictured(v), b, ok, want)
	}
	if w, ok := impl.VmRead(want); !ok || !sameVm(v, w) {
		t.Errorf("of %s comes %s, %v", pictured(v), pictured(w), ok)
	}
}

func TestVmBytes(t *testing.T) {
	c := codeOf(ended(0, 1))
	code := []byte{
		0, 0, 0, 0, 0, 0, 0, 17, // CodeBytes
		1, 0, 1, 0, 0, 1, 11, 0, 0, 0, 0, 0, 0, 0, 0, 0, 0,
	}
	empty := []byte{
		0, 0, 0, 0, 0, 0, 0, 1, // slots
		0, 0, 0, 0, 0, 0, 0, 0, 9, 0, 0, 0, 0, 0, 0, 0, 0, 0, 0, 0, 0, 0, 0, 0, 0,
		0, 0, 0, 0, 0, 0, 0, 0, // Queue
		0, 0, 0, 0, 0, 0, 0, 0, // Purple
	}
	v := impl.Vm{Code: c, Arena: room(hole(9)), Ticks: 2000, State: impl.RsFull}
	wantVmBytes(t, v, slices.Concat(code, empty, []byte{
		0, 0, 0, 0, 0, 0, 0, 0, // frames
		0, 0, 0, 0, 0, 0, 0, 0, // Log
		0, 0, 0, 0, 0, 0, 7, 208, // Ticks
		0, 0, 0, 0, 0, 0, 0, 4, // State
	}))
	v.State, v.Ticks, v.Log = impl.RsType, 1, []byte("7\n\xff\x00")
	wantVmBytes(t, v, slices.Concat(code, empty, []byte{
		0, 0, 0, 0, 0, 0, 0, 0,
		0, 0, 0, 0, 0, 0, 0, 4, '7', 10, 255, 0,
		0, 0, 0, 0, 0, 0, 0, 1,
		0, 0, 0, 0, 0, 0, 0, 1,
	}))
	v = machineWith(c, room(hole(9)), frame(0, 0, 0, weakTo(0, 8)))
	wantVmBytes(t, v, slices.Concat(code, empty, []byte{
		0, 0, 0, 0, 0, 0, 0, 1, // frames
		0, 0, 0, 0, 0, 0, 0, 0, // Unit
		0, 0, 0, 0, 0, 0, 0, 0, // Pc
		0, 0, 0, 0, 0, 0, 0, 0, // To
		0, 0, 0, 0, 0, 0, 0, 1, // registers
		3, 0, 0, 0, 0, 0, 0, 0, 0, 0, 0, 0, 0, 0, 0, 0, 8,
		0, 0, 0, 0, 0, 0, 0, 0, // Log
		0, 0, 0, 0, 0, 0, 0, 0, // Ticks
		0, 0, 0, 0, 0, 0, 0, 0, // State
	}))
}

func TestVmBytesOfTwoFrames(t *testing.T) {
	v := machineWith(codeOf(ended(0, 2, impl.Ins{}), unit(1, 3, ins(impl.IxBack, 2, 0, 0))), room(thing(5, 0)), frame(0, 1, 0, nilVal(), refTo(0, 5)), frame(1, 0, 1, numVal(-1), refTo(0, 5), weakTo(0, 4)))
	v.Log, v.Ticks = []byte("nil\n"), 258
	wantVmBytes(t, v, []byte{
		0, 0, 0, 0, 0, 0, 0, 44, // CodeBytes
		2,
		0, 2, 0, 0, 2, 0, 0, 0, 0, 0, 0, 0, 0, 0, 0, 0, 11, 0, 0, 0, 0, 0, 0, 0, 0, 0, 0,
		1, 3, 0, 0, 1, 11, 0, 0, 2, 0, 0, 0, 0, 0, 0, 0,
		0, 0, 0, 0, 0, 0, 0, 1, // slots
		1, 0, 0, 0, 0, 0, 0, 0, 5, 0, 0, 0, 0, 0, 0, 0, 2, 0, 0, 0, 0, 0, 0, 0, 0,
		0, 0, 0, 0, 0, 0, 0, 0, // Queue
		0, 0, 0, 0, 0, 0, 0, 0, // Purple
		0, 0, 0, 0, 0, 0, 0, 2, // frames
		0, 0, 0, 0, 0, 0, 0, 0, // Unit
		0, 0, 0, 0, 0, 0, 0, 1, // Pc
		0, 0, 0, 0, 0, 0, 0, 0, // To
		0, 0, 0, 0, 0, 0, 0, 2, // registers
		0, 0, 0, 0, 0, 0, 0, 0, 0, 0, 0, 0, 0, 0, 0, 0, 0,
		2, 0, 0, 0, 0, 0, 0, 0, 0, 0, 0, 0, 0, 0, 0, 0, 5,
		0, 0, 0, 0, 0, 0, 0, 1, // Unit
		0, 0, 0, 0, 0, 0, 0, 0, // Pc
		0, 0, 0, 0, 0, 0, 0, 1, // To
		0, 0, 0, 0, 0, 0, 0, 3, // registers
		1, 255, 255, 255, 255, 255, 255, 255, 255, 0, 0, 0, 0, 0, 0, 0, 0,
		2, 0, 0, 0, 0, 0, 0, 0, 0, 0, 0, 0, 0, 0, 0, 0, 5,
		3, 0, 0, 0, 0, 0, 0, 0, 0, 0, 0, 0, 0, 0, 0, 0, 4,
		0, 0, 0, 0, 0, 0, 0, 4, 'n', 'i', 'l', 10, // Log
		0, 0, 0, 0, 0, 0, 1, 2, // Ticks
		0, 0, 0, 0, 0, 0, 0, 0, // State
	})
}

func TestArenaBytesAtTheBounds(t *testing.T) {
	all := []int{15, 0, 14, 1, 13, 2, 12, 3, 11, 4, 10, 5, 9, 6, 8, 7}
	for n := 1; n <= impl.MaxCap; n++ {
		b := wantArenaBack(t, fmt.Sprint(n, " empty slots"), slots(n, hole(mostCount)))
		if len(b) != 24+25*n {
			t.Errorf("%d empty slots are %d bytes", n, len(b))
		}
		wantArenaBack(t, fmt.Sprint(n, " things"), slots(n, thing(mostCount, mostCount)))
		some := slices.DeleteFunc(slices.Clone(all), func(i int) bool { return i >= n })
		wantArenaBack(t, fmt.Sprint(n, " things, all purple"), purple(slots(n, thing(1, 1)), some...))
	}
	full := queued(purple(slots(impl.MaxCap, thing(1, 1)), all...), slices.Repeat([]int{3, 15, 0, 7}, mostQueue/4)...)
	if b := wantArenaBack(t, "all that may be", full); len(b) != 24+25*16+8*500+8*16 {
		t.Errorf("all that may be is %d bytes", len(b))
	}
	wantArenaBack(t, "fields of each value", room(thing(1, 1, fieldsOf("a b c d e f")...), hole(4)))
	for i, v := range rightVals() {
		a := home()
		a.Slots[2*(i%3)].Fields = []impl.Field{field("abc", v), field("while", v), field("z", nilVal())}
		wantArenaBack(t, fmt.Sprint("fields with ", v), a)
	}
	var many []impl.Field
	for i := range 26 * 26 * 26 {
		many = append(many, field(string([]byte{byte('a' + i/676), byte('a' + i/26%26), byte('a' + i%26)}), numVal(-i)))
	}
	wantArenaBack(t, "a lot of fields", room(hole(1), thing(1, 1, many...)))
	for what, a := range map[string]impl.Arena{
		"the zero value":          {},
		"lists of none":           {Slots: []impl.Slot{}, Queue: []int{}, Purple: []int{}},
		"17 slots":                slots(17, hole(0)),
		"501 in Queue":            queued(slots(1, thing(1, 1)), make([]int, 501)...),
		"17 in Purple":            purple(slots(16, thing(1, 1)), append(slices.Clone(all), 0)...),
		"a Gen":                   room(hole(mostCount + 1)),
		"a Count":                 room(thing(1, mostCount+1)),
		"a Kind":                  room(thing(1, 1, field("a", impl.Val{Kind: 4}))),
		"a Kind of 256":           room(thing(1, 1, field("a", impl.Val{Kind: 256}))),
		"a name":                  room(thing(1, 1, field("abcdefg", nilVal()))),
		"a name of 256":           room(thing(1, 1, field(string(make([]byte, 256)), nilVal()))),
		"names that don't ascend": room(thing(1, 1, fieldsOf("b a")...)),
	} {
		wantNoArenaBytes(t, what, a)
	}
}

func TestVmBytesAtTheBounds(t *testing.T) {
	wide := ended(0, impl.MaxRegs, ticks(impl.MaxCode-1)...)
	full := frame(0, impl.MaxCode-1, 0, slices.Repeat([]impl.Val{refTo(0, 1)}, impl.MaxRegs)...)
	v := machineWith(codeOf(wide, wide, wide, wide), slots(impl.MaxCap, hole(mostCount)))
	v.Arena.Slots[0] = thing(1, 1)
	for n := range impl.MaxFrames + 1 {
		v.Frames = nil
		for i := range n {
			f := full
			f.Unit, f.To = i%4, min(i, 1)*(impl.MaxRegs-1)
			v.Frames = append(v.Frames, f)
		}
		v.Arena.Queue = make([]int, mostQueue)
		v.Arena.Purple = []int{0}
		w := recountedVm(v)
		for _, size := range []int{0, 1, mostLog - 1, mostLog} {
			w.Log = bytes.Repeat([]byte{255}, size)
			code, arena := 1+4*(5+11*300), 24+25*16+8*500+8
			if b := wantVmBack(t, fmt.Sprint(n, " frames"), w); len(b) != 8+code+arena+8+n*(32+24*17)+8+size+16 {
				t.Errorf("%d frames and a log of %d are %d bytes", n, size, len(b))
			}
		}
	}
	for what, change := range map[string]func(v *impl.Vm){
		"14 frames":         func(v *impl.Vm) { v.Frames = slices.Repeat(v.Frames[:1], 14) },
		"a log of 100001":   func(v *impl.Vm) { v.Log = make([]byte, mostLog+1) },
		"2001 ticks":        func(v *impl.Vm) { v.Ticks = 2001 },
		"a state":           func(v *impl.Vm) { v.State = impl.RsType },
		"no state there is": func(v *impl.Vm) { v.Frames, v.State = nil, impl.RsForm },
		"a code":            func(v *impl.Vm) { v.Code.Units[0].Params = 1 },
		"no code":           func(v *impl.Vm) { v.Code = impl.Code{} },
		"no arena":          func(v *impl.Vm) { v.Arena = impl.Arena{} },
		"a count":           func(v *impl.Vm) { v.Arena.Slots[0].Count++ },
		"a register lacks":  func(v *impl.Vm) { v.Frames[0].Regs = v.Frames[0].Regs[1:] },
		"a Unit":            func(v *impl.Vm) { v.Frames[1].Unit = 2 },
		"a Pc":              func(v *impl.Vm) { v.Frames[1].Pc = -1 },
		"a To":              func(v *impl.Vm) { v.Frames[0].To = 1 },
		"all is zero":       func(v *impl.Vm) { *v = impl.Vm{} },
	} {
		wantNoVmBytes(t, what, changedVm(couple(), change))
	}
}

func TestVmText(t *testing.T) {
	text := func(v impl.Vm, want string) {
		t.Helper()
		if s := string(impl.VmText(v)); s != want {
			t.Errorf("the text of %s is %q; want %q", pictured(v), s, want)
		}
	}
	text(couple(), "ticks 5 state 0\nunit 0 at 1 thing -7 nil\nunit 1 at 2 weak thing\n0 live 4 a>1 b\n1 live 3 c>0\n2 empty\n3 live 1 d>3\n")
	v, _ := impl.VmNew(sample(), 1)
	text(v, "ticks 0 state 0\nunit 0 at 0 nil nil nil nil nil nil nil nil nil nil nil nil nil nil nil nil nil nil nil nil nil nil nil nil\n0 empty\n")
	for state := impl.RsDone; state <= impl.RsFull; state++ {
		v := impl.Vm{Code: sample(), Arena: queued(slots(2, thing(1, 1)), 0, 1), Ticks: 2000 - state, State: state, Log: []byte("7\n")}
		text(v, fmt.Sprintf("ticks %d state %d\n0 live 1\n1 live 1\n", 2000-state, state))
	}
	c := codeOf(ended(0, 1))
	for x, s := range map[impl.Val]string{nilVal(): "nil", numVal(0): "0", numVal(-1): "-1", numVal(10): "10", numVal(math.MinInt): "-9223372036854775808", numVal(math.MaxInt): "9223372036854775807", weakTo(0, 3): "weak", weakTo(0, 4): "weak"} {
		text(machineWith(c, room(hole(4)), frame(0, 0, 0, x)), "ticks 0 state 0\nunit 0 at 0 "+s+"\n0 empty\n")
	}
	text(machineWith(c, room(thing(4, 0)), frame(0, 0, 0, refTo(0, 4)), frame(0, 0, 0, weakTo(0, 4)), frame(0, 0, 0, refTo(0, 4))), "ticks 0 state 0\nunit 0 at 0 thing\nunit 0 at 0 weak\nunit 0 at 0 thing\n0 live 2\n")
	v = couple()
	for what, change := range map[string]func(v *impl.Vm){
		"ticks":   func(v *impl.Vm) { v.Ticks = -1 },
		"a state": func(v *impl.Vm) { v.State = impl.RsFuel },
		"a count": func(v *impl.Vm) { v.Arena.Slots[1].Count-- },
	} {
		if s := impl.VmText(changedVm(v, change)); len(s) > 0 {
			t.Errorf("%s: the text is %q", what, s)
		}
	}
}
