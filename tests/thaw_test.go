package tests

// Promise 15: what comes back from bytes, which bytes are just an arena's or a machine's, and how who came back goes on.

import (
	"bytes"
	"encoding/binary"
	"fmt"
	"math"
	"math/rand"
	"runtime"
	"slices"
	"testing"

	"loop.example/g00547/impl"
)

// The plain reader goes by places in the bytes; it gives up where there are too few, or where one can't stand there.
type plainThawer struct {
	b  []byte
	at int
}

type givenUp struct{}

func (k *plainThawer) take(n int) []byte {
	if n < 0 || n > len(k.b)-k.at {
		panic(givenUp{})
	}
	k.at += n
	return bytes.Clone(k.b[k.at-n : k.at])
}

func (k *plainThawer) one() int { return int(k.take(1)[0]) }

func (k *plainThawer) long() int { return int(binary.BigEndian.Uint64(k.take(8))) }

func (k *plainThawer) times(do func()) {
	n := k.long()
	if n < 0 {
		panic(givenUp{})
	}
	for range n {
		do()
	}
}

func (k *plainThawer) longs() []int {
	var l []int
	k.times(func() { l = append(l, k.long()) })
	return l
}

func (k *plainThawer) value() impl.Val {
	kind, n := k.one(), k.long()
	return impl.Val{Kind: kind, N: n, Gen: k.long()}
}

func (k *plainThawer) arena() impl.Arena {
	var a impl.Arena
	k.times(func() {
		live := k.one()
		if live > 1 {
			panic(givenUp{})
		}
		s := impl.Slot{Live: live == 1}
		s.Gen = k.long()
		s.Count = k.long()
		k.times(func() {
			name := k.take(k.one())
			s.Fields = append(s.Fields, impl.Field{Name: name, V: k.value()})
		})
		a.Slots = append(a.Slots, s)
	})
	a.Queue = k.longs()
	a.Purple = k.longs()
	return a
}

func (k *plainThawer) vm() impl.Vm {
	c, ok := plainRead(k.take(k.long()))
	if !ok {
		panic(givenUp{})
	}
	v := impl.Vm{Code: c, Arena: k.arena()}
	k.times(func() {
		l := []int{k.long(), k.long(), k.long()}
		f := frame(l[0], l[1], l[2])
		k.times(func() { f.Regs = append(f.Regs, k.value()) })
		v.Frames = append(v.Frames, f)
	})
	v.Log = k.take(k.long())
	v.Ticks = k.long()
	v.State = k.long()
	return v
}

func plainThawed[T any](b []byte, read func(*plainThawer) T, may func(T) bool) (x T, ok bool) {
	defer func() {
		if r := recover(); r != nil {
			if r != (givenUp{}) {
				panic(r)
			}
			ok = false
		}
	}()
	k := plainThawer{b: b}
	x = read(&k)
	return x, k.at == len(b) && may(x)
}

// wantArenaRead: it is read just where there is an arena whose bytes these are.
func wantArenaRead(t *testing.T, b []byte) bool {
	t.Helper()
	a, ok := impl.ArenaRead(b)
	want, fine := plainThawed(b, (*plainThawer).arena, plainArenaOk)
	if ok != fine {
		t.Fatalf("%v: ArenaRead is %v", b, ok)
	}
	if !ok {
		if !isZero(a) {
			t.Fatalf("%v: false, and %v", b, a)
		}
		return false
	}
	again, is := impl.ArenaBytes(a)
	if !sameArena(a, want) || !impl.ArenaOk(a) || !is || !bytes.Equal(again, b) {
		t.Fatalf("%v: from it comes %v, whose bytes are %v, %v", b, a, again, is)
	}
	return true
}

// wantVmRead: it is read just where there is a machine whose bytes these are.
func wantVmRead(t *testing.T, b []byte) bool {
	t.Helper()
	v, ok := impl.VmRead(b)
	want, fine := plainThawed(b, (*plainThawer).vm, plainVmOk)
	if ok != fine {
		t.Fatalf("%v: VmRead is %v", b, ok)
	}
	if !ok {
		if !isZeroVm(v) {
			t.Fatalf("%v: false, and %s", b, pictured(v))
		}
		return false
	}
	again, is := impl.VmBytes(v)
	if !sameVm(v, want) || !impl.VmOk(v) || !is || !bytes.Equal(again, b) {
		t.Fatalf("%v: from it comes %s, whose bytes are %v, %v", b, pictured(v), again, is)
	}
	return true
}

func wantNoArenaRead(t *testing.T, what string, b []byte) {
	t.Helper()
	if a, ok := impl.ArenaRead(b); ok || !isZero(a) {
		t.Errorf("%s: %v is read as %v, %v", what, b, a, ok)
	}
}

func wantNoVmRead(t *testing.T, what string, b []byte) {
	t.Helper()
	if v, ok := impl.VmRead(b); ok || !isZeroVm(v) {
		t.Errorf("%s: %v is read as %s, %v", what, b, pictured(v), ok)
	}
}

// cottage has each kind of value in fields, an empty slot, and who is queued and purple.
func cottage() impl.Arena {
	a := room(thing(2, 3, field("a", refTo(2, 5)), field("b", numVal(-7)), field("if", nilVal()), field("z", weakTo(1, 3))), hole(4), thing(5, 2))
	return queued(purple(a, 2, 0), 0, 2, 0)
}

// Where there are too few bytes, wherever they are cut, too many, or some else.
func TestBytesThatAreCut(t *testing.T) {
	arena, vm := plainArenaBytes(cottage()), plainVmBytes(couple())
	if !wantArenaRead(t, arena) || !wantVmRead(t, vm) {
		t.Fatal("the whole is not read")
	}
	for _, x := range []struct {
		whole []byte
		none  func(t *testing.T, what string, b []byte)
	}{{arena, wantNoArenaRead}, {vm, wantNoVmRead}} {
		x.none(t, "nothing", nil)
		x.none(t, "nothing", []byte{})
		for n := range x.whole {
			x.none(t, fmt.Sprint("the first ", n), x.whole[:n])
			x.none(t, fmt.Sprint("all but the first ", n+1), x.whole[n+1:])
		}
		for _, more := range [][]byte{{0}, {1}, {255}, longs(0), longs(1), x.whole} {
			x.none(t, "more behind", slices.Concat(x.whole, more))
			x.none(t, "more ahead", slices.Concat(more, x.whole))
		}
		for _, n := range []int{1, 7, 8, 16, 24, 33, 41, 100, 10000} {
			for _, c := range []byte{0, 1, 'a', 255} {
				x.none(t, fmt.Sprint(n, " of ", c), bytes.Repeat([]byte{c}, n))
			}
		}
	}
	wantNoArenaRead(t, "a machine", vm)
	wantNoVmRead(t, "an arena", arena)
	code, _ := impl.CodeBytes(couple().Code)
	wantNoArenaRead(t, "a code", code)
	wantNoVmRead(t, "a code", code)
}

// replaced has other bytes from a place on.
func replaced(b []byte, at int, with []byte) []byte {
	return slices.Concat(b[:at], with, b[at+len(with):])
}

// wrongCounts are none that a list of n with so many bytes behind can have.
func wrongCounts(n, behind int) []int {
	return []int{-1, -n, math.MinInt, math.MinInt + n, math.MaxInt, math.MaxInt - 7, 1 << 32, 1<<32 + n, 1 << 61, 1<<61 + n, n - 1, n + 1, n + 256, behind, behind + 1, 600, 1000000}
}

func TestReadOfWrongCounts(t *testing.T) {
	a := cottage()
	b := plainArenaBytes(a)
	v := couple()
	vm := plainVmBytes(v)
	code, frames := 8+len(plainBytes(v.Code)), 8+len(plainBytes(v.Code))+len(plainArenaBytes(v.Arena))
	for what, x := range map[string]struct {
		b    []byte
		at   int
		n    int
		none func(t *testing.T, what string, b []byte)
	}{
		"slots":                   {b, 0, 3, wantNoArenaRead},
		"fields":                  {b, 25, 4, wantNoArenaRead},
		"Queue":                   {b, len(b) - 24 - 32, 3, wantNoArenaRead},
		"Purple":                  {b, len(b) - 24, 2, wantNoArenaRead},
		"bytes of CodeBytes":      {vm, 0, code - 8, wantNoVmRead},
		"slots of a machine":      {vm, code, 4, wantNoVmRead},
		"fields of a machine":     {vm, code + 25, 2, wantNoVmRead},
		"frames":                  {vm, frames, 2, wantNoVmRead},
		"registers of the first":  {vm, frames + 8 + 24, 3, wantNoVmRead},
		"registers of the second": {vm, frames + 8 + 32 + 3*17 + 24, 2, wantNoVmRead},
		"bytes of Log":            {vm, len(vm) - 16 - 2 - 8, 2, wantNoVmRead},
	} {
		if got := int(binary.BigEndian.Uint64(x.b[x.at:])); got != x.n {
			t.Fatalf("%s: %d stands there; want %d", what, got, x.n)
		}
		for _, n := range wrongCounts(x.n, len(x.b)-x.at-8) {
			if n != x.n {
				x.none(t, fmt.Sprint(what, ", told as ", n), replaced(x.b, x.at, longs(n)))
			}
		}
	}
	// a name's is a byte
	at := 8 + 25
	for n := range 256 {
		if got := wantArenaRead(t, replaced(b, at, []byte{byte(n)})); got != (n == 1) {
			t.Errorf("a name of 1, told as %d, is read: %v", n, got)
		}
	}
}

// allocated is how many bytes are asked for by the way.
func allocated(do func()) uint64 {
	var before, behind runtime.MemStats
	runtime.ReadMemStats(&before)
	do()
	runtime.ReadMemStats(&behind)
	return behind.TotalAlloc - before.TotalAlloc
}

// Whatever number stands wherever: it is read as it should be, and takes no more memory than the bytes are worth.
func TestReadOfNumbersAtEachPlace(t *testing.T) {
	arena, vm := plainArenaBytes(cottage()), plainVmBytes(couple())
	numbers := []int{-1, 0, 1, 2, 3, 500, 501, mostCount, mostCount + 1, 1 << 24, 1 << 40, 1 << 60, math.MinInt, math.MaxInt}
	wantCheap := func(b []byte, read func(b []byte)) {
		t.Helper()
		if n := allocated(func() { read(b) }); n > uint64(100000+200*len(b)) {
			t.Fatalf("%v: %d bytes are asked for", b, n)
		}
	}
	for _, n := range numbers {
		for at := 0; at+8 <= len(arena); at++ {
			b := replaced(arena, at, longs(n))
			wantArenaRead(t, b)
			wantCheap(b, func(b []byte) { impl.ArenaRead(b) })
		}
		for at := 0; at+8 <= len(vm); at++ {
			b := replaced(vm, at, longs(n))
			wantVmRead(t, b)
			wantCheap(b, func(b []byte) { impl.VmRead(b) })
		}
	}
	for _, n := range []int{1 << 10, 1 << 20} {
		for _, told := range []int{n, n / 8, n / 17, n / 25, n * 2, math.MaxInt} {
			for _, c := range []byte{0, 1, 255} {
				b := append(longs(told), bytes.Repeat([]byte{c}, n)...)
				wantNoRead := func(b []byte) {
					if _, ok := impl.ArenaRead(b); ok {
						t.Errorf("%d of %d, told as %d: an arena is read", n, c, told)
					}
					if _, ok := impl.VmRead(b); ok {
						t.Errorf("%d of %d, told as %d: a machine is read", n, c, told)
					}
				}
				wantCheap(b, wantNoRead)
			}
		}
	}
}

// Bytes of arenas that may not be.
func TestReadOfWhatIsNotArenaOk(t *testing.T) {
	for what, change := range map[string]func(a *impl.Arena){
		"no slots":                func(a *impl.Arena) { *a = impl.Arena{} },
		"17 slots":                func(a *impl.Arena) { *a = slots(17, hole(0)) },
		"a Gen below 0":           func(a *impl.Arena) { a.Slots[1].Gen = -1 },
		"a Gen past its bound":    func(a *impl.Arena) { a.Slots[1].Gen = mostCount + 1 },
		"a Gen of no thing":       func(a *impl.Arena) { a.Slots[1].Gen = 2 },
		"a thing's Gen":           func(a *impl.Arena) { a.Slots[2].Gen = 4 },
		"a thing's Gen of 0":      func(a *impl.Arena) { a.Slots[0].Gen = 0 },
		"a Count of 0":            func(a *impl.Arena) { a.Slots[0].Count = 0 },
		"a Count below 0":         func(a *impl.Arena) { a.Slots[2].Count = -2 },
		"a Count past its bound":  func(a *impl.Arena) { a.Slots[2].Count = mostCount + 1 },
		"a Count of no thing":     func(a *impl.Arena) { a.Slots[1].Count = 1 },
		"fields of no thing":      func(a *impl.Arena) { a.Slots[1].Fields = fieldsOf("a") },
		"a thing that is none":    func(a *impl.Arena) { a.Slots[2].Live = false },
		"names alike":             func(a *impl.Arena) { a.Slots[0].Fields[1].Name = []byte("a") },
		"names that descend":      func(a *impl.Arena) { a.Slots[0].Fields[1].Name = []byte("y") },
		"no name":                 func(a *impl.Arena) { a.Slots[0].Fields[0].Name = nil },
		"a long name":             func(a *impl.Arena) { a.Slots[0].Fields[0].Name = []byte("aaaaaaa") },
		"a name that is no word":  func(a *impl.Arena) { a.Slots[0].Fields[0].Name = []byte("A") },
		"a VlNil with N":          func(a *impl.Arena) { a.Slots[0].Fields[2].V.N = 1 },
		"a VlNil with Gen":        func(a *impl.Arena) { a.Slots[0].Fields[2].V.Gen = -1 },
		"a VlNum with Gen":        func(a *impl.Arena) { a.Slots[0].Fields[1].V.Gen = 1 },
		"a VlRef to no slot":      func(a *impl.Arena) { a.Slots[0].Fields[0].V.N = 3 },
		"a VlRef to an empty one": func(a *impl.Arena) { a.Slots[0].Fields[0].V = refTo(1, 4) },
		"a VlRef of another Gen":  func(a *impl.Arena) { a.Slots[0].Fields[0].V.Gen = 4 },
		"a VlWeak of a later Gen": func(a *impl.Arena) { a.Slots[0].Fields[3].V.Gen = 5 },
		"a VlWeak of no slot":     func(a *impl.Arena) { a.Slots[0].Fields[3].V.N = -1 },
		"a Kind there is none of": func(a *impl.Arena) { a.Slots[0].Fields[2].V.Kind = 4 },
		"a Kind of 255":           func(a *impl.Arena) { a.Slots[0].Fields[2].V.Kind = 255 },
		"an empty one in Queue":   func(a *impl.Arena) { a.Queue[1] = 1 },
		"no slot in Queue":        func(a *impl.Arena) { a.Queue[2] = 3 },
		"below 0 in Queue":        func(a *impl.Arena) { a.Queue[0] = -1 },
		"501 in Queue":            func(a *impl.Arena) { a.Queue = make([]int, 501) },
		"an empty one in Purple":  func(a *impl.Arena) { a.Purple[1] = 1 },
		"no slot in Purple":       func(a *impl.Arena) { a.Purple[0] = math.MaxInt },
		"one twice in Purple":     func(a *impl.Arena) { a.Purple[1] = 2 },
		"17 in Purple":            func(a *impl.Arena) { a.Purple = make([]int, 17) },
	} {
		a := cottage()
		change(&a)
		if impl.ArenaOk(a) {
			t.Errorf("%s: it is ArenaOk", what)
		}
		wantNoArenaRead(t, what, plainArenaBytes(a))
		wantNoVmRead(t, what, plainVmBytes(impl.Vm{Code: sample(), Arena: a}))
		wantNoArenaBytes(t, what, a)
	}
	b := plainArenaBytes(cottage())
	for n := range 256 {
		// the first is Live, the one behind it is not
		for live, at := range map[int]int{1: 8, 0: len(b) - 24 - 32 - 2*25} {
			if int(b[at]) != live {
				t.Fatalf("%d stands there", b[at])
			}
			if got := wantArenaRead(t, replaced(b, at, []byte{byte(n)})); got != (n == live) {
				t.Errorf("Live is %d: it is read: %v", n, got)
			}
		}
	}
}

// Bytes of machines that may not be.
func TestReadOfWhatIsNotVmOk(t *testing.T) {
	for what, change := range map[string]func(v *impl.Vm){
		"a Unit there is none of":      func(v *impl.Vm) { v.Frames[1].Unit = 2 },
		"a Unit below 0":               func(v *impl.Vm) { v.Frames[0].Unit = -1 },
		"another Unit":                 func(v *impl.Vm) { v.Frames[1].Unit = 0 },
		"a Pc past the last order":     func(v *impl.Vm) { v.Frames[1].Pc = 4 },
		"a Pc below 0":                 func(v *impl.Vm) { v.Frames[1].Pc = -1 },
		"To of the first":              func(v *impl.Vm) { v.Frames[0].To = 1 },
		"To past the registers":        func(v *impl.Vm) { v.Frames[1].To = 3 },
		"To below 0":                   func(v *impl.Vm) { v.Frames[1].To = math.MinInt },
		"a register less":              func(v *impl.Vm) { v.Frames[0].Regs = v.Frames[0].Regs[:2] },
		"a register more":              func(v *impl.Vm) { v.Frames[1].Regs = append(v.Frames[1].Regs, nilVal()) },
		"a register that is not right": func(v *impl.Vm) { v.Frames[1].Regs[0] = weakTo(2, 4) },
		"a Kind there is none of":      func(v *impl.Vm) { v.Frames[0].Regs[2].Kind = 4 },
		"14 frames":                    func(v *impl.Vm) { v.Frames = slices.Repeat(v.Frames[:1], 14) },
		"2001 ticks":                   func(v *impl.Vm) { v.Ticks = 2001 },
		"ticks below 0":                func(v *impl.Vm) { v.Ticks = -1 },
		"a State with frames":          func(v *impl.Vm) { v.State = impl.RsFull },
		"a State below 0":              func(v *impl.Vm) { v.State = -1 },
		"a State there is none of":     func(v *impl.Vm) { v.Frames, v.State = nil, impl.RsForm },
		"a log of 100001":              func(v *impl.Vm) { v.Log = make([]byte, mostLog+1) },
		"counts of no frames":          func(v *impl.Vm) { v.Frames = nil },
		"one more counted":             func(v *impl.Vm) { v.Arena.Slots[0].Count++ },
		"one less counted":             func(v *impl.Vm) { v.Arena.Slots[1].Count-- },
		"one less queued":              func(v *impl.Vm) { v.Arena.Queue = v.Arena.Queue[1:] },
		"one more queued":              func(v *impl.Vm) { v.Arena.Queue = append(v.Arena.Queue, 3) },
		"purple twice":                 func(v *impl.Vm) { v.Arena.Purple[1] = 3 },
		"a field less":                 func(v *impl.Vm) { v.Arena.Slots[1].Fields = nil },
	} {
		v := changedVm(couple(), change)
		if impl.VmOk(v) {
			t.Errorf("%s: it is VmOk", what)
		}
		wantNoVmRead(t, what, plainVmBytes(v))
		wantNoVmBytes(t, what, v)
	}
}

// Of a machine whose CodeBytes are those of a code, and of one where they are not.
func TestVmReadOfCodes(t *testing.T) {
	v := impl.Vm{Code: codeOf(ended(0, 1)), Arena: slots(1, hole(0))}
	code := plainBytes(v.Code)
	rest := plainVmBytes(v)[8+len(code):]
	reads := func(n int, code []byte) bool {
		t.Helper()
		return wantVmRead(t, slices.Concat(longs(n), code, rest))
	}
	if !reads(len(code), code) {
		t.Fatal("it is not read")
	}
	for _, more := range []int{-17, -2, -1, 1, 2, 8, 17} {
		if reads(len(code)+more, code) {
			t.Errorf("%d more are told: it is read", more)
		}
	}
	for _, c := range []byte{0, 1, 11, 255} {
		behind := append(bytes.Clone(code), c)
		if reads(len(code)+1, behind) || reads(len(code), behind) || reads(len(code)+1, append([]byte{c}, code...)) {
			t.Errorf("with %d more it is read", c)
		}
	}
	for n := range code {
		if reads(n, code[:n]) || reads(len(code)-n-1, code[n+1:]) {
			t.Errorf("of %d bytes of its code it is read", n)
		}
		for _, c := range []byte{0, 1, 2, 11, 15, 255} {
			other := replaced(code, n, []byte{c})
			d, ok := plainRead(other)
			if got := reads(len(other), other); got != (ok && bytes.Equal(plainBytes(d), other)) {
				t.Errorf("code %v: it is read: %v", other, got)
			}
		}
	}
	for _, c := range []impl.Code{{}, codeOf(ended(1, 1)), codeOf(unit(0, 1)), codeOf(ended(0, 25)), codeOf(ended(0, 1, ins(15, 0, 0, 0))), codeOf(slices.Repeat([]impl.Unit{ended(0, 1)}, 5)...)} {
		if b := plainBytes(c); reads(len(b), b) {
			t.Errorf("%v: it is read", c)
		}
	}
}

// Each byte changed into each other one, left out, put in, put behind.
func TestSpoiledArenasAndMachines(t *testing.T) {
	read, not := 0, 0
	spoil := func(b []byte, reads func(t *testing.T, b []byte) bool, with func(i int) []byte) {
		t.Helper()
		try := func(parts ...[]byte) {
			t.Helper()
			if reads(t, slices.Concat(parts...)) {
				read++
			} else {
				not++
			}
		}
		for i := range b {
			for _, c := range with(i) {
				try(b[:i], []byte{c}, b[i+1:])
			}
			for _, c := range []byte{0, 1, 'a', 255} {
				try(b[:i], []byte{c}, b[i:])
			}
			try(b[:i], b[i+1:])
			try(b, b[i:i+1])
		}
	}
	each := func(int) []byte {
		var l []byte
		for c := range 256 {
			l = append(l, byte(c))
		}
		return l
	}
	spoil(plainArenaBytes(cottage()), wantArenaRead, each)
	spoil(plainArenaBytes(slots(2, hole(3))), wantArenaRead, each)
	spoil(plainVmBytes(couple()), wantVmRead, each)
	m := wright{rand.New(rand.NewSource(38))}
	for range 12 {
		v := m.machine()
		v.Log = nil
		b := plainVmBytes(v)
		if len(b) > 4000 {
			continue
		}
		spoil(b, wantVmRead, func(i int) []byte { return []byte{b[i] + 1, b[i] - 1, b[i] ^ 128, 0} })
		spoil(plainArenaBytes(v.Arena), wantArenaRead, func(i int) []byte { return []byte{b[i] + 1, b[i] - 1, byte(m.Intn(256)), 0} })
	}
	if read < 1000 || not < 1000 {
		t.Errorf("%d are read, %d are not: the test sees too few", read, not)
	}
}

func TestReadOfAnyBytes(t *testing.T) {
	r := rand.New(rand.NewSource(39))
	for range 20000 {
		b := make([]byte, r.Intn(120))
		for i := range b {
			if r.Intn(8) == 0 {
				b[i] = byte(r.Intn([]int{2, 3, 16, 256}[r.Intn(4)]))
			}
		}
		if len(b) > 7 {
			copy(b, longs(r.Intn(4)))
		}
		wantArenaRead(t, b)
		wantVmRead(t, b)
	}
}

// wantSpoiled reads bytes at some place of which one is changed, left out, put in or put behind.
func wantSpoiled(t *testing.T, r *rand.Rand, b []byte, read func(t *testing.T, b []byte) bool) {
	t.Helper()
	i, c := r.Intn(len(b)), byte(r.Intn([]int{2, 6, 256}[r.Intn(3)]))
	read(t, replaced(b, i, []byte{c}))
	read(t, slices.Concat(b[:i], b[i+1:]))
	read(t, slices.Concat(b[:i], []byte{c}, b[i:]))
	read(t, append(bytes.Clone(b), c))
	read(t, b[:i])
}

func TestMadeArenasComeBack(t *testing.T) {
	m := builder{rand.New(rand.NewSource(40))}
	for range 3000 {
		a := m.arena()
		b := wantArenaBack(t, "made", a)
		wantSpoiled(t, m.Rand, b, wantArenaRead)
		for range 3 {
			if a = m.changed(a); plainArenaOk(a) {
				wantArenaBack(t, "changed", a)
			} else {
				wantNoArenaBytes(t, "changed", a)
			}
		}
	}
}

// wantGoesOn: who comes back does each order as who was put away would have, and goes on to the same end.
func wantGoesOn(t *testing.T, v impl.Vm, fuel int, plan []int) {
	t.Helper()
	w, ok := impl.VmRead(wantVmBack(t, "on its way", v))
	if !ok {
		t.Fatalf("%s does not come back", pictured(v))
	}
	same := func(what string, a, b impl.Vm, aOk, bOk bool) {
		t.Helper()
		if aOk != bOk || !sameVm(a, b) {
			t.Fatalf("%s of %s: who comes back is %s, %v; want %s, %v", what, pictured(v), pictured(b), bOk, pictured(a), aOk)
		}
	}
	for do := range 3 {
		a, aOk := impl.VmStep(v, fuel, do)
		b, bOk := impl.VmStep(w, fuel, do)
		same(fmt.Sprint("an order, do ", do), a, b, aOk, bOk)
	}
	for _, l := range [][]int{plan, nil, {1}, {2}} {
		a, aOk := impl.VmRun(v, fuel, l)
		b, bOk := impl.VmRun(w, fuel, l)
		same(fmt.Sprint("a run, plan ", l), a, b, aOk, bOk)
	}
	a, aOk := impl.Settle(v)
	b, bOk := impl.Settle(w)
	same("what is left", a, b, aOk, bOk)
	if string(impl.VmText(v)) != string(impl.VmText(w)) {
		t.Fatalf("%s: the text is another", pictured(v))
	}
}

// Machines of made programs are put away behind every few orders, and it is the one that comes back that is played on.
func TestMadeProgramsComeBackAndGoOn(t *testing.T) {
	r := rand.New(rand.NewSource(41))
	states := map[int]int{}
	for i := range 200 {
		p := madeProgram(t, r, i)
		c, ok := impl.Compile(p)
		if !ok {
			continue
		}
		size, plan := 1+i%impl.MaxCap, somePlan(r)
		fuel := []int{10, 60, 150}[r.Intn(3)]
		v, _ := impl.VmNew(c, size)
		for len(v.Frames) > 0 {
			wantGoesOn(t, v, fuel, plan)
			b := wantVmBack(t, "on its way", v)
			wantSpoiled(t, r, b, wantVmRead)
			wantArenaBack(t, "on its way", v.Arena)
			v, _ = impl.VmRead(b)
			v, _ = stepByStep(v, fuel, plan, 1+r.Intn(120))
		}
		wantGoesOn(t, v, fuel, plan)
		wantSpoiled(t, r, wantVmBack(t, "at its end", v), wantVmRead)
		want := impl.Play(p, size, fuel, plan)
		if got := (impl.Result{Code: v.State, Log: v.Log, Ticks: v.Ticks}); !sameResult(got, want) {
			t.Fatalf("%q in %d, fuel %d, plan %v: %s; want %s", impl.ProgText(p), size, fuel, plan, picture(got), picture(want))
		}
		states[v.State]++
	}
	for state := impl.RsDone; state <= impl.RsFull; state++ {
		if states[state] < 5 {
			t.Errorf("only %d end with %d: the test sees too few", states[state], state)
		}
	}
}

func TestMadeCodesComeBackAndGoOn(t *testing.T) {
	m := coder{rand.New(rand.NewSource(42))}
	for i := range 400 {
		v, _ := impl.VmNew(m.code(), 1+i%impl.MaxCap)
		v, _ = stepByStep(v, 20, nil, m.Intn(60))
		wantGoesOn(t, v, m.Intn(30), somePlan(m.Rand))
	}
	w := wright{m.Rand}
	for range 400 {
		v := w.machine()
		wantGoesOn(t, v, []int{0, 5, 2000}[m.Intn(3)], somePlan(m.Rand))
		wantSpoiled(t, m.Rand, plainVmBytes(v), wantVmRead)
	}
}

// What a function answers is new memory, and an argument stays as it was.

func TestPuttingAwayOnlyReads(t *testing.T) {
	m := wright{rand.New(rand.NewSource(43))}
	answers := func(v impl.Vm) string {
		a, ok := impl.ArenaBytes(v.Arena)
		b, fine := impl.VmBytes(v)
		return fmt.Sprint(ok, fine) + overwritten(a, '!') + overwritten(b, '!') + overwritten(impl.VmText(v), '!')
	}
	for i := range 900 {
		v := m.machine()
		v.Log = v.Log[:min(9, len(v.Log))]
		if i%4 == 0 {
			v = m.changed(v)
		}
		var k crate
		w := k.vm(v)
		before := k.picture()
		got := answers(w)
		if k.picture() != before {
			t.Fatalf("%s: something is changed", pictured(v))
		}
		if want := answers(v); got != want || answers(w) != want {
			t.Fatalf("%s: what lies behind the lists is read, or an answer is kept", pictured(v))
		}
	}
}

// wantReadApart reads bytes twice, and then writes over them, and over each answer, list by list.
func wantReadApart[T any](t *testing.T, made []byte, read func([]byte) (T, bool), spread func(x T, over bool) string) {
	t.Helper()
	b, whole := roomy(string(made))
	before := bytes.Clone(whole)
	first, ok := read(b)
	second, again := read(b)
	if !bytes.Equal(whole, before) {
		t.Fatalf("%v: the bytes are changed", made)
	}
	want, fine := read(bytes.Clone(made))
	if ok != fine || again != fine {
		t.Fatalf("%v: what lies behind the bytes is read, or an answer is kept", made)
	}
	for i := range whole {
		whole[i] = 'q'
	}
	s := spread(want, false)
	if spread(first, false) != s || spread(first, true) != s || spread(second, true) != s {
		t.Fatalf("%v: it changes with the bytes, or with another answer, or two of its lists share memory", made)
	}
}

func TestComingBackOnlyReads(t *testing.T) {
	m := wright{rand.New(rand.NewSource(44))}
	for i := range 900 {
		v := m.machine()
		v.Log = v.Log[:min(9, len(v.Log))]
		arena, vm := plainArenaBytes(v.Arena), plainVmBytes(v)
		if i%4 == 0 {
			arena[m.Intn(len(arena))]++
			vm[m.Intn(len(vm))]++
		}
		wantReadApart(t, arena, impl.ArenaRead, laidOut)
		wantReadApart(t, vm, impl.VmRead, opened)
	}
}
