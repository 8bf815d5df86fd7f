package tests

// Chapter 5, sentence by sentence: what is made, kept, dropped, put, drained and collected.

import (
	"bytes"
	"fmt"
	"slices"
	"strings"
	"testing"

	"loop.example/g00547/impl"
)

func sameField(a, b impl.Field) bool { return bytes.Equal(a.Name, b.Name) && a.V == b.V }

func sameSlot(a, b impl.Slot) bool {
	return a.Live == b.Live && a.Gen == b.Gen && a.Count == b.Count && slices.EqualFunc(a.Fields, b.Fields, sameField)
}

func sameArena(a, b impl.Arena) bool {
	return slices.EqualFunc(a.Slots, b.Slots, sameSlot) && slices.Equal(a.Queue, b.Queue) && slices.Equal(a.Purple, b.Purple)
}

func wantSame(t *testing.T, what string, got, want impl.Arena) {
	t.Helper()
	if !sameArena(got, want) {
		t.Errorf("%s: %v; want %v", what, got, want)
	}
}

func copied(a impl.Arena) impl.Arena {
	b := impl.Arena{Slots: slices.Clone(a.Slots), Queue: slices.Clone(a.Queue), Purple: slices.Clone(a.Purple)}
	for n, s := range b.Slots {
		b.Slots[n].Fields = nil
		for _, f := range s.Fields {
			b.Slots[n].Fields = append(b.Slots[n].Fields, field(string(f.Name), f.V))
		}
	}
	return b
}

func isZero(a impl.Arena) bool { return len(a.Slots)+len(a.Queue)+len(a.Purple) == 0 }

// wantNoCounting: what chapter 5 answers where the arena is not ArenaOk.
func wantNoCounting(t *testing.T, what string, a impl.Arena) {
	t.Helper()
	if b, v, ok := impl.Alloc(a); !isZero(b) || v != nilVal() || ok {
		t.Errorf("%s: Alloc answers %v, %v, %v", what, b, v, ok)
	}
	for _, v := range []impl.Val{nilVal(), numVal(3), refTo(0, 1), refTo(1, 1), weakTo(0, 0), {Kind: 9}} {
		wantNotCounted(t, what, a, v)
		wantNoField(t, what, a, v, "a", refTo(0, 1))
		wantNoField(t, what, a, v, "a", nilVal())
	}
	wantNotSwept(t, what, a)
	if len(impl.Gray(a)) > 0 || len(impl.Trial(a)) > 0 {
		t.Errorf("%s: Gray %v, Trial %v", what, impl.Gray(a), impl.Trial(a))
	}
}

func wantNotCounted(t *testing.T, what string, a impl.Arena, v impl.Val) {
	t.Helper()
	if b, ok := impl.Keep(a, v); !isZero(b) || ok {
		t.Errorf("%s: Keep of %v answers %v, %v", what, v, b, ok)
	}
	if b, ok := impl.Drop(a, v); !isZero(b) || ok {
		t.Errorf("%s: Drop of %v answers %v, %v", what, v, b, ok)
	}
}

// wantNoField: neither GetField nor PutField answers.
func wantNoField(t *testing.T, what string, a impl.Arena, v impl.Val, name string, w impl.Val) {
	t.Helper()
	if got, ok := impl.GetField(a, v, []byte(name)); got != nilVal() || ok {
		t.Errorf("%s: GetField of %v, %q answers %v, %v", what, v, name, got, ok)
	}
	wantNoPut(t, what, a, v, name, w)
}

func wantNoPut(t *testing.T, what string, a impl.Arena, v impl.Val, name string, w impl.Val) {
	t.Helper()
	if b, ok := impl.PutField(a, v, []byte(name), w); !isZero(b) || ok {
		t.Errorf("%s: PutField of %v, %q, %v answers %v, %v", what, v, name, w, b, ok)
	}
}

// wantNotSwept: it may not be drained.
func wantNotSwept(t *testing.T, what string, a impl.Arena) {
	t.Helper()
	if b, n := impl.Drain(a); !isZero(b) || n != -1 {
		t.Errorf("%s: Drain answers %v, %d", what, b, n)
	}
	if b, n := impl.Collect(a); !isZero(b) || n != -1 {
		t.Errorf("%s: Collect answers %v, %d", what, b, n)
	}
	if l := impl.White(a); len(l) > 0 {
		t.Errorf("%s: White answers %v", what, l)
	}
}

func wantAlloc(t *testing.T, what string, a, want impl.Arena, v impl.Val) {
	t.Helper()
	b, got, ok := impl.Alloc(a)
	if got != v || ok != (v != nilVal()) {
		t.Errorf("%s: Alloc answers %v, %v; want %v", what, got, ok, v)
	}
	wantSame(t, what, b, want)
}

func TestAlloc(t *testing.T) {
	wantAlloc(t, "the first", slots(2, hole(0)), room(thing(1, 1), hole(0)), refTo(0, 1))
	wantAlloc(t, "the second", room(thing(7, 3), hole(0)), room(thing(7, 3), thing(1, 1)), refTo(1, 1))
	wantAlloc(t, "where one was", room(thing(7, 3), hole(4), hole(0)), room(thing(7, 3), thing(5, 1), hole(0)), refTo(1, 5))
	wantAlloc(t, "the first of many", room(hole(9), hole(0), thing(1, 1)), room(thing(10, 1), hole(0), thing(1, 1)), refTo(0, 10))
	a := family()
	b := family()
	b.Slots[1] = thing(10, 1)
	wantAlloc(t, "a family", queued(purple(a, 3, 0), 4, 4), queued(purple(b, 3, 0), 4, 4), refTo(1, 10))
	wantAlloc(t, "a full queue", queued(room(thing(1, 1), hole(0)), slices.Repeat([]int{0}, mostQueue)...), queued(room(thing(1, 1), thing(1, 1)), slices.Repeat([]int{0}, mostQueue)...), refTo(1, 1))
}

func TestAllocWithNoSlotLeft(t *testing.T) {
	for n := 1; n <= impl.MaxCap; n++ {
		a, _ := impl.ArenaNew(n)
		want := slots(n, hole(0))
		for i := range n {
			want.Slots[i] = thing(1, 1)
			wantAlloc(t, fmt.Sprint(i, " of ", n), a, want, refTo(i, 1))
			a, _, _ = impl.Alloc(a)
		}
		wantAlloc(t, fmt.Sprint("more than ", n), a, want, nilVal())
	}
	a := queued(purple(room(thing(2, 2, field("a", refTo(0, 2)))), 0), 0)
	wantAlloc(t, "queued and purple", a, a, nilVal())
}

func TestAllocAtTheLastGen(t *testing.T) {
	wantAlloc(t, "one is left", room(hole(mostCount-1)), room(thing(mostCount, 1)), refTo(0, mostCount))
	wantAlloc(t, "none is left", room(hole(mostCount)), room(hole(mostCount)), nilVal())
	// another slot that has some left is not tried
	wantAlloc(t, "one behind", room(hole(mostCount), hole(0)), room(hole(mostCount), hole(0)), nilVal())
	wantAlloc(t, "one ahead", room(hole(0), hole(mostCount)), room(thing(1, 1), hole(mostCount)), refTo(0, 1))
	wantAlloc(t, "a thing ahead", room(thing(mostCount, 1), hole(3)), room(thing(mostCount, 1), thing(4, 1)), refTo(1, 4))
}

func wantKeep(t *testing.T, what string, a impl.Arena, v impl.Val, want impl.Arena, fine bool) {
	t.Helper()
	b, ok := impl.Keep(a, v)
	wantRecount(t, what+", kept", b, want, ok, fine)
}

func wantDrop(t *testing.T, what string, a impl.Arena, v impl.Val, want impl.Arena, fine bool) {
	t.Helper()
	b, ok := impl.Drop(a, v)
	wantRecount(t, what+", dropped", b, want, ok, fine)
}

func wantRecount(t *testing.T, what string, got, want impl.Arena, ok, fine bool) {
	t.Helper()
	if ok != fine {
		t.Errorf("%s: %v is told", what, ok)
	}
	wantSame(t, what, got, want)
}

func TestKeepAndDrop(t *testing.T) {
	for _, a := range []impl.Arena{home(), queued(purple(home(), 4, 0), 2, 4, 2), purple(home(), 2)} {
		for _, v := range rightVals() {
			more := copied(a)
			less := copied(a)
			if v.Kind == impl.VlRef {
				more.Slots[v.N].Count++
				less.Queue = append(less.Queue, v.N)
			}
			wantKeep(t, "at home", a, v, more, true)
			wantDrop(t, "at home", a, v, less, true)
		}
		for _, v := range wrongVals() {
			wantNotCounted(t, "at home", a, v)
		}
	}
}

func TestKeepAtTheLastCount(t *testing.T) {
	a := room(thing(1, mostCount-1), thing(1, mostCount))
	wantKeep(t, "one is left", a, refTo(0, 1), room(thing(1, mostCount), thing(1, mostCount)), true)
	wantKeep(t, "none is left", a, refTo(1, 1), a, false)
	for _, v := range vals(nilVal(), numVal(1), weakTo(1, 1), weakTo(1, 0)) {
		wantKeep(t, "who is not counted", a, v, a, true)
	}
	wantDrop(t, "none is left", a, refTo(1, 1), queued(a, 1), true)
}

func TestDropAtTheLastOfQueue(t *testing.T) {
	for _, x := range []struct {
		ahead int
		fine  bool
	}{{mostQueue - 2, true}, {mostQueue - 1, true}, {mostQueue, false}} {
		a := queued(home(), slices.Repeat([]int{2}, x.ahead)...)
		want := copied(a)
		if x.fine {
			want.Queue = append(want.Queue, 0)
		}
		wantDrop(t, fmt.Sprint(x.ahead, " ahead"), a, refTo(0, 1), want, x.fine)
		for _, v := range vals(nilVal(), numVal(0), weakTo(0, 1), weakTo(1, 4), weakTo(3, 0)) {
			wantDrop(t, fmt.Sprint(x.ahead, " ahead, who is not counted"), a, v, a, true)
		}
		wantKeep(t, fmt.Sprint(x.ahead, " ahead"), a, nilVal(), a, true)
	}
}

func TestGetField(t *testing.T) {
	a := family()
	for _, x := range []struct {
		v    impl.Val
		name string
		want impl.Val
	}{
		{refTo(0, 2), "a", refTo(2, 3)}, {refTo(0, 2), "b", numVal(7)}, {refTo(0, 2), "d", weakTo(4, 1)}, {refTo(0, 2), "e", refTo(0, 2)}, {refTo(0, 2), "g", nilVal()},
		{refTo(2, 3), "abcdef", refTo(4, 1)}, {refTo(2, 3), "b", weakTo(1, 8)}, {refTo(2, 3), "new", weakTo(0, 1)}, {refTo(4, 1), "y", numVal(3)},
		// fields that there are none of
		{refTo(0, 2), "h", nilVal()}, {refTo(0, 2), "aa", nilVal()}, {refTo(2, 3), "a", nilVal()}, {refTo(2, 3), "abcde", nilVal()}, {refTo(2, 3), "while", nilVal()}, {refTo(3, 1), "a", nilVal()}, {refTo(4, 1), "abcdef", nilVal()}, {refTo(4, 1), "zz", nilVal()},
	} {
		if v, ok := impl.GetField(a, x.v, []byte(x.name)); v != x.want || !ok {
			t.Errorf("GetField of %v, %s answers %v, %v; want %v", x.v, x.name, v, ok, x.want)
		}
	}
}

// Values whose fields can't be asked for: all that are no VlRef, and all that are not right.
func TestFieldsOfOtherValues(t *testing.T) {
	a := home()
	for _, n := range []int{0, 2, 4} {
		a.Slots[n].Fields = []impl.Field{field("a", numVal(5))}
	}
	for _, v := range append(rightVals(), wrongVals()...) {
		if v.Kind != impl.VlRef || !plainValOk(a, v) {
			wantNoField(t, "at home", a, v, "a", numVal(1))
			wantNoField(t, "at home", a, v, "b", refTo(0, 1))
			continue
		}
		if w, ok := impl.GetField(a, v, []byte("a")); w != numVal(5) || !ok {
			t.Errorf("GetField of %v answers %v, %v", v, w, ok)
		}
	}
	for _, w := range wrongVals() {
		wantNoPut(t, "what is not right", a, refTo(0, 1), "a", w)
		wantNoPut(t, "what is not right", a, refTo(2, 3), "b", w)
	}
}

func TestFieldsOfOtherNames(t *testing.T) {
	a := family()
	for _, s := range []string{"", "abcdefg", "A", "aB", "a1", "1", "_", "a ", " ", "é", "a\x00", "\x00", "a\n", "`", "{", "a{", strings.Repeat("a", 300)} {
		for _, v := range vals(refTo(0, 2), refTo(2, 3), refTo(3, 1)) {
			wantNoField(t, "another name", a, v, s, numVal(1))
			wantNoField(t, "another name", a, v, s, refTo(0, 2))
		}
	}
	wantNoField(t, "no name", a, refTo(0, 2), string([]byte(nil)), nilVal())
	for _, s := range strings.Fields("func let set print return if else while do nil new weak live a z abcdef zzzzzz") {
		b, ok := impl.PutField(a, refTo(3, 1), []byte(s), numVal(8))
		want := family()
		want.Slots[3].Fields = []impl.Field{field(s, numVal(8))}
		wantSame(t, s, b, want)
		if v, fine := impl.GetField(b, refTo(3, 1), []byte(s)); !ok || v != numVal(8) || !fine {
			t.Errorf("%s: %v, then %v, %v", s, ok, v, fine)
		}
	}
}

func wantPut(t *testing.T, what string, a impl.Arena, v impl.Val, name string, w impl.Val, want impl.Arena, fine bool) {
	t.Helper()
	b, ok := impl.PutField(a, v, []byte(name), w)
	if ok != fine {
		t.Errorf("%s: PutField of %v, %s, %v answers %v", what, v, name, w, ok)
	}
	wantSame(t, what, b, want)
	if got, is := impl.GetField(b, v, []byte(name)); fine && (got != w || !is) {
		t.Errorf("%s: GetField answers %v, %v; want %v", what, got, is, w)
	}
}

// Each kind of value over each kind, and the very value that the field has.
func TestPutFieldOfEachKind(t *testing.T) {
	l := vals(nilVal(), numVal(0), numVal(-5), refTo(0, 1), refTo(2, 3), refTo(4, 2), weakTo(0, 1), weakTo(1, 4), weakTo(1, 0), weakTo(2, 3), weakTo(3, 0))
	for _, had := range l {
		for _, w := range l {
			a := queued(purple(room(thing(1, 5), hole(4), thing(3, 2, field("a", numVal(1)), field("k", had), field("z", refTo(0, 1))), hole(0), thing(2, 9)), 4), 0)
			want := copied(a)
			want.Slots[2].Fields[1].V = w
			if w.Kind == impl.VlRef {
				want.Slots[w.N].Count++
			}
			if had.Kind == impl.VlRef {
				want.Queue = append(want.Queue, had.N)
			}
			wantPut(t, fmt.Sprint(w, " over ", had), a, refTo(2, 3), "k", w, want, true)
			// over nothing: a new field, what it had being nothing
			a.Slots[2].Fields = []impl.Field{field("a", had), field("z", refTo(0, 1))}
			want = copied(a)
			want.Slots[2].Fields = []impl.Field{field("a", had), field("k", w), field("z", refTo(0, 1))}
			if w.Kind == impl.VlRef {
				want.Slots[w.N].Count++
			}
			wantPut(t, fmt.Sprint(w, " over no field"), a, refTo(2, 3), "k", w, want, true)
		}
	}
}

func TestPutFieldStaysAscending(t *testing.T) {
	words := strings.Fields("a aa ab abcdef abcdeg b ba if new z zz zzzzzz")
	for _, order := range [][]int{{0, 1, 2, 3, 4, 5, 6, 7, 8, 9, 10, 11}, {11, 10, 9, 8, 7, 6, 5, 4, 3, 2, 1, 0}, {6, 0, 11, 3, 9, 1, 10, 4, 8, 2, 5, 7}} {
		a := slots(2, thing(1, 1))
		var there []string
		for i, n := range append(slices.Clone(order), order...) {
			b, ok := impl.PutField(a, refTo(1, 1), []byte(words[n]), numVal(i))
			if !ok || !impl.ArenaOk(b) {
				t.Fatalf("%s into %v: %v, %v", words[n], a, b, ok)
			}
			a = b
			if !slices.Contains(there, words[n]) {
				there = append(there, words[n])
			}
			var names []string
			for _, f := range a.Slots[1].Fields {
				names = append(names, string(f.Name))
			}
			if !slices.Equal(names, slices.Sorted(slices.Values(there))) {
				t.Fatalf("fields %v; want %v", names, there)
			}
		}
		for i, n := range order {
			if v, _ := impl.GetField(a, refTo(1, 1), []byte(words[n])); v != numVal(i+len(order)) {
				t.Errorf("%s is %v", words[n], v)
			}
		}
		if len(a.Slots[0].Fields) > 0 {
			t.Errorf("another thing has %v", a.Slots[0].Fields)
		}
	}
}

func TestPutFieldAtTheLastCount(t *testing.T) {
	at := func(count int, l ...impl.Field) impl.Arena { return room(thing(1, 9, l...), thing(4, count)) }
	full := at(mostCount, field("a", refTo(1, 4)))
	wantPut(t, "one is left", at(mostCount-1), refTo(0, 1), "a", refTo(1, 4), full, true)
	wantPut(t, "none is left", at(mostCount), refTo(0, 1), "a", refTo(1, 4), at(mostCount), false)
	// what is dropped is only queued, so it makes no room for what is kept
	wantPut(t, "the very value", full, refTo(0, 1), "a", refTo(1, 4), full, false)
	wantPut(t, "the very value, one is left", at(mostCount-1, field("a", refTo(1, 4))), refTo(0, 1), "a", refTo(1, 4), queued(full, 1), true)
	wantPut(t, "another", full, refTo(0, 1), "a", numVal(3), queued(at(mostCount, field("a", numVal(3))), 1), true)
	wantPut(t, "a weak one", full, refTo(0, 1), "b", weakTo(1, 4), at(mostCount, field("a", refTo(1, 4)), field("b", weakTo(1, 4))), true)
	wantPut(t, "itself", room(thing(1, mostCount)), refTo(0, 1), "a", refTo(0, 1), room(thing(1, mostCount)), false)
	wantPut(t, "a number", room(thing(1, mostCount)), refTo(0, 1), "a", numVal(0), room(thing(1, mostCount, field("a", numVal(0)))), true)
}

func TestPutFieldAtTheLastOfQueue(t *testing.T) {
	had := vals(nilVal(), numVal(1), refTo(1, 4), weakTo(1, 4))
	for _, ahead := range []int{mostQueue - 1, mostQueue} {
		for _, v := range had {
			for _, w := range had {
				a := queued(room(thing(1, 9, field("a", v)), thing(4, 600)), slices.Repeat([]int{1}, ahead)...)
				want := copied(a)
				fine := v.Kind != impl.VlRef || ahead < mostQueue
				if fine {
					want.Slots[0].Fields[0].V = w
				}
				if fine && w.Kind == impl.VlRef {
					want.Slots[1].Count++
				}
				if fine && v.Kind == impl.VlRef {
					want.Queue = append(want.Queue, 1)
				}
				wantPut(t, fmt.Sprint(ahead, " ahead, ", w, " over ", v), a, refTo(0, 1), "a", w, want, fine)
			}
		}
		a := queued(slots(2, thing(1, 600)), slices.Repeat([]int{1}, ahead)...)
		want := copied(a)
		want.Slots[0].Fields = []impl.Field{field("a", numVal(1))}
		wantPut(t, "a new field", a, refTo(0, 1), "a", numVal(1), want, true)
	}
}

func wantDrain(t *testing.T, what string, a, want impl.Arena, emptied int) {
	t.Helper()
	b, n := impl.Drain(a)
	if n != emptied {
		t.Errorf("%s: Drain empties %d; want %d", what, n, emptied)
	}
	wantSame(t, what, b, want)
	if c, n := impl.Drain(b); n != 0 || !sameArena(c, b) {
		t.Errorf("%s: drained once more, %d go: %v", what, n, c)
	}
}

func TestDrainOfOne(t *testing.T) {
	wantDrain(t, "nothing queued", room(thing(1, 1), hole(3)), room(thing(1, 1), hole(3)), 0)
	wantDrain(t, "nothing queued, but purple", purple(slots(3, thing(1, 1)), 2, 0), purple(slots(3, thing(1, 1)), 2, 0), 0)
	wantDrain(t, "the last one", queued(room(thing(7, 1)), 0), room(hole(7)), 1)
	wantDrain(t, "with fields", queued(room(thing(7, 1, field("a", numVal(1)), field("b", weakTo(0, 7)))), 0), room(hole(7)), 1)
	wantDrain(t, "one of two", queued(room(thing(7, 2)), 0), purple(room(thing(7, 1)), 0), 0)
	wantDrain(t, "both of two", queued(room(thing(7, 2)), 0, 0), room(hole(7)), 1)
	wantDrain(t, "two of three", queued(room(thing(7, 3)), 0, 0), purple(room(thing(7, 1)), 0), 0)
	wantDrain(t, "most", queued(room(thing(7, mostQueue)), slices.Repeat([]int{0}, mostQueue)...), room(hole(7)), 1)
	wantDrain(t, "most but one", queued(room(thing(7, mostQueue+1)), slices.Repeat([]int{0}, mostQueue)...), purple(room(thing(7, 1)), 0), 0)
	wantDrain(t, "the greatest numbers", queued(room(thing(mostCount, mostCount)), 0), purple(room(thing(mostCount, mostCount-1)), 0), 0)
	self := field("a", refTo(0, 7))
	wantDrain(t, "one that refers to itself", queued(room(thing(7, 2, self)), 0), purple(room(thing(7, 1, self)), 0), 0)
	wantDrain(t, "one that refers to itself twice", queued(room(thing(7, 3, self, field("b", refTo(0, 7)))), 0), purple(room(thing(7, 2, self, field("b", refTo(0, 7)))), 0), 0)
}

// Purple are those that are less by one and still above 0: behind all others, and not twice.
func TestWhoIsPurple(t *testing.T) {
	a := slots(4, thing(1, 3))
	counts := func(l ...int) impl.Arena {
		b := copied(a)
		for i, n := range l {
			b.Slots[i].Count = n
		}
		return b
	}
	wantDrain(t, "in the order of Queue", queued(a, 2, 0, 3), purple(counts(2, 3, 2, 2), 2, 0, 3), 0)
	wantDrain(t, "several times", queued(a, 2, 0, 2, 0), purple(counts(1, 3, 1, 3), 2, 0), 0)
	wantDrain(t, "behind all others", queued(purple(a, 3, 1), 0), purple(counts(2, 3, 3, 3), 3, 1, 0), 0)
	wantDrain(t, "not twice", queued(purple(a, 3, 1, 0), 1, 2, 3), purple(counts(3, 2, 2, 2), 3, 1, 0, 2), 0)
	b := counts(3, 3, 3, 3)
	b.Slots[1] = hole(1)
	wantDrain(t, "emptied, and purple before", queued(purple(a, 3, 1, 0), 1, 1, 1), purple(b, 3, 0), 1)
	wantDrain(t, "emptied, and purple on the way", queued(purple(a, 3), 1, 1, 1), purple(b, 3), 1)
	b.Slots[0].Count = 2
	wantDrain(t, "emptied, another one purple between", queued(a, 1, 0, 1, 1), purple(b, 0), 1)
	wantKeep(t, "kept", purple(a, 3, 1), refTo(1, 1), purple(counts(3, 4, 3, 3), 3, 1), true)
}

// Those whom an emptied slot's fields refer to are queued behind all, in the fields' order; in that order they get purple.
func TestDrainGoesOn(t *testing.T) {
	to := func(s string, n int) impl.Field { return field(s, refTo(n, 1)) }
	a := room(thing(1, 1, to("a", 3), field("b", weakTo(4, 1)), to("c", 1), field("d", numVal(4)), to("e", 3), to("f", 2)), thing(1, 5), thing(1, 5), thing(1, 5), thing(1, 5))
	b := copied(a)
	b.Slots[0] = hole(1)
	b.Slots[1].Count, b.Slots[2].Count, b.Slots[3].Count = 4, 4, 3
	wantDrain(t, "in the fields' order", queued(a, 0), purple(b, 3, 1, 2), 1)
	b.Slots[4].Count = 3
	wantDrain(t, "behind all", queued(a, 4, 0, 4), purple(b, 4, 3, 1, 2), 1)
	wantDrain(t, "behind all, first", queued(a, 0, 4, 4), purple(b, 4, 3, 1, 2), 1)
	b.Slots[2].Count = 3
	b.Slots[4].Count = 5
	wantDrain(t, "one is queued too", queued(a, 0, 2), purple(b, 2, 3, 1), 1)

	// two that are emptied: those of the first ahead of those of the second, and what they lead to behind
	c := room(thing(1, 1, to("a", 4)), thing(1, 1, to("a", 3)), thing(1, 1, to("a", 5), to("b", 6)), thing(1, 2), thing(1, 1, to("a", 7)), thing(1, 2), thing(1, 2), thing(1, 2))
	d := room(hole(1), hole(1), hole(1), thing(1, 1), hole(1), thing(1, 1), thing(1, 1), thing(1, 1))
	wantDrain(t, "row by row", queued(c, 0, 1, 2), purple(d, 3, 5, 6, 7), 4)
	wantDrain(t, "row by row, backwards", queued(c, 2, 1, 0), purple(d, 5, 6, 3, 7), 4)
}

func TestDrainOfChains(t *testing.T) {
	for n := 1; n <= impl.MaxCap; n++ {
		a, want := slots(n, thing(1, 1)), slots(n, hole(1))
		for i := range n - 1 {
			a.Slots[i].Fields = []impl.Field{field("a", refTo(i+1, 1))}
		}
		wantDrain(t, fmt.Sprint("a chain of ", n), queued(a, 0), want, n)
		a.Slots[n-1].Count = 2
		want.Slots[n-1] = thing(1, 1)
		if n > 1 {
			wantDrain(t, fmt.Sprint("a chain of ", n, ", the last is kept"), queued(a, 0), purple(want, n-1), n-1)
		}
	}
}

// On the way there may be more in Queue than may be queued.
func TestDrainOfManyFields(t *testing.T) {
	var many []impl.Field
	for i := range 26 * 26 {
		many = append(many, field(string([]byte{byte('a' + i/26), byte('a' + i%26)}), refTo(1, 1)))
	}
	l := slices.Repeat([]int{1}, mostQueue)
	l[3] = 0
	wantDrain(t, "many fields", queued(room(thing(1, 1, many...), thing(1, len(many)+mostQueue-1)), l...), slots(2, hole(1)), 2)
	wantDrain(t, "many fields, one is left", queued(room(thing(1, 1, many...), thing(1, len(many)+mostQueue)), l...), purple(room(hole(1), thing(1, 1)), 1), 1)
	wantNotSwept(t, "many fields, one lacks", queued(room(thing(1, 1, many...), thing(1, len(many)+mostQueue-2)), l...))
}

// Where one Live slot's Count is less than Refs without roots, by one, an arena may not be drained.
func TestWhatMayNotBeDrained(t *testing.T) {
	for _, l := range [][]int{nil, {0}, {3, 0, 4, 3}, {2, 2, 2, 3}} {
		a := queued(purple(family(), 3, 0), l...)
		refs := impl.Refs(a, nil)
		for n, s := range a.Slots {
			if s.Live {
				a.Slots[n].Count = max(1, refs[n])
			}
		}
		if b, n := impl.Drain(a); n < 0 || isZero(b) {
			t.Errorf("%v may be drained", a)
		}
		if b, n := impl.Collect(a); n < 0 || isZero(b) {
			t.Errorf("%v may be drained", a)
		}
		for n, s := range a.Slots {
			if s.Count < 2 {
				continue // one less is not ArenaOk
			}
			less := copied(a)
			less.Slots[n].Count--
			wantNotSwept(t, fmt.Sprint("one less of ", n, " with ", l), less)
			if len(impl.Gray(less)) != 6 || len(impl.Trial(less)) != 6 {
				t.Errorf("Gray %v, Trial %v of what may not be drained", impl.Gray(less), impl.Trial(less))
			}
			more := copied(a)
			more.Slots[n].Count++
			if b, n := impl.Drain(more); n < 0 || isZero(b) {
				t.Errorf("%v may be drained", more)
			}
		}
	}
	wantNotSwept(t, "queued twice", queued(room(thing(1, 1)), 0, 0))
	wantNotSwept(t, "queued, and of itself", queued(room(thing(1, 1, field("a", refTo(0, 1)))), 0))
}

func TestWhiteWhereSomethingIsQueued(t *testing.T) {
	a := purple(room(thing(1, 3, field("a", refTo(0, 1))), thing(1, 1)), 0)
	if l := impl.White(queued(a, 0)); len(l) > 0 {
		t.Errorf("White answers %v", l)
	}
	if l := impl.White(queued(a, 1)); len(l) > 0 {
		t.Errorf("White answers %v", l)
	}
	if l := impl.White(a); marks(l) != "--" {
		t.Errorf("White answers %v", l)
	}
	if marks(impl.Gray(queued(a, 0, 1))) != "+-" || fmt.Sprint(impl.Trial(queued(a, 0, 1))) != "[2 1]" {
		t.Errorf("Gray %v, Trial %v", impl.Gray(queued(a, 0, 1)), impl.Trial(queued(a, 0, 1)))
	}
}

// wantCollect: what is left, and who was gray and white ahead, nothing being queued.
func wantCollect(t *testing.T, what string, a, want impl.Arena, grays, whites string, left ...int) {
	t.Helper()
	if got := marks(impl.Gray(a)); got != grays {
		t.Errorf("%s: Gray %s; want %s", what, got, grays)
	}
	if got := marks(impl.White(a)); got != whites {
		t.Errorf("%s: White %s; want %s", what, got, whites)
	}
	wantInts(t, what+": Trial", impl.Trial(a), left...)
	b, n := impl.Collect(a)
	if n != strings.Count(whites, "+") {
		t.Errorf("%s: Collect empties %d", what, n)
	}
	wantSame(t, what, b, want)
	if c, n := impl.Collect(b); n != 0 || !sameArena(c, b) {
		t.Errorf("%s: collected once more, %d go: %v", what, n, c)
	}
}

// ring is a round of things in slots from at on, each with the number of others that refer to it.
func ring(a impl.Arena, at int, others ...int) impl.Arena {
	a = copied(a)
	for i, n := range others {
		a.Slots[at+i] = thing(1, 1+n, field("a", refTo(at+(i+1)%len(others), 1)))
	}
	return a
}

func TestRoundsAlone(t *testing.T) {
	for n := 1; n <= impl.MaxCap; n++ {
		alone := ring(slots(n, hole(0)), 0, make([]int, n)...)
		all, none := strings.Repeat("+", n), strings.Repeat("-", n)
		for at := range n {
			wantCollect(t, fmt.Sprint("a round of ", n), purple(alone, at), slots(n, hole(1)), all, all, make([]int, n)...)
			held := copied(alone)
			held.Slots[at].Count++
			left := make([]int, n)
			left[at] = 1
			wantCollect(t, fmt.Sprint("a round of ", n, ", a root"), purple(held, 0), held, all, none, left...)
			wantCollect(t, fmt.Sprint("a round of ", n, ", a root, purple"), purple(held, n-1), held, all, none, left...)
		}
		wantCollect(t, fmt.Sprint("a round of ", n, ", nobody purple"), alone, alone, none, none, slices.Repeat([]int{1}, n)...)
	}
}

func TestRoundsWithOthers(t *testing.T) {
	to := func(s string, n int) impl.Field { return field(s, refTo(n, 1)) }
	a := ring(slots(5, hole(1)), 0, 0, 0)
	held := ring(slots(5, hole(1)), 0, 1, 0)

	b := copied(held)
	b.Slots[3] = thing(1, 1, to("a", 0))
	wantCollect(t, "a thing outside refers to it", purple(b, 1), b, "++---", "-----", 1, 0, 0, 1, 0)
	wantCollect(t, "a thing outside that is purple, with a root", purple(b, 3), b, "++-+-", "-----", 0, 0, 0, 1, 0)

	// a chain behind a round goes with it, and what is kept otherwise stays, counted less
	b = copied(a)
	b.Slots[1].Fields = append(b.Slots[1].Fields, to("b", 2), to("c", 3))
	b.Slots[2] = thing(1, 1, to("a", 3), to("b", 3))
	b.Slots[3] = thing(1, 3)
	wantCollect(t, "a chain behind", purple(b, 0), slots(5, hole(1)), "++++-", "++++-", 0, 0, 0, 0, 0)
	b.Slots[3].Count = 5
	wantCollect(t, "a chain behind, its end is kept", purple(b, 0), room(hole(1), hole(1), hole(1), thing(1, 2), hole(1)), "++++-", "+++--", 0, 0, 0, 2, 0)
	b.Slots[3] = thing(1, 4, to("a", 4))
	b.Slots[4] = thing(1, 1)
	wantCollect(t, "a chain behind, its middle is kept", purple(b, 1), room(hole(1), hole(1), hole(1), thing(1, 1, to("a", 4)), thing(1, 1)), "+++++", "+++--", 0, 0, 0, 1, 0)

	// one that is black keeps what is behind it, though nothing is left of that by trial
	b = ring(slots(5, hole(1)), 0, 1, 0)
	b.Slots[1].Fields = append(b.Slots[1].Fields, to("b", 2))
	b.Slots[2] = thing(1, 1, to("a", 3))
	b.Slots[3] = thing(1, 1)
	wantCollect(t, "a chain behind a round that is kept", purple(b, 0), b, "++++-", "-----", 1, 0, 0, 0, 0)
	wantCollect(t, "a chain behind, its end purple", purple(b, 3), b, "---+-", "-----", 2, 1, 1, 1, 0)

	// two rounds, one of which refers to the other
	b = ring(ring(slots(5, hole(1)), 0, 0, 0), 2, 0, 1)
	b.Slots[0].Fields = append(b.Slots[0].Fields, to("b", 3))
	wantCollect(t, "two rounds", purple(b, 0), slots(5, hole(1)), "++++-", "++++-", 0, 0, 0, 0, 0)
	wantCollect(t, "two rounds, the second purple", purple(b, 3), b, "--++-", "-----", 1, 1, 0, 1, 0)
	b.Slots[3].Count++
	wantCollect(t, "two rounds, the second kept", purple(b, 0), ring(slots(5, hole(1)), 2, 0, 1), "++++-", "++---", 0, 0, 0, 1, 0)
}

func TestThingsOfThemselves(t *testing.T) {
	self, again := field("a", refTo(0, 4)), field("b", refTo(0, 4))
	wantCollect(t, "of itself", purple(room(thing(4, 1, self)), 0), room(hole(4)), "+", "+", 0)
	wantCollect(t, "of itself twice", purple(room(thing(4, 2, self, again)), 0), room(hole(4)), "+", "+", 0)
	wantCollect(t, "of itself, with a root", purple(room(thing(4, 2, self)), 0), room(thing(4, 2, self)), "+", "-", 1)
	wantCollect(t, "of itself by a weak one", purple(room(thing(4, 1, field("a", weakTo(0, 4)))), 0), room(thing(4, 1, field("a", weakTo(0, 4)))), "+", "-", 1)
	// two fields to the same one
	both := []impl.Field{field("a", refTo(1, 1)), field("b", refTo(1, 1))}
	to := field("a", refTo(0, 4))
	wantCollect(t, "two fields", purple(room(thing(4, 1, both...), thing(1, 2, to)), 1), room(hole(4), hole(1)), "++", "++", 0, 0)
	wantCollect(t, "two fields, and a root", purple(room(thing(4, 1, both...), thing(1, 3, to)), 1), room(thing(4, 1, both...), thing(1, 3, to)), "++", "--", 0, 1)
	wantCollect(t, "two fields to one that is kept", purple(room(thing(4, 1, append(both, field("c", refTo(0, 4)))...), thing(1, 3)), 0), room(hole(4), thing(1, 1)), "++", "+-", 0, 1)
}

// To collect is to drain first; then nobody is purple.
func TestCollectDrainsFirst(t *testing.T) {
	a := ring(slots(4, hole(1)), 0, 1, 0, 0)
	a.Slots[3] = thing(1, 2)
	less := copied(a)
	less.Slots[3] = thing(1, 1)
	for _, x := range []struct {
		a, want impl.Arena
		n       int
	}{
		{queued(a, 0), room(hole(1), hole(1), hole(1), thing(1, 2)), 3},
		{queued(a, 3), less, 0},
		{queued(a, 3, 3, 0), slots(4, hole(1)), 4},
		{queued(purple(a, 3, 2), 3, 0), room(hole(1), hole(1), hole(1), thing(1, 1)), 3},
		{queued(purple(a, 2, 3), 3), less, 0},
	} {
		b, n := impl.Collect(x.a)
		if n != x.n {
			t.Errorf("%v: %d go; want %d", x.a, n, x.n)
		}
		wantSame(t, fmt.Sprint(x.a), b, x.want)
	}
}
