package tests

// Chapter 4, sentence by sentence: which arenas and values are right, and what is told of one arena.

import (
	"bytes"
	"fmt"
	"math"
	"slices"
	"strings"
	"testing"

	"loop.example/g00547/impl"
)

const mostCount = 1000000
const mostQueue = 500
const mostRoots = 500

func nilVal() impl.Val              { return impl.Val{} }
func numVal(n int) impl.Val         { return impl.Val{Kind: impl.VlNum, N: n} }
func refTo(n, gen int) impl.Val     { return impl.Val{Kind: impl.VlRef, N: n, Gen: gen} }
func weakTo(n, gen int) impl.Val    { return impl.Val{Kind: impl.VlWeak, N: n, Gen: gen} }
func vals(l ...impl.Val) []impl.Val { return l }

func field(s string, v impl.Val) impl.Field { return impl.Field{Name: []byte(s), V: v} }
func thing(gen, count int, l ...impl.Field) impl.Slot {
	return impl.Slot{Live: true, Gen: gen, Count: count, Fields: l}
}
func hole(gen int) impl.Slot              { return impl.Slot{Gen: gen} }
func room(l ...impl.Slot) impl.Arena      { return impl.Arena{Slots: l} }
func slots(n int, s impl.Slot) impl.Arena { return room(slices.Repeat([]impl.Slot{s}, n)...) }

func queued(a impl.Arena, l ...int) impl.Arena {
	a.Queue = l
	return a
}

func purple(a impl.Arena, l ...int) impl.Arena {
	a.Purple = l
	return a
}

// noPlaces are numbers that no slot has where there are n.
func noPlaces(n int) []int {
	return []int{-1, -2, n, n + 1, impl.MaxCap, 255, 256, 1 << 31, 1 << 32, -1 << 32, math.MinInt, math.MinInt + 1, math.MaxInt}
}

// ends are numbers at the ends of 64 bits, and some on the way.
var ends = []int{math.MinInt, math.MinInt + 1, -1 << 32, -1000001, -5, -1, 0, 1, 5, 999999, 1000000, 1000001, 1 << 31, 1 << 32, math.MaxInt - 1, math.MaxInt}

func wantArena(t *testing.T, what string, a impl.Arena, want bool) {
	t.Helper()
	if ok := impl.ArenaOk(a); ok != want {
		t.Errorf("%s: ArenaOk is %v", what, ok)
	}
	if !want {
		wantNothing(t, what, a)
		return
	}
	if free := impl.FreeSlots(a); len(impl.LiveSlots(a))+free != len(a.Slots) {
		t.Errorf("%s: %v are live, %d are free", what, impl.LiveSlots(a), free)
	}
	if len(impl.CountsOf(a)) != len(a.Slots) || len(impl.ArenaText(a)) == 0 || impl.FieldCount(a, impl.VlRef) < 0 || !impl.ValOk(a, nilVal()) {
		t.Errorf("%s: something is not told", what)
	}
	if len(impl.Refs(a, nil)) != len(a.Slots) || len(impl.Reached(a, nil)) != len(a.Slots) {
		t.Errorf("%s: Refs %v, Reached %v", what, impl.Refs(a, nil), impl.Reached(a, nil))
	}
	wantArenaBack(t, what, a)
}

// wantNothing: what each function of an arena answers where it is not ArenaOk.
func wantNothing(t *testing.T, what string, a impl.Arena) {
	t.Helper()
	wantNoCounting(t, what, a)
	wantNoArenaBytes(t, what, a)
	for _, v := range []impl.Val{nilVal(), numVal(3), refTo(0, 1), refTo(0, 0), refTo(1, 1), weakTo(0, 0), weakTo(0, 1), weakTo(1, 1), refTo(-1, 1), {Kind: 9}} {
		if impl.Alive(a, v) || impl.ValOk(a, v) {
			t.Errorf("%s: %v is told to be alive, or right", what, v)
		}
	}
	for _, roots := range [][]impl.Val{nil, {}, {numVal(1)}, {refTo(0, 1)}, {refTo(-1, 1)}} {
		if len(impl.Refs(a, roots)) > 0 || len(impl.Reached(a, roots)) > 0 || len(impl.Garbage(a, roots)) > 0 || impl.Counted(a, roots) {
			t.Errorf("%s: something is told with roots %v", what, roots)
		}
	}
	for _, n := range []int{-1, 0, 1, 2, 16, 17, math.MaxInt} {
		if len(impl.Children(a, n)) > 0 {
			t.Errorf("%s: Children of %d: %v", what, n, impl.Children(a, n))
		}
	}
	for kind := -1; kind <= 4; kind++ {
		if n := impl.FieldCount(a, kind); n != -1 {
			t.Errorf("%s: FieldCount of %d is %d", what, kind, n)
		}
	}
	if len(impl.ArenaText(a)) > 0 || len(impl.LiveSlots(a)) > 0 || len(impl.CountsOf(a)) > 0 || impl.FreeSlots(a) != 0 {
		t.Errorf("%s: something is told", what)
	}
}

func TestArenaOkOfSizes(t *testing.T) {
	for n := 0; n <= impl.MaxCap+2; n++ {
		want := 1 <= n && n <= impl.MaxCap
		wantArena(t, "empty slots", slots(n, hole(0)), want)
		wantArena(t, "empty slots with a Gen", slots(n, hole(7)), want)
		wantArena(t, "things", slots(n, thing(1, 1)), want)
	}
	wantArena(t, "the zero value", impl.Arena{}, false)
	wantArena(t, "lists of none", impl.Arena{Slots: []impl.Slot{}, Queue: []int{}, Purple: []int{}}, false)
	wantArena(t, "a lot of slots", slots(10000, hole(0)), false)
	wantArena(t, "the last is wrong", room(append(slices.Repeat([]impl.Slot{hole(0)}, 15), impl.Slot{Count: 1})...), false)
}

func TestArenaOkOfGenAndCount(t *testing.T) {
	l := append([]int{2, 1999999}, ends...)
	for _, gen := range l {
		for _, count := range l {
			what := fmt.Sprintf("Gen %d, Count %d", gen, count)
			atMost := gen <= mostCount && count <= mostCount
			for at := range 3 {
				a := room(thing(1, 1), hole(3), thing(2, 2))
				a.Slots[at] = impl.Slot{Live: true, Gen: gen, Count: count}
				wantArena(t, what+" of a thing", a, gen >= 1 && count >= 1 && atMost)
				a.Slots[at] = impl.Slot{Gen: gen, Count: count}
				wantArena(t, what+" of no thing", a, gen >= 0 && count == 0 && atMost)
			}
		}
	}
}

func TestArenaOkOfEmptySlots(t *testing.T) {
	for _, f := range []impl.Field{field("a", nilVal()), field("a", numVal(1)), field("a", refTo(0, 1)), field("a", weakTo(0, 1)), {}} {
		wantArena(t, "a field of no thing", room(thing(1, 1), impl.Slot{Gen: 1, Fields: []impl.Field{f}}), false)
		wantArena(t, "a field of what never was", room(thing(1, 1), impl.Slot{Fields: []impl.Field{f}}), false)
	}
	wantArena(t, "no fields", room(impl.Slot{Fields: []impl.Field{}}), true)
}

// fieldsOf are fields with these names, a blank between two.
func fieldsOf(s string) []impl.Field {
	var l []impl.Field
	for _, n := range strings.Split(s, " ") {
		l = append(l, field(n, nilVal()))
	}
	return l
}

func TestArenaOkOfNames(t *testing.T) {
	for _, s := range []string{"a", "z", "abcdef", "a b", "a aa", "a aa ab b", "ab abc", "abcdef abcdeg", "az b", "a b c d e f g h i j k l m n o p q r s t u v w x y z", "do else func if let live new nil print return set weak while", "x", "zzzzzz"} {
		wantArena(t, s, room(thing(1, 1, fieldsOf(s)...)), true)
		wantArena(t, s, room(hole(1), thing(1, 1), thing(1, 1, fieldsOf(s)...)), true)
	}
	for _, s := range []string{"b a", "a a", "abc ab", "aa a", "b az", "a b b", "a a b", "a c b", "b a c", "abcdef abcdef", "a b c d f e", "abcdeg abcdef",
		"abcdefg", "A", "Ab", "a1", "1", "a_", "é", "a\n", "a\x00", "", "a ", " a", "a  b", "a abcdefg", "a B", "zzzzzzz", "a;", ">", "a>"} {
		wantArena(t, fmt.Sprintf("%q", s), room(thing(1, 1, fieldsOf(s)...)), false)
		wantArena(t, fmt.Sprintf("%q", s), room(thing(1, 1, fieldsOf("a b")...), hole(1), thing(1, 1, fieldsOf(s)...)), false)
	}
	wantArena(t, "a blank", room(thing(1, 1, field(" ", nilVal()))), false)
	wantArena(t, "no name", room(thing(1, 1, impl.Field{})), false)
	for c := range 256 {
		wantArena(t, fmt.Sprintf("byte %d", c), room(thing(1, 1, impl.Field{Name: []byte{'a', byte(c)}})), 'a' <= c && c <= 'z')
	}
	var many []impl.Field
	for i := range 26 * 26 * 26 {
		many = append(many, field(string([]byte{byte('a' + i/676), byte('a' + i/26%26), byte('a' + i%26)}), refTo(0, 1)))
	}
	wantArena(t, "a lot of fields", room(thing(1, 1, many...)), true)
	many[9000], many[9001] = many[9001], many[9000]
	wantArena(t, "a lot of fields, two the wrong way", room(thing(1, 1, many...)), false)
}

// home has three things, one of which lies where another was, and two slots without: one that had some, and one that had none.
func home() impl.Arena { return room(thing(1, 1), hole(4), thing(3, 2), hole(0), thing(mostCount, 1)) }

var homeGens = []int{1, 4, 3, 0, mostCount}
var homeLive = []bool{true, false, true, false, true}

func rightVals() []impl.Val {
	l := []impl.Val{nilVal(), refTo(0, 1), refTo(2, 3), refTo(4, mostCount),
		weakTo(0, 0), weakTo(0, 1), weakTo(1, 0), weakTo(1, 1), weakTo(1, 3), weakTo(1, 4), weakTo(2, 0), weakTo(2, 2), weakTo(2, 3), weakTo(3, 0), weakTo(4, 0), weakTo(4, mostCount-1), weakTo(4, mostCount)}
	for _, n := range ends {
		l = append(l, numVal(n))
	}
	return l
}

func wrongVals() []impl.Val {
	l := []impl.Val{
		refTo(0, 0), refTo(0, 2), refTo(0, -1), refTo(1, 4), refTo(1, 0), refTo(1, 1), refTo(2, 2), refTo(2, 4), refTo(2, 0), refTo(2, 1), refTo(3, 0), refTo(3, 1), refTo(4, 0), refTo(4, mostCount+1), refTo(4, mostCount-1),
		weakTo(0, -1), weakTo(0, 2), weakTo(1, -1), weakTo(1, 5), weakTo(2, 4), weakTo(2, -3), weakTo(3, 1), weakTo(3, -1), weakTo(4, mostCount+1), weakTo(4, math.MaxInt), weakTo(4, math.MinInt), refTo(4, math.MinInt),
	}
	for _, n := range ends {
		if n != 0 {
			l = append(l, impl.Val{N: n}, impl.Val{Gen: n}, impl.Val{N: n, Gen: n}, impl.Val{Kind: impl.VlNum, Gen: n}, impl.Val{Kind: impl.VlNum, N: n, Gen: n})
		}
	}
	for _, kind := range []int{-1, 4, 5, -2, 256, 257, 258, 259, 1 << 32, 1<<32 + 2, math.MinInt, math.MaxInt} {
		l = append(l, impl.Val{Kind: kind}, impl.Val{Kind: kind, N: 2, Gen: 3}, impl.Val{Kind: kind, N: 1})
	}
	for _, n := range noPlaces(5) {
		l = append(l, refTo(n, 0), refTo(n, 1), weakTo(n, 0), weakTo(n, 1))
	}
	return l
}

func wantVal(t *testing.T, v impl.Val, want bool) {
	t.Helper()
	a := home()
	if impl.ValOk(a, v) != want {
		t.Errorf("ValOk of %v is not %v", v, want)
	}
	for _, roots := range [][]impl.Val{{v}, {nilVal(), v}, {v, refTo(0, 1)}, {refTo(2, 3), v, numVal(1)}} {
		wantRoots(t, a, roots, want)
	}
	for _, at := range []int{0, 2, 4} {
		for _, l := range [][]impl.Field{{field("a", v)}, {field("a", numVal(1)), field("b", v)}, {field("x", v), field("y", refTo(0, 1))}} {
			a := home()
			a.Slots[at].Fields = l
			wantArena(t, fmt.Sprintf("a field of %d is %v", at, v), a, want)
		}
	}
}

// wantRoots: whether Refs, Counted and Reached take such roots. To Garbage those are live whom nobody is told to reach.
func wantRoots(t *testing.T, a impl.Arena, roots []impl.Val, want bool) {
	t.Helper()
	if want {
		if len(impl.Refs(a, roots)) != len(a.Slots) || len(impl.Reached(a, roots)) != len(a.Slots) {
			t.Errorf("roots %v: Refs %v, Reached %v", roots, impl.Refs(a, roots), impl.Reached(a, roots))
		}
		return
	}
	if len(impl.Refs(a, roots)) > 0 || impl.Counted(a, roots) || len(impl.Reached(a, roots)) > 0 || !slices.Equal(impl.Garbage(a, roots), impl.LiveSlots(a)) {
		t.Errorf("roots %v are told of: %v, %v, %v", roots, impl.Refs(a, roots), impl.Reached(a, roots), impl.Garbage(a, roots))
	}
}

func TestValuesThatAreRight(t *testing.T) {
	for _, v := range rightVals() {
		wantVal(t, v, true)
	}
}

func TestValuesThatAreWrong(t *testing.T) {
	for _, v := range wrongVals() {
		wantVal(t, v, false)
	}
}

// A weak one of a thing that is gone is right, whatever was made there since; promise 6.
func TestAliveAndRightOfEachGen(t *testing.T) {
	a := home()
	for n := -2; n <= 7; n++ {
		for _, gen := range []int{-2, -1, 0, 1, 2, 3, 4, 5, mostCount - 1, mostCount, mostCount + 1, math.MinInt, math.MaxInt} {
			there := 0 <= n && n < 5
			alive := there && homeLive[n] && homeGens[n] == gen
			was := there && 0 <= gen && gen <= homeGens[n]
			for _, x := range []struct {
				v         impl.Val
				ok, alive bool
			}{
				{refTo(n, gen), alive, alive},
				{weakTo(n, gen), was, alive},
				{impl.Val{Kind: impl.VlNum, N: n, Gen: gen}, gen == 0, false},
				{impl.Val{N: n, Gen: gen}, n == 0 && gen == 0, false},
				{impl.Val{Kind: -1, N: n, Gen: gen}, false, false},
				{impl.Val{Kind: 4, N: n, Gen: gen}, false, false},
				{impl.Val{Kind: 1<<32 + 2, N: n, Gen: gen}, false, false},
			} {
				if impl.ValOk(a, x.v) != x.ok || impl.Alive(a, x.v) != x.alive {
					t.Errorf("%v: ValOk %v, Alive %v; want %v, %v", x.v, impl.ValOk(a, x.v), impl.Alive(a, x.v), x.ok, x.alive)
				}
			}
		}
	}
	for _, n := range noPlaces(5) {
		for _, gen := range []int{0, 1, 3} {
			if impl.Alive(a, refTo(n, gen)) || impl.Alive(a, weakTo(n, gen)) {
				t.Errorf("slot %d is told to be alive", n)
			}
		}
	}
}

func TestArenaOkOfQueue(t *testing.T) {
	a := home()
	for _, l := range [][]int{{}, {0}, {2}, {4}, {0, 2, 4}, {4, 2, 0}, {2, 2}, {2, 0, 2, 4, 2}} {
		wantArena(t, fmt.Sprint("Queue ", l), queued(a, l...), true)
	}
	for _, n := range append(noPlaces(5), 1, 3) {
		wantArena(t, fmt.Sprint("Queue with ", n), queued(a, n), false)
		wantArena(t, fmt.Sprint("Queue with ", n, " ahead"), queued(a, n, 0, 2), false)
		wantArena(t, fmt.Sprint("Queue with ", n, " behind"), queued(a, 0, 2, n), false)
	}
	for _, n := range []int{0, 2, 4} {
		for many, want := range map[int]bool{mostQueue - 1: true, mostQueue: true, mostQueue + 1: false, 2 * mostQueue: false, 1 << 16: false} {
			l := slices.Repeat([]int{n}, many)
			wantArena(t, fmt.Sprint(many, " in Queue"), queued(a, l...), want)
			l[many-1] = 1
			wantArena(t, fmt.Sprint(many, " in Queue, the last wrong"), queued(a, l...), false)
		}
	}
	wantArena(t, "Queue of an empty slot", queued(slots(1, hole(0)), 0), false)
}

func TestArenaOkOfPurple(t *testing.T) {
	a := home()
	for _, l := range [][]int{{}, {0}, {2}, {4}, {0, 2, 4}, {4, 2, 0}, {2, 0}} {
		wantArena(t, fmt.Sprint("Purple ", l), purple(a, l...), true)
		wantArena(t, fmt.Sprint("Purple and Queue ", l), queued(purple(a, l...), l...), true)
	}
	for _, l := range [][]int{{0, 0}, {2, 0, 2}, {0, 2, 2}, {4, 4, 0}, {4, 0, 2, 4}, slices.Repeat([]int{2}, impl.MaxCap), slices.Repeat([]int{2}, impl.MaxCap+1), slices.Repeat([]int{0, 2, 4}, 50000)} {
		wantArena(t, fmt.Sprint("Purple with one twice, ", len(l)), purple(a, l...), false)
	}
	for _, n := range append(noPlaces(5), 1, 3) {
		wantArena(t, fmt.Sprint("Purple with ", n), purple(a, n), false)
		wantArena(t, fmt.Sprint("Purple with ", n, " ahead"), purple(a, n, 0, 2), false)
		wantArena(t, fmt.Sprint("Purple with ", n, " behind"), purple(a, 0, 2, n), false)
	}
	all := []int{15, 0, 14, 1, 13, 2, 12, 3, 11, 4, 10, 5, 9, 6, 8, 7}
	full := slots(impl.MaxCap, thing(1, 1))
	wantArena(t, "Purple with MaxCap", purple(full, all...), true)
	for _, n := range []int{0, 7, 15, 16, -1} {
		wantArena(t, fmt.Sprint("Purple with MaxCap, and ", n), purple(full, append(slices.Clone(all), n)...), false)
	}
	wantArena(t, "Purple of an empty slot", purple(slots(1, hole(0)), 0), false)
}

func TestArenaNew(t *testing.T) {
	for _, n := range append(noPlaces(impl.MaxCap+1), 0) {
		if n == impl.MaxCap {
			continue
		}
		if a, ok := impl.ArenaNew(n); ok || len(a.Slots) > 0 || len(a.Queue) > 0 || len(a.Purple) > 0 {
			t.Errorf("ArenaNew(%d) = %v, %v", n, a, ok)
		}
	}
	for n := 1; n <= impl.MaxCap; n++ {
		a, ok := impl.ArenaNew(n)
		if !ok || len(a.Slots) != n || len(a.Queue) > 0 || len(a.Purple) > 0 {
			t.Errorf("ArenaNew(%d) = %v, %v", n, a, ok)
		}
		for i, s := range a.Slots {
			if s.Live || s.Gen != 0 || s.Count != 0 || len(s.Fields) > 0 {
				t.Errorf("ArenaNew(%d): slot %d is %v", n, i, s)
			}
		}
		wantArena(t, "a new one", a, true)
		if impl.FreeSlots(a) != n || len(impl.LiveSlots(a)) > 0 || !impl.Counted(a, nil) || len(impl.Garbage(a, nil)) > 0 {
			t.Errorf("ArenaNew(%d) has things", n)
		}
		a.Slots[0] = thing(1, 1)
		if b, _ := impl.ArenaNew(n); b.Slots[0].Live {
			t.Errorf("ArenaNew(%d) answers the same memory twice", n)
		}
	}
}

// family has fields of each kind: 0 is the middle of all, 1 and 5 are gone.
func family() impl.Arena {
	return room(
		thing(2, 4, field("a", refTo(2, 3)), field("b", numVal(7)), field("c", refTo(2, 3)), field("d", weakTo(4, 1)), field("e", refTo(0, 2)), field("f", refTo(4, 1)), field("g", nilVal())),
		hole(9),
		thing(3, 2, field("abcdef", refTo(4, 1)), field("b", weakTo(1, 8)), field("new", weakTo(0, 1))),
		thing(1, 1),
		thing(1, 3, field("x", refTo(0, 2)), field("y", numVal(3)), field("z", numVal(math.MinInt))),
		hole(0),
	)
}

func wantInts(t *testing.T, what string, got []int, want ...int) {
	t.Helper()
	if !slices.Equal(got, want) {
		t.Errorf("%s: %v; want %v", what, got, want)
	}
}

func TestChildren(t *testing.T) {
	a := family()
	wantArena(t, "a family", a, true)
	wantInts(t, "of 0", impl.Children(a, 0), 2, 2, 0, 4)
	wantInts(t, "of an empty one", impl.Children(a, 1))
	wantInts(t, "of 2", impl.Children(a, 2), 4)
	wantInts(t, "of one without fields", impl.Children(a, 3))
	wantInts(t, "of 4", impl.Children(a, 4), 0)
	wantInts(t, "of the last", impl.Children(a, 5))
	for _, n := range noPlaces(6) {
		wantInts(t, fmt.Sprint("of ", n), impl.Children(a, n))
	}
	b := room(thing(1, 1), thing(1, 1, field("a", refTo(2, 1)), field("b", refTo(1, 1)), field("c", refTo(0, 1)), field("d", refTo(2, 1))), thing(1, 1))
	wantInts(t, "field by field", impl.Children(b, 1), 2, 1, 0, 2)
	wantInts(t, "queued and purple ones have no more", impl.Children(queued(purple(b, 0, 1), 0, 1, 1), 1), 2, 1, 0, 2)
}

func TestRefs(t *testing.T) {
	a := family()
	wantInts(t, "no roots", impl.Refs(a, nil), 2, 0, 2, 0, 2, 0)
	wantInts(t, "a list of none", impl.Refs(a, vals()), 2, 0, 2, 0, 2, 0)
	wantInts(t, "roots", impl.Refs(a, vals(refTo(3, 1), refTo(0, 2), refTo(3, 1))), 3, 0, 2, 2, 2, 0)
	wantInts(t, "roots that refer to nobody", impl.Refs(a, vals(nilVal(), numVal(3), numVal(0), weakTo(3, 1), weakTo(0, 2), weakTo(1, 9), weakTo(5, 0))), 2, 0, 2, 0, 2, 0)
	wantInts(t, "a queue", impl.Refs(queued(a, 3, 0, 3, 4, 3), nil), 3, 0, 2, 3, 3, 0)
	wantInts(t, "a queue and roots", impl.Refs(queued(a, 3, 2), vals(refTo(3, 1), refTo(2, 3))), 2, 0, 4, 2, 2, 0)
	wantInts(t, "purple ones", impl.Refs(purple(a, 0, 3), nil), 2, 0, 2, 0, 2, 0)
	wantInts(t, "no thing", impl.Refs(room(hole(1), hole(0)), nil), 0, 0)
	wantInts(t, "a thing of itself", impl.Refs(room(thing(1, 5, field("a", refTo(0, 1)), field("b", refTo(0, 1)))), vals(refTo(0, 1))), 3)
	wantInts(t, "most in a queue", impl.Refs(queued(a, slices.Repeat([]int{3}, mostQueue)...), slices.Repeat(vals(refTo(3, 1)), mostRoots)), 2, 0, 2, mostQueue+mostRoots, 2, 0)
}

func TestManyRoots(t *testing.T) {
	a := family()
	for _, v := range []impl.Val{nilVal(), numVal(1), refTo(3, 1), weakTo(3, 1), weakTo(1, 0)} {
		for n, want := range map[int]bool{0: true, 1: true, mostRoots - 1: true, mostRoots: true, mostRoots + 1: false, 2 * mostRoots: false, 1 << 16: false} {
			l := slices.Repeat(vals(v), n)
			wantRoots(t, a, l, want)
			if n > 0 {
				l[n-1] = refTo(1, 9)
				wantRoots(t, a, l, false)
			}
		}
	}
}

func TestCounted(t *testing.T) {
	counts := func(a impl.Arena, l ...int) impl.Arena {
		for i, n := range l {
			a.Slots[i].Count = n
		}
		return a
	}
	roots := vals(refTo(3, 1), nilVal(), refTo(0, 2), numVal(2), refTo(3, 1), weakTo(4, 1))
	just := []int{3, 0, 2, 2, 2, 0}
	if !impl.Counted(counts(family(), just...), roots) {
		t.Error("counts that are just what they are")
	}
	for i, n := range just {
		for _, more := range []int{-1, 1} {
			if n > 0 && impl.Counted(counts(counts(family(), just...), append(slices.Clone(just[:i]), n+more)...), roots) {
				t.Errorf("slot %d: %d more", i, more)
			}
		}
	}
	for i := range roots {
		l := slices.Delete(slices.Clone(roots), i, i+1)
		if impl.Counted(counts(family(), just...), l) != (roots[i].Kind != impl.VlRef) {
			t.Errorf("without root %d", i)
		}
		l = append(l, roots[i])
		if !impl.Counted(counts(family(), just...), l) {
			t.Errorf("with root %d behind all", i)
		}
	}
	if !impl.Counted(queued(counts(family(), 4, 0, 3, 3, 2, 0), 0, 3, 2), roots) || impl.Counted(queued(counts(family(), just...), 3), roots) || !impl.Counted(purple(counts(family(), just...), 3), roots) {
		t.Error("what is queued counts, what is purple does not")
	}
	if impl.Counted(counts(family(), just...), slices.Repeat(roots, 100)) || impl.Counted(family(), nil) {
		t.Error("other roots")
	}
	if !impl.Counted(room(hole(3)), nil) || impl.Counted(room(thing(1, 1)), nil) || !impl.Counted(room(thing(1, 1)), vals(refTo(0, 1))) || !impl.Counted(room(thing(1, 1, field("a", refTo(0, 1)))), nil) {
		t.Error("one slot")
	}
	full := slices.Repeat(vals(refTo(0, 1)), mostRoots)
	if !impl.Counted(room(thing(1, mostRoots)), full) || impl.Counted(room(thing(1, mostRoots+1)), append(full, refTo(0, 1))) {
		t.Error("many roots")
	}
}

func marks(l []bool) string {
	s := ""
	for _, is := range l {
		s += map[bool]string{true: "+", false: "-"}[is]
	}
	return s
}

func wantReached(t *testing.T, a impl.Arena, roots []impl.Val, want string, garbage ...int) {
	t.Helper()
	if got := marks(impl.Reached(a, roots)); got != want {
		t.Errorf("roots %v: Reached %s; want %s", roots, got, want)
	}
	wantInts(t, fmt.Sprint("Garbage of ", roots), impl.Garbage(a, roots), garbage...)
}

func TestReachedAndGarbage(t *testing.T) {
	a := family()
	wantReached(t, a, nil, "------", 0, 2, 3, 4)
	wantReached(t, a, vals(), "------", 0, 2, 3, 4)
	wantReached(t, a, vals(refTo(0, 2)), "+-+-+-", 3)
	wantReached(t, a, vals(refTo(2, 3)), "+-+-+-", 3)
	wantReached(t, a, vals(refTo(4, 1)), "+-+-+-", 3)
	wantReached(t, a, vals(refTo(3, 1)), "---+--", 0, 2, 4)
	wantReached(t, a, vals(refTo(3, 1), refTo(3, 1), refTo(4, 1)), "+-+++-")
	wantReached(t, a, vals(nilVal(), numVal(0), numVal(3), weakTo(3, 1), weakTo(0, 2), weakTo(1, 9), weakTo(5, 0)), "------", 0, 2, 3, 4)
	wantReached(t, a, vals(weakTo(3, 1), refTo(4, 1), numVal(3)), "+-+-+-", 3)
	wantReached(t, queued(purple(a, 3), 3, 3), vals(refTo(4, 1)), "+-+-+-", 3)
	// a weak one keeps nobody, on the way either
	wantReached(t, room(thing(1, 1, field("a", weakTo(1, 1))), thing(1, 1)), vals(refTo(0, 1)), "+-", 1)
	wantReached(t, room(thing(1, 1, field("a", numVal(1))), thing(1, 1)), vals(refTo(0, 1)), "+-", 1)
	wantReached(t, room(thing(1, 1, field("a", weakTo(1, 1)), field("b", refTo(1, 1))), thing(1, 1)), vals(refTo(0, 1)), "++")
	wantReached(t, room(hole(1), hole(2)), nil, "--")
	wantReached(t, slots(impl.MaxCap, thing(1, 1)), vals(refTo(15, 1), refTo(0, 1)), "+--------------+", 1, 2, 3, 4, 5, 6, 7, 8, 9, 10, 11, 12, 13, 14)
}

// To Garbage, no roots at all are told where roots are not right.
func TestGarbageWhereReachedTellsNothing(t *testing.T) {
	a := family()
	for _, roots := range [][]impl.Val{{refTo(0, 1)}, {refTo(0, 2), refTo(1, 9)}, {numVal(1), {Kind: 4}}, {refTo(0, 2), refTo(6, 1)}, slices.Repeat(vals(refTo(0, 2)), mostRoots+1)} {
		wantInts(t, "Garbage", impl.Garbage(a, roots), 0, 2, 3, 4)
		wantRoots(t, a, roots, false)
	}
	wantReached(t, a, slices.Repeat(vals(refTo(0, 2)), mostRoots), "+-+-+-", 3)
}

func TestSlotsAreTold(t *testing.T) {
	a := family()
	wantInts(t, "LiveSlots", impl.LiveSlots(a), 0, 2, 3, 4)
	wantInts(t, "CountsOf", impl.CountsOf(a), 4, 0, 2, 1, 3, 0)
	wantInts(t, "LiveSlots of none", impl.LiveSlots(slots(3, hole(1))))
	wantInts(t, "CountsOf of none", impl.CountsOf(slots(3, hole(1))), 0, 0, 0)
	wantInts(t, "LiveSlots of one", impl.LiveSlots(room(hole(1), thing(1, mostCount))), 1)
	wantInts(t, "CountsOf of one", impl.CountsOf(room(hole(1), thing(1, mostCount))), 0, mostCount)
	wantInts(t, "LiveSlots of all", impl.LiveSlots(slots(impl.MaxCap, thing(2, 3))), 0, 1, 2, 3, 4, 5, 6, 7, 8, 9, 10, 11, 12, 13, 14, 15)
	if impl.FreeSlots(a) != 2 || impl.FreeSlots(slots(impl.MaxCap, thing(1, 1))) != 0 || impl.FreeSlots(slots(impl.MaxCap, hole(0))) != impl.MaxCap || impl.FreeSlots(home()) != 2 {
		t.Error("FreeSlots")
	}
}

func TestFieldCount(t *testing.T) {
	a := family()
	for kind, want := range map[int]int{impl.VlNil: 1, impl.VlNum: 3, impl.VlRef: 6, impl.VlWeak: 3, -1: 0, 4: 0, 5: 0, 1<<32 + 2: 0, 258: 0, math.MinInt: 0, math.MaxInt: 0} {
		if n := impl.FieldCount(a, kind); n != want {
			t.Errorf("FieldCount of %d is %d; want %d", kind, n, want)
		}
		if n := impl.FieldCount(queued(purple(home(), 0), 0, 2), kind); n != 0 {
			t.Errorf("FieldCount of %d is %d where there are no fields", kind, n)
		}
	}
}

func TestArenaText(t *testing.T) {
	for want, a := range map[string]impl.Arena{
		"0 live 4 a>2 b c>2 d e>0 f>4 g\n1 empty\n2 live 2 abcdef>4 b new\n3 live 1\n4 live 3 x>0 y z\n5 empty\n": queued(purple(family(), 0), 3, 3),
		"0 empty\n":            room(hole(0)),
		"0 empty\n1 empty\n":   slots(2, hole(mostCount)),
		"0 live 1\n":           room(thing(1, 1)),
		"0 live 1000000\n":     room(thing(mostCount, mostCount)),
		"0 live 12 a>0\n":      room(thing(1, 12, field("a", refTo(0, 1)))),
		"0 live 1 a b c d>0\n": room(thing(1, 1, field("a", nilVal()), field("b", numVal(12)), field("c", weakTo(0, 1)), field("d", refTo(0, 1)))),
	} {
		if s := string(impl.ArenaText(a)); s != want {
			t.Errorf("%q; want %q", s, want)
		}
	}
	a := slots(impl.MaxCap, hole(1))
	want := ""
	for n := range impl.MaxCap {
		want += fmt.Sprintf("%d empty\n", n)
	}
	a.Slots[15] = thing(2, 3, field("x", refTo(10, 5)), field("y", refTo(15, 2)), field("z", refTo(9, 1)))
	a.Slots[10] = thing(5, 10, field("abc", numVal(15)))
	a.Slots[9] = thing(1, 100)
	want = strings.Replace(want, "15 empty", "15 live 3 x>10 y>15 z>9", 1)
	want = strings.Replace(want, "10 empty", "10 live 10 abc", 1)
	want = strings.Replace(want, "9 empty", "9 live 100", 1)
	if s := impl.ArenaText(a); !bytes.Equal(s, []byte(want)) {
		t.Errorf("%q; want %q", s, want)
	}
}
