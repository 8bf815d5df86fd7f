package tests

// Promise 3, and 4 and 6 as far as chapter 4 goes: made arenas, held against a second, plain reckoning.

import (
	"fmt"
	"math/rand"
	"slices"
	"testing"

	"loop.example/g00547/impl"
)

func refersTo(v impl.Val, n int) bool { return v.Kind == impl.VlRef && v.N == n }

func hasRefTo(s impl.Slot, n int) bool {
	return slices.ContainsFunc(s.Fields, func(f impl.Field) bool { return refersTo(f.V, n) })
}

// plainReached asks each slot again and again whether it is referred to by one that is reached.
func plainReached(a impl.Arena, roots []impl.Val) []bool {
	is := make([]bool, len(a.Slots))
	for range a.Slots {
		for n := range a.Slots {
			if slices.ContainsFunc(roots, func(v impl.Val) bool { return refersTo(v, n) }) {
				is[n] = true
			}
			for from, s := range a.Slots {
				if is[from] && hasRefTo(s, n) {
					is[n] = true
				}
			}
		}
	}
	return is
}

func plainRefs(a impl.Arena, roots []impl.Val) []int {
	l := make([]int, len(a.Slots))
	for n := range l {
		for _, v := range roots {
			if refersTo(v, n) {
				l[n]++
			}
		}
		for _, s := range a.Slots {
			for _, f := range s.Fields {
				if refersTo(f.V, n) {
					l[n]++
				}
			}
		}
		for _, q := range a.Queue {
			if q == n {
				l[n]++
			}
		}
	}
	return l
}

// plainOk: is a value, or an arena, as chapter 4 wants it?
func plainValOk(a impl.Arena, v impl.Val) bool {
	for n, s := range a.Slots {
		if v == refTo(n, v.Gen) && s.Live && s.Gen == v.Gen || v == weakTo(n, v.Gen) && v.Gen >= 0 && v.Gen <= s.Gen {
			return true
		}
	}
	return v == nilVal() || v == numVal(v.N)
}

func plainSlotOk(a impl.Arena, s impl.Slot) bool {
	if s.Gen < 0 || s.Gen > mostCount || s.Count < 0 || s.Count > mostCount || s.Live && (s.Gen == 0 || s.Count == 0) || !s.Live && (s.Count > 0 || len(s.Fields) > 0) {
		return false
	}
	var names []string
	for _, f := range s.Fields {
		if !impl.WordOk(f.Name) || !plainValOk(a, f.V) {
			return false
		}
		names = append(names, string(f.Name))
	}
	return slices.IsSorted(names) && len(slices.Compact(names)) == len(s.Fields)
}

func plainArenaOk(a impl.Arena) bool {
	if len(a.Slots) == 0 || len(a.Slots) > impl.MaxCap || len(a.Queue) > mostQueue || len(a.Purple) > impl.MaxCap {
		return false
	}
	for _, s := range a.Slots {
		if !plainSlotOk(a, s) {
			return false
		}
	}
	for _, n := range append(slices.Clone(a.Queue), a.Purple...) {
		if n < 0 || n >= len(a.Slots) || !a.Slots[n].Live {
			return false
		}
	}
	l := slices.Sorted(slices.Values(a.Purple))
	return len(slices.Compact(l)) == len(a.Purple)
}

// wantReckoned holds all that chapter 4 tells of an arena that is right, with roots that are, against the plain reckoning.
func wantReckoned(t *testing.T, a impl.Arena, roots []impl.Val) {
	t.Helper()
	reached, refs := plainReached(a, roots), plainRefs(a, roots)
	if got := impl.Reached(a, roots); !slices.Equal(got, reached) {
		t.Fatalf("%v, roots %v: Reached %s; want %s", a, roots, marks(got), marks(reached))
	}
	if got := impl.Refs(a, roots); !slices.Equal(got, refs) {
		t.Fatalf("%v, roots %v: Refs %v; want %v", a, roots, got, refs)
	}
	var live, counts, garbage []int
	counted := true
	for n, s := range a.Slots {
		counts = append(counts, s.Count)
		if !s.Live {
			continue
		}
		live = append(live, n)
		counted = counted && s.Count == refs[n]
		if !reached[n] {
			garbage = append(garbage, n)
		}
	}
	if !slices.Equal(impl.LiveSlots(a), live) || !slices.Equal(impl.CountsOf(a), counts) || !slices.Equal(impl.Garbage(a, roots), garbage) || impl.FreeSlots(a) != len(a.Slots)-len(live) {
		t.Fatalf("%v, roots %v: live %v, counts %v, garbage %v, %d are free", a, roots, impl.LiveSlots(a), impl.CountsOf(a), impl.Garbage(a, roots), impl.FreeSlots(a))
	}
	if impl.Counted(a, roots) != counted {
		t.Fatalf("%v, roots %v: Counted is not %v", a, roots, counted)
	}
}

// wantPromise3: who is reached is a root, or referred to by who is, and live; live slots and free ones are all; garbage is reached by nobody.
func wantPromise3(t *testing.T, a impl.Arena, roots []impl.Val) {
	t.Helper()
	reached, live, garbage := impl.Reached(a, roots), impl.LiveSlots(a), impl.Garbage(a, roots)
	for n, is := range reached {
		isRoot := slices.ContainsFunc(roots, func(v impl.Val) bool { return refersTo(v, n) })
		isChild := false
		for from, too := range reached {
			isChild = isChild || too && slices.Contains(impl.Children(a, from), n)
		}
		if is != (isRoot || isChild) || is && !slices.Contains(live, n) {
			t.Fatalf("%v, roots %v: %d is reached: %v", a, roots, n, is)
		}
		if slices.Contains(garbage, n) == is && slices.Contains(live, n) || slices.Contains(garbage, n) && !slices.Contains(live, n) {
			t.Fatalf("%v, roots %v: %d is in Garbage %v, and reached: %v", a, roots, n, garbage, is)
		}
	}
	if len(reached) != len(a.Slots) || len(live)+impl.FreeSlots(a) != len(a.Slots) {
		t.Fatalf("%v: %d reached, %d live, %d free", a, len(reached), len(live), impl.FreeSlots(a))
	}
}

// allRoots are references to each set of live slots.
func allRoots(a impl.Arena) [][]impl.Val {
	l := [][]impl.Val{nil}
	for n, s := range a.Slots {
		if !s.Live {
			continue
		}
		for _, roots := range l {
			l = append(l, append(slices.Clone(roots), refTo(n, s.Gen)))
		}
	}
	return l
}

// Each way in which three things may refer to each other, with each set of them as roots.
func TestEachRoomOfThreeThings(t *testing.T) {
	for way := range 1 << 9 {
		a := slots(3, thing(1, 1))
		for n := range 3 {
			a.Slots[n].Fields = nil
			for to := range 3 {
				if way>>(3*n+to)&1 == 1 {
					a.Slots[n].Fields = append(a.Slots[n].Fields, field(string([]byte{byte('a' + to)}), refTo(to, 1)))
				}
			}
		}
		for _, roots := range allRoots(a) {
			wantReckoned(t, a, roots)
			wantPromise3(t, a, roots)
		}
	}
}

// shaped has a thing in each of n slots, and from each to those that tell says.
func shaped(n int, tell func(n int) []int) impl.Arena {
	a := slots(n, thing(1, 1))
	for i := range n {
		a.Slots[i].Gen = 1 + i
	}
	for i := range n {
		a.Slots[i].Fields = nil
		for k, to := range tell(i) {
			a.Slots[i].Fields = append(a.Slots[i].Fields, field(string([]byte{byte('a' + k)}), refTo(to, 1+to)))
		}
	}
	return a
}

func TestRoomsOfAllShapes(t *testing.T) {
	for what, tell := range map[string]func(n, size int) []int{
		"a chain":          func(n, size int) []int { return append([]int{}, n+1)[:min(1, size-1-n)] },
		"a chain back":     func(n, size int) []int { return []int{n - 1}[:min(1, n)] },
		"a ring":           func(n, size int) []int { return []int{(n + 1) % size} },
		"a ring back":      func(n, size int) []int { return []int{(n + size - 1) % size} },
		"rings of two":     func(n, size int) []int { return []int{min(n^1, size-1)} },
		"rings of one":     func(n, size int) []int { return []int{n, n} },
		"a ring by threes": func(n, size int) []int { return []int{(n + 3) % size} },
		"all of one":       func(n, size int) []int { return []int{0} },
		"one of all":       func(n, size int) []int { return []int{0, size / 2, size - 1}[:3*min(1, max(0, 1-n))] },
		"a tree": func(n, size int) []int {
			return slices.DeleteFunc([]int{2*n + 1, 2*n + 2}, func(i int) bool { return i >= size })
		},
		"a tree to its top": func(n, size int) []int { return []int{n / 2, n / 2} },
		"halves in rings":   func(n, size int) []int { return []int{(n + 2) % max(2, size/2*2) % size} },
	} {
		for size := 1; size <= impl.MaxCap; size++ {
			a := shaped(size, func(n int) []int { return tell(n, size) })
			if !impl.ArenaOk(a) {
				t.Fatalf("%s of %d is not ArenaOk", what, size)
			}
			wantReckoned(t, a, nil)
			for n := range size {
				for _, other := range []int{0, size / 2, size - 1} {
					roots := vals(refTo(n, 1+n), weakTo((n+1)%size, 1), numVal(other), refTo(other, 1+other))
					wantReckoned(t, a, roots)
					wantReckoned(t, a, roots[:3])
					wantPromise3(t, a, roots[:3])
				}
			}
		}
	}
}

// A builder makes arenas that are right.
type builder struct{ *rand.Rand }

func (m builder) value(a impl.Arena) impl.Val {
	n := m.Intn(len(a.Slots))
	switch m.Intn(6) {
	case 0:
		return nilVal()
	case 1:
		return numVal(ends[m.Intn(len(ends))])
	case 2:
		return weakTo(n, m.Intn(a.Slots[n].Gen+1))
	}
	if a.Slots[n].Live {
		return refTo(n, a.Slots[n].Gen)
	}
	return numVal(n)
}

func (m builder) roots(a impl.Arena) []impl.Val {
	var l []impl.Val
	for range m.Intn(4) {
		l = append(l, m.value(a))
	}
	return l
}

func (m builder) arena() impl.Arena {
	a := slots(1+m.Intn(impl.MaxCap), hole(0))
	share := 1 + m.Intn(9)
	for i := range a.Slots {
		a.Slots[i] = hole(m.Intn(5))
		if m.Intn(10) < share {
			a.Slots[i] = thing(1+m.Intn(5), 1+m.Intn(4))
		}
	}
	most := 1 + m.Intn(3)
	for i, s := range a.Slots {
		for _, n := range []string{"a", "abcdef", "b", "if", "z"} {
			if s.Live && m.Intn(4) < most {
				a.Slots[i].Fields = append(a.Slots[i].Fields, field(n, m.value(a)))
			}
		}
		if s.Live && m.Intn(3) == 0 {
			a.Queue = append(a.Queue, slices.Repeat([]int{i}, 1+m.Intn(2))...)
		}
		if s.Live && m.Intn(3) == 0 {
			a.Purple = append(a.Purple, i)
		}
	}
	m.Shuffle(len(a.Queue), func(i, j int) { a.Queue[i], a.Queue[j] = a.Queue[j], a.Queue[i] })
	m.Shuffle(len(a.Purple), func(i, j int) { a.Purple[i], a.Purple[j] = a.Purple[j], a.Purple[i] })
	return a
}

func TestMadeRooms(t *testing.T) {
	m := builder{rand.New(rand.NewSource(8))}
	some, none := 0, 0
	for range 20000 {
		a := m.arena()
		roots := m.roots(a)
		if !impl.ArenaOk(a) {
			t.Fatalf("%v is not ArenaOk", a)
		}
		wantReckoned(t, a, roots)
		wantPromise3(t, a, roots)
		if g := impl.Garbage(a, roots); len(g) == 0 {
			none++
		} else if len(g) < len(impl.LiveSlots(a)) {
			some++
		}
	}
	if some < 1000 || none < 1000 {
		t.Errorf("%d with some garbage, %d with none: the test sees too few", some, none)
	}
}

// Counted asks of each live slot just what it is counted.
func TestMadeCounts(t *testing.T) {
	m := builder{rand.New(rand.NewSource(9))}
	for range 6000 {
		a := m.arena()
		a, roots := counted(a, m.roots(a))
		if !impl.Counted(a, roots) {
			t.Fatalf("%v, roots %v: Counted is false", a, roots)
		}
		for n, s := range a.Slots {
			for _, more := range []int{-1, 1} {
				a.Slots[n].Count = s.Count + more
				if impl.Counted(a, roots) {
					t.Fatalf("%v, roots %v: Counted with %d more of %d", a, roots, more, n)
				}
			}
			a.Slots[n].Count = s.Count
		}
	}
}

// changed has one thing of an arena changed at random; so it may be right as before, or not.
func (m builder) changed(a impl.Arena) impl.Arena {
	n := m.Intn(len(a.Slots))
	s := &a.Slots[n]
	some := []int{-1, 0, 1, 2, 3, 4, len(a.Slots) - 1, len(a.Slots), n, mostCount, mostCount + 1}
	any := func() int { return some[m.Intn(len(some))] }
	switch m.Intn(9) {
	case 0:
		s.Gen = any()
	case 1:
		s.Count = any()
	case 2:
		s.Live = !s.Live
	case 3:
		s.Fields = append(s.Fields, field([]string{"", "a", "c", "zz", "zzzzzzz", "A"}[m.Intn(6)], m.value(a)))
	case 4:
		a.Queue = append(a.Queue, any())
	case 5:
		a.Purple = append(a.Purple, any())
	case 6:
		a.Slots = append(a.Slots, hole(m.Intn(3)))
	default:
		if len(s.Fields) == 0 {
			return a
		}
		f := &s.Fields[m.Intn(len(s.Fields))]
		if m.Intn(3) == 0 {
			f.Name = []byte([]string{"", "a", "c", "zz", "zzzzzzz", "A"}[m.Intn(6)])
			return a
		}
		*[]*int{&f.V.Kind, &f.V.N, &f.V.Gen}[m.Intn(3)] = any()
	}
	return a
}

func TestArenaOkOfChangedRooms(t *testing.T) {
	m := builder{rand.New(rand.NewSource(10))}
	right, wrong := 0, 0
	for range 12000 {
		a := m.arena()
		for range 1 + m.Intn(2) {
			a = m.changed(a)
		}
		want := plainArenaOk(a)
		wantArena(t, fmt.Sprint(a), a, want)
		if want {
			wantReckoned(t, a, nil)
			right++
		} else {
			wrong++
		}
	}
	if right < 1500 || wrong < 1500 {
		t.Errorf("%d are right, %d are wrong: the test sees too few", right, wrong)
	}
}

// A weak one is alive just where its thing lies; who is alive is right; promise 6.
func TestMadeValues(t *testing.T) {
	m := builder{rand.New(rand.NewSource(11))}
	for range 1000 {
		a := m.arena()
		for n := -1; n <= len(a.Slots); n++ {
			for gen := -1; gen <= 6; gen++ {
				is := n >= 0 && n < len(a.Slots) && a.Slots[n].Live && a.Slots[n].Gen == gen
				if impl.Alive(a, weakTo(n, gen)) != is || impl.Alive(a, refTo(n, gen)) != is || impl.ValOk(a, refTo(n, gen)) != is {
					t.Fatalf("%v: %d with Gen %d is not alive, or is", a, n, gen)
				}
				if impl.ValOk(a, weakTo(n, gen)) != plainValOk(a, weakTo(n, gen)) {
					t.Fatalf("%v: a weak one of %d with Gen %d is not right, or is", a, n, gen)
				}
			}
		}
	}
}

// What a function answers is new memory, and an argument stays as it was.

// A shelf makes arenas anew with spare room behind each of their lists, and knows all of this memory.
type shelf struct {
	names  [][]byte
	fields [][]impl.Field
	slots  [][]impl.Slot
	ints   [][]int
	vals   [][]impl.Val
}

func (k *shelf) numbers(l []int) []int {
	whole := append(slices.Clone(l), 0, 0)
	k.ints = append(k.ints, whole)
	return whole[:len(l)]
}

func (k *shelf) values(l []impl.Val) []impl.Val {
	whole := append(slices.Clone(l), refTo(0, 1), refTo(-7, 7))
	k.vals = append(k.vals, whole)
	return whole[:len(l)]
}

func (k *shelf) name(b []byte) []byte {
	whole := append(slices.Clone(b), "zz"...)
	k.names = append(k.names, whole)
	return whole[:len(b)]
}

func (k *shelf) arena(a impl.Arena) impl.Arena {
	var all []impl.Slot
	for _, s := range a.Slots {
		var l []impl.Field
		for _, f := range s.Fields {
			l = append(l, impl.Field{Name: k.name(f.Name), V: f.V})
		}
		l = append(l, field("spare", refTo(0, 1)))
		k.fields = append(k.fields, l)
		s.Fields = l[:len(s.Fields)]
		all = append(all, s)
	}
	all = append(all, thing(7, 7, field("spare", refTo(0, 1))))
	k.slots = append(k.slots, all)
	return impl.Arena{Slots: all[:len(a.Slots)], Queue: k.numbers(a.Queue), Purple: k.numbers(a.Purple)}
}

// picture shows all of the memory, with what lies behind the lists.
func (k *shelf) picture() string { return fmt.Sprint(*k) }

// overwritten shows a list as text, and then writes over all of it and of the room behind it.
func overwritten[T any](l []T, with T) string {
	s := fmt.Sprint(l)
	for i := range l[:cap(l)] {
		l[:cap(l)][i] = with
	}
	return s
}

// roomAnswers are all that is told of an arena, as one text; each answer is written over once it is copied.
func roomAnswers(a impl.Arena, roots []impl.Val) string {
	s := fmt.Sprint(impl.ArenaOk(a), impl.Counted(a, roots), impl.FreeSlots(a), impl.FieldCount(a, impl.VlRef), impl.FieldCount(a, impl.VlNil), impl.Alive(a, refTo(0, 1)), impl.ValOk(a, weakTo(0, 1)))
	s += overwritten(impl.Refs(a, roots), -9) + overwritten(impl.Reached(a, roots), true) + overwritten(impl.ArenaText(a), '!')
	s += overwritten(impl.LiveSlots(a), -9) + overwritten(impl.CountsOf(a), -9) + overwritten(impl.Garbage(a, roots), -9)
	for n := range a.Slots {
		s += overwritten(impl.Children(a, n), -9)
	}
	return s
}

func TestRoomsAreOnlyRead(t *testing.T) {
	m := builder{rand.New(rand.NewSource(12))}
	for i := range 3000 {
		a := m.arena()
		roots := m.roots(a)
		if i%4 == 0 {
			a = m.changed(a)
		}
		if i%7 == 0 {
			roots = append(roots, refTo(0, 9))
		}
		var k shelf
		b, with := k.arena(a), k.values(roots)
		before := k.picture()
		got := roomAnswers(b, with)
		if k.picture() != before {
			t.Fatalf("%v, roots %v: something is changed", a, roots)
		}
		if want := roomAnswers(a, roots); got != want || roomAnswers(b, with) != want {
			t.Fatalf("%v, roots %v: what lies behind the lists is read, or an answer is kept", a, roots)
		}
	}
}

// Answers that were told ahead stay as they are when a later one, or the arena, is written over.
func TestRoomAnswersAreApart(t *testing.T) {
	a, roots := family(), vals(refTo(0, 2))
	of := func() []any {
		return []any{impl.Refs(a, roots), impl.Reached(a, roots), impl.ArenaText(a), impl.LiveSlots(a), impl.CountsOf(a), impl.Garbage(a, roots), impl.Children(a, 0)}
	}
	first := of()
	before := fmt.Sprint(first)
	roomAnswers(a, roots)
	if fmt.Sprint(first) != before {
		t.Errorf("an answer changes with a later one: %v", first)
	}
	for i := range a.Slots {
		overwritten(a.Slots[i].Fields, field("q", nilVal()))
	}
	overwritten(a.Slots, hole(1))
	overwritten(roots, nilVal())
	if fmt.Sprint(first) != before {
		t.Errorf("an answer changes with the arena: %v", first)
	}
}
