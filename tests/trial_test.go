package tests

// Promises 4, 5, 6 and 14: made arenas, and arenas that came of these functions alone, held against a second, plain reckoning.

import (
	"fmt"
	"maps"
	"math/rand"
	"slices"
	"testing"

	"loop.example/g00547/impl"
)

// The plain reckoning asks all of all slots, and keeps fields in a map.

func plainAlloc(a impl.Arena) (impl.Arena, impl.Val, bool) {
	n := slices.IndexFunc(a.Slots, func(s impl.Slot) bool { return !s.Live })
	if n < 0 || a.Slots[n].Gen == mostCount {
		return a, nilVal(), false
	}
	b := copied(a)
	b.Slots[n] = thing(a.Slots[n].Gen+1, 1)
	return b, refTo(n, a.Slots[n].Gen+1), true
}

func plainKeep(a impl.Arena, v impl.Val) (impl.Arena, bool) {
	b := copied(a)
	for n := range b.Slots {
		if refersTo(v, n) {
			b.Slots[n].Count++
		}
	}
	return b, plainArenaOk(b)
}

func plainDrop(a impl.Arena, v impl.Val) (impl.Arena, bool) {
	b := copied(a)
	for n := range b.Slots {
		if refersTo(v, n) {
			b.Queue = append(b.Queue, n)
		}
	}
	return b, plainArenaOk(b)
}

func plainPut(a impl.Arena, v impl.Val, name string, w impl.Val) (impl.Arena, bool) {
	all := map[string]impl.Val{}
	for _, f := range a.Slots[v.N].Fields {
		all[string(f.Name)] = f.V
	}
	had := all[name]
	all[name] = w
	b, _ := plainKeep(a, w)
	b.Slots[v.N].Fields = nil
	for _, s := range slices.Sorted(maps.Keys(all)) {
		b.Slots[v.N].Fields = append(b.Slots[v.N].Fields, field(s, all[s]))
	}
	return plainDrop(b, had)
}

func plainMayDrain(a impl.Arena) bool {
	for n, refs := range plainRefs(a, nil) {
		if a.Slots[n].Live && a.Slots[n].Count < refs {
			return false
		}
	}
	return plainArenaOk(a)
}

func plainDrain(a impl.Arena) (impl.Arena, int) {
	a = copied(a)
	emptied := 0
	for len(a.Queue) > 0 {
		n := a.Queue[0]
		a.Queue = slices.Clone(a.Queue[1:])
		purple := slices.DeleteFunc(slices.Clone(a.Purple), func(p int) bool { return p == n })
		if a.Slots[n].Count == 1 {
			a.Purple = purple
			for _, f := range a.Slots[n].Fields {
				if f.V.Kind == impl.VlRef && f.V.N != n {
					a.Queue = append(a.Queue, f.V.N)
				}
			}
			a.Slots[n] = hole(a.Slots[n].Gen)
			emptied++
			continue
		}
		a.Slots[n].Count--
		if len(purple) == len(a.Purple) {
			a.Purple = append(a.Purple, n)
		}
	}
	return a, emptied
}

// grown adds to some slots, until there are no more, those of among whom one of them refers to.
func grown(a impl.Arena, some []bool) []bool {
	is := slices.Clone(some)
	for range a.Slots {
		for n := range is {
			for from, s := range a.Slots {
				is[n] = is[n] || is[from] && hasRefTo(s, n)
			}
		}
	}
	return is
}

func plainGray(a impl.Arena) []bool {
	is := make([]bool, len(a.Slots))
	for n := range is {
		is[n] = slices.Contains(a.Purple, n)
	}
	return grown(a, is)
}

// refsOf counts the fields of some slots that refer to n.
func refsOf(a impl.Arena, some []bool, n int) int {
	k := 0
	for from, s := range a.Slots {
		for _, f := range s.Fields {
			if some[from] && refersTo(f.V, n) {
				k++
			}
		}
	}
	return k
}

func plainTrial(a impl.Arena) []int {
	var l []int
	grays := plainGray(a)
	for n, s := range a.Slots {
		l = append(l, s.Count-refsOf(a, grays, n))
	}
	return l
}

func plainBlack(a impl.Arena) []bool {
	is := make([]bool, len(a.Slots))
	grays, left := plainGray(a), plainTrial(a)
	for n := range is {
		is[n] = grays[n] && left[n] > 0
	}
	return grown(a, is)
}

func plainWhite(a impl.Arena) []bool {
	l, blacks := plainGray(a), plainBlack(a)
	for n := range l {
		l[n] = l[n] && !blacks[n]
	}
	return l
}

func plainCollect(a impl.Arena) (impl.Arena, int) {
	a, emptied := plainDrain(a)
	whites := plainWhite(a)
	b := copied(a)
	for n, s := range a.Slots {
		if whites[n] {
			b.Slots[n] = hole(s.Gen)
			emptied++
		} else {
			b.Slots[n].Count -= refsOf(a, whites, n)
		}
	}
	b.Purple = nil
	return b, emptied
}

// counted has just the counts that roots make; who would have none gets a root.
func counted(a impl.Arena, roots []impl.Val) (impl.Arena, []impl.Val) {
	a, roots = copied(a), slices.Clone(roots)
	for n, refs := range plainRefs(a, roots) {
		if a.Slots[n].Live && refs == 0 {
			roots = append(roots, refTo(n, a.Slots[n].Gen))
		}
	}
	for n, refs := range plainRefs(a, roots) {
		a.Slots[n].Count = refs
	}
	return a, roots
}

// wantAsBefore: all slots but one, and what is not named, are as they were.
func wantAsBefore(t *testing.T, a, b impl.Arena, but int) {
	t.Helper()
	for n, s := range a.Slots {
		if n != but && !sameSlot(s, b.Slots[n]) {
			t.Fatalf("%v: slot %d is %v", a, n, b.Slots[n])
		}
	}
	if len(a.Slots) != len(b.Slots) || !slices.Equal(a.Queue, b.Queue) || !slices.Equal(a.Purple, b.Purple) {
		t.Fatalf("%v has become %v", a, b)
	}
}

func wantEqual(t *testing.T, what string, a, got, want impl.Arena) {
	t.Helper()
	if !sameArena(got, want) {
		t.Fatalf("%s of %v: %v; want %v", what, a, got, want)
	}
}

// wantMade is promise 4 of Alloc: what is made lies where none was, and is another one than all ahead of it.
func wantMade(t *testing.T, a impl.Arena, roots []impl.Val) (impl.Arena, []impl.Val) {
	t.Helper()
	b, v, ok := impl.Alloc(a)
	want, made, fine := plainAlloc(a)
	wantEqual(t, "Alloc", a, b, want)
	if v != made || ok != fine {
		t.Fatalf("%v: Alloc answers %v, %v; want %v, %v", a, v, ok, made, fine)
	}
	if !ok {
		return b, roots
	}
	for _, x := range allVals(a, roots) {
		if x.Kind >= impl.VlRef && x.N == v.N && x.Gen >= v.Gen {
			t.Fatalf("%v, roots %v: %v is made where %v was", a, roots, v, x)
		}
	}
	wantAsBefore(t, a, b, v.N)
	if a.Slots[v.N].Live || len(b.Slots[v.N].Fields) > 0 || b.Slots[v.N].Count != 1 || !impl.Alive(b, v) || impl.ValOk(a, v) {
		t.Fatalf("%v: %v is made: %v", a, v, b)
	}
	return b, append(slices.Clone(roots), v)
}

// allVals are all values that there are.
func allVals(a impl.Arena, roots []impl.Val) []impl.Val {
	l := slices.Clone(roots)
	for n, s := range a.Slots {
		l = append(l, weakTo(n, s.Gen))
		for _, f := range s.Fields {
			l = append(l, f.V)
		}
	}
	return l
}

type recount func(impl.Arena, impl.Val) (impl.Arena, bool)

func wantRecounted(t *testing.T, what string, does, plain recount, a impl.Arena, v impl.Val) (impl.Arena, bool) {
	t.Helper()
	b, ok := does(a, v)
	want, fine := plain(a, v)
	if !fine {
		want = a
	}
	wantEqual(t, what, a, b, want)
	if ok != fine {
		t.Fatalf("%v: %s of %v answers %v", a, what, v, ok)
	}
	return b, ok
}

func wantKept(t *testing.T, a impl.Arena, v impl.Val) (impl.Arena, bool) {
	t.Helper()
	return wantRecounted(t, "Keep", impl.Keep, plainKeep, a, v)
}

func wantDropped(t *testing.T, a impl.Arena, v impl.Val) (impl.Arena, bool) {
	t.Helper()
	return wantRecounted(t, "Drop", impl.Drop, plainDrop, a, v)
}

// wantGot is promise 4 of PutField: what is put is got, all other fields stay, and stay ascending.
func wantGot(t *testing.T, a impl.Arena, v impl.Val, name string, w impl.Val) (impl.Arena, bool) {
	t.Helper()
	b, ok := impl.PutField(a, v, []byte(name), w)
	want, fine := plainPut(a, v, name, w)
	if !fine {
		want = a
	}
	wantEqual(t, "PutField", a, b, want)
	if ok != fine {
		t.Fatalf("%v: PutField of %v, %s, %v answers %v", a, v, name, w, ok)
	}
	if !ok {
		return b, false
	}
	if got, is := impl.GetField(b, v, []byte(name)); got != w || !is {
		t.Fatalf("%v: %v is put into %s of %v, %v, %v got", a, w, name, v, got, is)
	}
	for n, s := range a.Slots {
		for _, f := range s.Fields {
			if n == v.N && string(f.Name) == name {
				continue
			}
			if got, is := impl.GetField(b, refTo(n, s.Gen), f.Name); got != f.V || !is {
				t.Fatalf("%v: another field, %s of %d, is %v, %v", a, f.Name, n, got, is)
			}
		}
	}
	if !impl.ArenaOk(b) {
		t.Fatalf("%v: behind PutField %v is not ArenaOk", a, b)
	}
	return b, true
}

// wantLeft: all that are left are as they were, but for Count; so many went.
func wantLeft(t *testing.T, a, b impl.Arena, emptied int) {
	t.Helper()
	for n, s := range a.Slots {
		left := b.Slots[n]
		if s.Live && !left.Live {
			emptied--
			s = hole(s.Gen)
		}
		left.Count = s.Count
		if !sameSlot(left, s) {
			t.Fatalf("%v: what is left of %d is %v", a, n, b.Slots[n])
		}
	}
	if emptied != 0 || len(b.Slots) != len(a.Slots) || len(b.Queue) > 0 || !impl.ArenaOk(b) {
		t.Fatalf("%v: what is left is %v, and %d more told", a, b, emptied)
	}
}

// wantDrained is promise 5 of Drain: nothing is queued, and nobody who is reached goes.
func wantDrained(t *testing.T, a impl.Arena, roots []impl.Val) impl.Arena {
	t.Helper()
	b, n := impl.Drain(a)
	want, emptied := plainDrain(a)
	wantEqual(t, "Drain", a, b, want)
	if n != emptied {
		t.Fatalf("%v: Drain empties %d; want %d", a, n, emptied)
	}
	wantLeft(t, a, b, n)
	wantNobodyReachedGone(t, a, b, roots)
	if c, n := impl.Drain(b); n != 0 || !sameArena(c, b) {
		t.Fatalf("%v: drained once more %d go", b, n)
	}
	return b
}

func wantNobodyReachedGone(t *testing.T, a, b impl.Arena, roots []impl.Val) {
	t.Helper()
	for n, is := range plainReached(a, roots) {
		if is && !b.Slots[n].Live {
			t.Fatalf("%v, roots %v: %d is reached, and goes", a, roots, n)
		}
	}
}

// wantCollected is promise 5 of Collect, as far as it holds where nobody who is no longer referred to need be purple.
func wantCollected(t *testing.T, a impl.Arena, roots []impl.Val) impl.Arena {
	t.Helper()
	b, n := impl.Collect(a)
	want, emptied := plainCollect(a)
	wantEqual(t, "Collect", a, b, want)
	if n != emptied {
		t.Fatalf("%v: Collect empties %d; want %d", a, n, emptied)
	}
	wantLeft(t, a, b, n)
	wantNobodyReachedGone(t, a, b, roots)
	if len(b.Purple) > 0 {
		t.Fatalf("%v: %v are purple behind Collect", a, b.Purple)
	}
	if c, n := impl.Collect(b); n != 0 || !sameArena(c, b) {
		t.Fatalf("%v: collected once more %d go", b, n)
	}
	return b
}

// wantColors is promise 14.
func wantColors(t *testing.T, a impl.Arena) {
	t.Helper()
	grays, left := impl.Gray(a), impl.Trial(a)
	if !slices.Equal(grays, plainGray(a)) || !slices.Equal(left, plainTrial(a)) {
		t.Fatalf("%v: Gray %s, Trial %v; want %s, %v", a, marks(grays), left, marks(plainGray(a)), plainTrial(a))
	}
	whites := impl.White(a)
	if len(a.Queue) > 0 || !plainMayDrain(a) {
		if len(whites) > 0 {
			t.Fatalf("%v: White tells %s", a, marks(whites))
		}
		return
	}
	if !slices.Equal(whites, plainWhite(a)) {
		t.Fatalf("%v: White %s; want %s", a, marks(whites), marks(plainWhite(a)))
	}
	b, _ := impl.Collect(a)
	for n, is := range whites {
		if is && (!grays[n] || left[n] != 0 || !a.Slots[n].Live) {
			t.Fatalf("%v: %d is white, gray is %s, left is %v", a, n, marks(grays), left)
		}
		if is != (a.Slots[n].Live && !b.Slots[n].Live) {
			t.Fatalf("%v: %d is white: %v; collected: %v", a, n, is, b)
		}
	}
}

// wantAllCounted does each function to an arena with roots that count; the counts stay just what they are, with the roots that these make.
func wantAllCounted(t *testing.T, m builder, a impl.Arena, roots []impl.Val) {
	t.Helper()
	still := func(what string, b impl.Arena, l []impl.Val) {
		t.Helper()
		if !impl.Counted(b, l) {
			t.Fatalf("%v, roots %v: behind %s of them %v, roots %v, is not Counted", a, roots, what, b, l)
		}
	}
	still("nothing", a, roots)
	b, more := wantMade(t, a, roots)
	still("Alloc", b, more)
	w := m.value(a)
	b, _ = wantKept(t, a, w)
	still("Keep", b, append(slices.Clone(roots), w))
	for i, v := range roots {
		b, _ = wantDropped(t, a, v)
		still("Drop", b, slices.Delete(slices.Clone(roots), i, i+1))
	}
	for n, s := range a.Slots {
		if s.Live {
			b, _ = wantGot(t, a, refTo(n, s.Gen), []string{"a", "b", "if", "y", "abcdef", "zz"}[m.Intn(6)], w)
			still("PutField", b, roots)
		}
	}
	still("Drain", wantDrained(t, a, roots), roots)
	still("Collect", wantCollected(t, a, roots), roots)
}

func TestMadeArenasStayCounted(t *testing.T) {
	m := builder{rand.New(rand.NewSource(13))}
	went, stayed := 0, 0
	for range 3000 {
		a := m.arena()
		a, roots := counted(a, m.roots(a))
		wantAllCounted(t, m, a, roots)
		wantColors(t, a)
		drained, _ := impl.Drain(a)
		wantColors(t, drained)
		if _, n := impl.Collect(drained); n > 0 {
			went++
		} else if len(drained.Purple) > 0 {
			stayed++
		}
	}
	if went < 150 || stayed < 150 {
		t.Errorf("%d with white ones, %d with none: the test sees too few", went, stayed)
	}
}

// Counts that are more than they need be, and such that are less: these may not be drained.
func TestMadeArenasOfAnyCounts(t *testing.T) {
	m := builder{rand.New(rand.NewSource(14))}
	may, not := 0, 0
	for i := range 4000 {
		a := m.arena()
		if i%2 == 0 {
			a, _ = counted(a, nil)
			for n, s := range a.Slots {
				if s.Live && m.Intn(3) == 0 {
					a.Slots[n].Count += m.Intn(3)
				}
			}
		}
		if i%3 == 0 {
			a.Queue = nil
		}
		wantColors(t, a)
		wantMade(t, a, nil)
		v, w := m.value(a), m.value(a)
		wantKept(t, a, v)
		wantDropped(t, a, v)
		if v.Kind == impl.VlRef {
			wantGot(t, a, v, "b", w)
		} else {
			wantNoField(t, "who has no fields", a, v, "b", w)
		}
		if !plainMayDrain(a) {
			wantNotSwept(t, "less than Refs", a)
			not++
			continue
		}
		wantDrained(t, a, nil)
		wantCollected(t, a, nil)
		may++
	}
	if may < 1000 || not < 250 {
		t.Errorf("%d may be drained, %d may not: the test sees too few", may, not)
	}
}

// Each way in which three things may refer to each other, each set of them with a root, each set of them purple.
func TestEachTrialOfThreeThings(t *testing.T) {
	for way := range 1 << 9 {
		a := slots(3, thing(1, 1))
		for n := range 3 {
			for to := range 3 {
				if way>>(3*n+to)&1 == 1 {
					a.Slots[n].Fields = append(a.Slots[n].Fields, field(string([]byte{byte('a' + to)}), refTo(to, 1)))
				}
			}
		}
		for _, roots := range allRoots(a) {
			b, roots := counted(a, roots)
			for set := range 1 << 3 {
				b.Purple = nil
				for n := range 3 {
					if set>>n&1 == 1 {
						b.Purple = append([]int{n}, b.Purple...)
					}
				}
				wantColors(t, b)
				wantCollected(t, b, roots)
			}
		}
	}
}

// A history is an arena that comes of these functions alone, by roots that count.
type history struct {
	builder
	*testing.T
	a     impl.Arena
	roots []impl.Val
	weak  []impl.Val // one of each thing that ever was
	gone  map[impl.Val]bool
}

func (h *history) some() impl.Val {
	switch {
	case len(h.weak) > 0 && h.Intn(5) == 0:
		return h.weak[h.Intn(len(h.weak))]
	case h.Intn(6) == 0:
		return nilVal()
	case h.Intn(6) == 0 || len(h.roots) == 0:
		return numVal(h.Intn(3))
	case h.Intn(4) == 0:
		v := h.roots[h.Intn(len(h.roots))]
		if w, ok := impl.GetField(h.a, v, []byte(h.name())); ok {
			return w
		}
	}
	return h.roots[h.Intn(len(h.roots))]
}

func (h *history) name() string { return []string{"a", "b", "new", "abcdef"}[h.Intn(4)] }

func (h *history) make() {
	b, roots := wantMade(h.T, h.a, h.roots)
	if len(roots) > len(h.roots) {
		v := roots[len(roots)-1]
		h.weak = append(h.weak, weakTo(v.N, v.Gen))
	}
	h.a, h.roots = b, roots
}

func (h *history) keep() {
	v := h.some()
	if b, ok := wantKept(h.T, h.a, v); ok {
		h.a, h.roots = b, append(h.roots, v)
	}
}

func (h *history) drop() {
	if len(h.roots) == 0 {
		return
	}
	i := h.Intn(len(h.roots))
	if b, ok := wantDropped(h.T, h.a, h.roots[i]); ok {
		h.a, h.roots = b, slices.Delete(slices.Clone(h.roots), i, i+1)
	}
}

func (h *history) put() {
	v := h.some()
	if v.Kind == impl.VlRef {
		h.a, _ = wantGot(h.T, h.a, v, h.name(), h.some())
	}
}

func (h *history) drain() {
	h.wantGone(wantDrained(h.T, h.a, h.roots))
	wantColors(h.T, h.a)
}

// collect leaves just those whom roots reach.
func (h *history) collect() {
	reached := plainReached(h.a, h.roots)
	h.wantGone(wantCollected(h.T, h.a, h.roots))
	for n, s := range h.a.Slots {
		if s.Live != reached[n] {
			h.Fatalf("%v, roots %v: %d is left, or is not", h.a, h.roots, n)
		}
	}
	if len(impl.Garbage(h.a, h.roots)) > 0 {
		h.Fatalf("%v, roots %v: %v are garbage", h.a, h.roots, impl.Garbage(h.a, h.roots))
	}
}

// wantGone goes on with what is left, and knows who went.
func (h *history) wantGone(b impl.Arena) {
	for n, s := range h.a.Slots {
		if s.Live && !b.Slots[n].Live {
			h.gone[weakTo(n, s.Gen)] = true
		}
	}
	h.a = b
}

// look is promise 6, and that counts are just what they are.
func (h *history) look() {
	for _, v := range h.weak {
		if impl.Alive(h.a, v) == h.gone[v] || impl.Alive(h.a, refTo(v.N, v.Gen)) == h.gone[v] || !impl.ValOk(h.a, v) {
			h.Fatalf("%v: %v is alive, and gone: %v", h.a, v, h.gone[v])
		}
	}
	if !impl.Counted(h.a, h.roots) {
		h.Fatalf("%v, roots %v: is not Counted", h.a, h.roots)
	}
}

func TestHistories(t *testing.T) {
	r := builder{rand.New(rand.NewSource(15))}
	went, again := 0, 0
	for i := range 240 {
		a, _ := impl.ArenaNew(1 + i%impl.MaxCap)
		h := &history{r, t, a, nil, nil, map[impl.Val]bool{}}
		does := []func(){h.make, h.make, h.make, h.keep, h.drop, h.drop, h.put, h.put, h.put, h.put, h.drain, h.collect}
		if i%3 == 0 {
			does = append(does, h.drop, h.drop, h.put, h.put) // more comes together, less stays
		}
		for range 150 {
			does[r.Intn(len(does))]()
			h.look()
		}
		went += len(h.gone)
		h.collect()
		h.look()
		for len(h.roots) > 0 {
			h.drop()
		}
		h.collect()
		if impl.FreeSlots(h.a) != len(h.a.Slots) {
			t.Fatalf("%v is left without roots", h.a)
		}
		for _, s := range h.a.Slots {
			again = max(again, s.Gen)
		}
	}
	if went < 2000 || again < 10 {
		t.Errorf("%d went, %d in one slot at most: the test sees too few", went, again)
	}
}

// Whoever goes, by Drain or by Collect, is not alive, whatever is made where that lay.
func TestWeakOnes(t *testing.T) {
	for what, sweep := range map[string]func(impl.Arena) (impl.Arena, int){"Drain": impl.Drain, "Collect": impl.Collect} {
		for _, round := range []bool{false, true} {
			if round && what == "Drain" {
				continue // a round that is only drained stays
			}
			a, _ := impl.ArenaNew(2)
			a, holder, _ := impl.Alloc(a)
			var old []impl.Val
			for gen := 1; gen <= 5; gen++ {
				b, v, _ := impl.Alloc(a)
				w := weakTo(v.N, v.Gen)
				b, ok := impl.PutField(b, holder, []byte("w"), w)
				if round {
					b, _ = impl.PutField(b, v, []byte("self"), v)
				}
				b, fine := impl.Drop(b, v)
				if v != refTo(1, gen) || !ok || !fine || !impl.Alive(b, w) {
					t.Fatalf("%s: %v is made, %v, %v", what, v, ok, fine)
				}
				c, n := sweep(b)
				if n != 1 || impl.Alive(c, w) || impl.Alive(c, v) || !impl.ValOk(c, w) || impl.ValOk(c, v) {
					t.Fatalf("%s: %d went, %v is alive: %v", what, n, w, impl.Alive(c, w))
				}
				if got, ok := impl.GetField(c, holder, []byte("w")); got != w || !ok {
					t.Fatalf("%s: the weak one is %v, %v", what, got, ok)
				}
				old = append(old, w)
				d, _, _ := impl.Alloc(c)
				for _, x := range old {
					if impl.Alive(c, x) || impl.Alive(d, x) {
						t.Fatalf("%s: %v is alive once more", what, x)
					}
				}
				a = c
			}
		}
	}
}

// laidOut is each list of an arena, names first, as one text; with over it is written over, with the room behind it, once it is copied.
func laidOut(a impl.Arena, over bool) string {
	if !over {
		a = copied(a)
	}
	s := ""
	for _, x := range a.Slots {
		for _, f := range x.Fields {
			s += overwritten(f.Name, '!')
		}
	}
	for _, x := range a.Slots {
		var l []impl.Val
		for _, f := range x.Fields {
			l = append(l, f.V)
		}
		s += fmt.Sprint(l)
		overwritten(x.Fields, field("q", refTo(-9, 9)))
	}
	s += overwritten(a.Queue, -9) + overwritten(a.Purple, -9)
	for _, x := range a.Slots {
		s += fmt.Sprint(x.Live, x.Gen, x.Count)
	}
	overwritten(a.Slots, impl.Slot{Live: true, Gen: -9})
	return s
}

// countAnswers are all that chapter 5 tells, as texts; each answer is written over, list by list.
func countAnswers(t *testing.T, a impl.Arena, v impl.Val, name []byte, w impl.Val) []string {
	t.Helper()
	var l []string
	add := func(b impl.Arena, more ...any) {
		t.Helper()
		want := laidOut(b, false)
		if got := laidOut(b, true); got != want {
			t.Fatalf("of %v: two lists of an answer share memory: %s; want %s", a, got, want)
		}
		l = append(l, want+fmt.Sprint(more...))
	}
	b, made, ok := impl.Alloc(a)
	add(b, made, ok)
	b, ok = impl.Keep(a, v)
	add(b, ok)
	b, ok = impl.Drop(a, v)
	add(b, ok)
	b, ok = impl.PutField(a, v, name, w)
	add(b, ok)
	got, ok := impl.GetField(a, v, name)
	l = append(l, fmt.Sprint(got, ok))
	b, n := impl.Drain(a)
	add(b, n)
	b, n = impl.Collect(a)
	add(b, n)
	return append(l, overwritten(impl.White(a), true), overwritten(impl.Gray(a), true), overwritten(impl.Trial(a), -9))
}

func wantOnlyRead(t *testing.T, a impl.Arena, v impl.Val, name string, w impl.Val) {
	t.Helper()
	var k shelf
	b, s := k.arena(a), k.name([]byte(name))
	before := k.picture()
	got := countAnswers(t, b, v, s, w)
	if k.picture() != before {
		t.Fatalf("%v, %v, %s, %v: something is changed", a, v, name, w)
	}
	want := countAnswers(t, a, v, []byte(name), w)
	if !slices.Equal(got, want) || !slices.Equal(countAnswers(t, b, v, s, w), want) {
		t.Fatalf("%v, %v, %s, %v: what lies behind the lists is read, or an answer is kept", a, v, name, w)
	}
}

func TestCountingOnlyReads(t *testing.T) {
	m := builder{rand.New(rand.NewSource(16))}
	for i := range 2000 {
		a := m.arena()
		if i%2 == 0 {
			a, _ = counted(a, m.roots(a))
		}
		if i%6 == 1 {
			a = m.changed(a)
		}
		if i%5 == 0 {
			a.Queue = nil
		}
		wantOnlyRead(t, a, m.value(a), []string{"a", "b", "q", "abcdef", "if", "A", ""}[m.Intn(7)], m.value(a))
	}
}

// Where an answer is a and false, it is as new as any.
func TestRefusedArenasAreNewToo(t *testing.T) {
	full := []impl.Field{field("a", refTo(0, 1)), field("b", weakTo(1, 3)), field("c", nilVal())}
	for what, a := range map[string]impl.Arena{
		"no slot left":          purple(room(thing(1, mostCount, full...), thing(3, 2)), 1, 0),
		"no Gen left":           purple(room(thing(1, mostCount, full...), hole(mostCount)), 0),
		"no room in Queue left": queued(purple(room(thing(1, mostCount, full...), thing(3, 2)), 1, 0), slices.Repeat([]int{0}, mostQueue)...),
	} {
		for _, name := range []string{"a", "d"} {
			wantOnlyRead(t, a, refTo(0, 1), name, refTo(0, 1))
		}
		if b, _, ok := impl.Alloc(a); ok || !sameArena(b, a) {
			t.Errorf("%s: Alloc answers %v, %v", what, b, ok)
		}
		if b, ok := impl.Keep(a, refTo(0, 1)); ok || !sameArena(b, a) {
			t.Errorf("%s: Keep answers %v, %v", what, b, ok)
		}
		if b, ok := impl.PutField(a, refTo(0, 1), []byte("a"), refTo(0, 1)); ok || !sameArena(b, a) {
			t.Errorf("%s: PutField answers %v, %v", what, b, ok)
		}
	}
}
