package tests

// Promise 7 of bytes: made codes come back from their bytes, and whatever bytes are read are just a code's.

import (
	"bytes"
	"fmt"
	"math/rand"
	"slices"
	"testing"

	"loop.example/g00547/impl"
)

// plainRead goes by places in the bytes; it is false where there are too few, or too many, or the code may not be.
func plainRead(b []byte) (impl.Code, bool) {
	at := 0
	next := func(size int) int {
		n := 0
		for i := at; i < at+size; i++ {
			n *= 256
			if i < len(b) {
				n += int(b[i])
			}
		}
		at += size
		return n
	}
	var c impl.Code
	units := next(1)
	if units > 4 {
		return c, false
	}
	for range units {
		u := impl.Unit{Params: next(1), Regs: next(1)}
		orders := next(3)
		if orders > 300 {
			return c, false
		}
		for range orders {
			o := impl.Ins{Op: next(1), A: next(3), B: next(3), C: next(3)}
			for range next(1) {
				o.Name = append(o.Name, byte(next(1)))
			}
			u.L = append(u.L, o)
		}
		c.Units = append(c.Units, u)
	}
	return c, at == len(b) && plainCodeOk(c)
}

// wantRead: it is read just where there is a code whose bytes these are.
func wantRead(t *testing.T, b []byte) bool {
	t.Helper()
	c, ok := impl.CodeRead(b)
	want, fine := plainRead(b)
	if ok != fine {
		t.Fatalf("%v: CodeRead is %v", b, ok)
	}
	if !ok {
		if len(c.Units) > 0 {
			t.Fatalf("%v: false, and %v", b, c)
		}
		return false
	}
	again, is := impl.CodeBytes(c)
	if !sameCode(c, want) || !impl.CodeOk(c) || !is || !bytes.Equal(again, b) {
		t.Fatalf("%v: from it comes %v, whose bytes are %v, %v", b, c, again, is)
	}
	return true
}

func wantNoCode(t *testing.T, what string, b []byte) {
	t.Helper()
	if c, ok := impl.CodeRead(b); ok || len(c.Units) > 0 {
		t.Errorf("%s: %v is read as %v, %v", what, b, c, ok)
	}
}

func TestCodeReadRefused(t *testing.T) {
	wantNoCode(t, "nothing", nil)
	wantNoCode(t, "nothing", []byte{})
	one := []byte{1, 0, 1, 0, 0, 1, 11, 0, 0, 0, 0, 0, 0, 0, 0, 0, 0}
	if !wantRead(t, one) {
		t.Fatal("the least code is not read")
	}
	for n := range one {
		wantNoCode(t, fmt.Sprint(n, " bytes"), one[:n])
		wantNoCode(t, fmt.Sprint("without the first ", n+1), one[n+1:])
	}
	for _, s := range []string{"\x00", "\x01", "\x0b", "a", "\x00\x00\x00\x00\x00\x00\x00\x00\x00\x00\x00", string(one)} {
		wantNoCode(t, "one behind", append(slices.Clone(one), s...))
		wantNoCode(t, "one ahead", append([]byte(s), one...))
	}
	unit := one[1:]
	for n := range 8 {
		b := append([]byte{byte(n)}, bytes.Repeat(unit, n)...)
		if wantRead(t, b) != (1 <= n && n <= 4) {
			t.Errorf("%d units: it is read, or is not", n)
		}
		wantNoCode(t, "one unit less", append([]byte{byte(n + 1)}, bytes.Repeat(unit, n)...))
		wantNoCode(t, "one unit more", append([]byte{byte(n)}, bytes.Repeat(unit, n+1)...))
	}
	wantNoCode(t, "255 units", append([]byte{255}, bytes.Repeat(unit, 255)...))
	wantNoCode(t, "only zeros", make([]byte, 10000))
	wantNoCode(t, "only 255s", bytes.Repeat([]byte{255}, 10000))
}

func TestCodeReadOfCounts(t *testing.T) {
	order := make([]byte, 11)
	last := append([]byte{11}, make([]byte, 10)...)
	for _, has := range []int{0, 1, 2, 255, 256, 257, 299, 300, 301, 302, 1000} {
		var l []byte
		if has > 0 {
			l = append(bytes.Repeat(order, has-1), last...)
		}
		for _, told := range []int{0, has - 1, has, has + 1, has + 256, has + 65536, 1<<24 - 1} {
			b := append([]byte{1, 0, 1, byte(told >> 16), byte(told >> 8), byte(told)}, l...)
			want := told == has && 1 <= has && has <= 300
			if wantRead(t, b) != want {
				t.Errorf("%d orders, %d told: it is not %v", has, told, want)
			}
		}
	}
	ahead := []byte{1, 0, 1, 0, 0, 2, 5, 0, 0, 0, 0, 0, 0, 0, 0, 0}
	for size := range 9 {
		for told := range 256 {
			b := slices.Concat(ahead, []byte{byte(told)}, bytes.Repeat([]byte("a"), size), last)
			if want := told == size && 1 <= size && size <= 6; wantRead(t, b) != want {
				t.Errorf("a name of %d, %d told: it is not %v", size, told, want)
			}
		}
	}
}

// Bytes of codes that may not be.
func TestCodeReadOfWhatIsNotCodeOk(t *testing.T) {
	reads := func(c impl.Code) bool { return wantRead(t, plainBytes(c)) }
	for what, c := range map[string]impl.Code{
		"the first has Params":   codeOf(ended(1, 1)),
		"no orders":              codeOf(unit(0, 1)),
		"no registers":           codeOf(unit(0, 0, ins(impl.IxBack, 0, 0, 0))),
		"25 registers":           codeOf(ended(0, 25)),
		"4 Params":               codeOf(ended(0, 1), ended(4, 4)),
		"more Params than Regs":  codeOf(ended(0, 1), ended(2, 1)),
		"no IxBack":              codeOf(unit(0, 1, ticks(2)...)),
		"an op that is none":     codeOf(ended(0, 1, ins(15, 0, 0, 0))),
		"a register":             codeOf(ended(0, 1, ins(impl.IxNil, 1, 0, 0))),
		"a place":                codeOf(ended(0, 1, ins(impl.IxJump, 2, 0, 0))),
		"a unit":                 codeOf(ended(0, 1, ins(impl.IxCall, 0, 1, 0))),
		"a sign":                 codeOf(ended(0, 2, ins(impl.IxBin, 0, 0, '.'))),
		"a number":               codeOf(ended(0, 1, ins(impl.IxNum, 0, lastNumber+1, 0))),
		"a name of a tick":       codeOf(ended(0, 1, named(impl.IxTick, 0, 0, 0, "a"))),
		"a name that is no word": codeOf(ended(0, 1, named(impl.IxGet, 0, 0, 0, "A"))),
		"what is not told":       codeOf(ended(0, 1, ins(impl.IxNil, 0, 1, 0))),
		"what is not told, C":    codeOf(ended(0, 1, ins(impl.IxNum, 0, 1, 1))),
	} {
		if impl.CodeOk(c) || reads(c) {
			t.Errorf("%s: it is read", what)
		}
	}
	if !reads(sample()) {
		t.Error("the sample is not read")
	}
}

// A coder makes codes that may be.
type coder struct{ *rand.Rand }

func (m coder) code() impl.Code {
	var c impl.Code
	for i := range 1 + m.Intn(impl.MaxFuncs) {
		u := impl.Unit{Regs: 1 + m.Intn(impl.MaxRegs)}
		if i > 0 {
			u.Params = min(m.Intn(4), u.Regs)
		}
		c.Units = append(c.Units, u)
	}
	for i := range c.Units {
		n := 1 + m.Intn(12)
		if m.Intn(20) == 0 {
			n = 290 + m.Intn(11)
		}
		for range n - 1 {
			c.Units[i].L = append(c.Units[i].L, m.order(c, c.Units[i], n))
		}
		c.Units[i].L = append(c.Units[i].L, ins(impl.IxBack, m.Intn(c.Units[i].Regs), 0, 0))
	}
	return c
}

func (m coder) order(c impl.Code, u impl.Unit, n int) impl.Ins {
	reg := func() int { return m.Intn(u.Regs) }
	op := m.Intn(15)
	switch op {
	case impl.IxNum:
		return ins(op, reg(), []int{0, 9, 255, 256, 65536, lastNumber, m.Intn(lastNumber)}[m.Intn(7)], 0)
	case impl.IxNil, impl.IxNew, impl.IxBack, impl.IxShow:
		return ins(op, reg(), 0, 0)
	case impl.IxMove, impl.IxWeak, impl.IxLive:
		return ins(op, reg(), reg(), 0)
	case impl.IxGet, impl.IxPut:
		return named(op, reg(), reg(), 0, []string{"a", "abcdef", "nil", "zz"}[m.Intn(4)])
	case impl.IxBin:
		if u.Regs > 1 {
			return ins(op, m.Intn(u.Regs-1), reg(), int("+-*<="[m.Intn(5)]))
		}
	case impl.IxJump:
		return ins(op, m.Intn(n), 0, 0)
	case impl.IxZero:
		return ins(op, reg(), m.Intn(n), 0)
	case impl.IxCall:
		b := m.Intn(len(c.Units))
		if c.Units[b].Params <= u.Regs {
			return ins(op, reg(), b, m.Intn(u.Regs-c.Units[b].Params+1))
		}
	}
	return impl.Ins{}
}

func copiedCode(c impl.Code) impl.Code {
	var d impl.Code
	for _, u := range c.Units {
		l := slices.Clone(u.L)
		for i := range l {
			l[i].Name = slices.Clone(l[i].Name)
		}
		d.Units = append(d.Units, unit(u.Params, u.Regs, l...))
	}
	return d
}

// changed is a code with one number or name in it being another.
func (m coder) changed(c impl.Code) impl.Code {
	c = copiedCode(c)
	u := &c.Units[m.Intn(len(c.Units))]
	o := &u.L[m.Intn(len(u.L))]
	n := []int{-1, 0, 1, 2, 3, 4, 13, 14, 15, 23, 24, 25, 42, 43, 44, 299, 300, lastNumber, lastNumber + 1, 1 << 24, len(u.L) - 1, len(u.L), len(c.Units), u.Regs - 1, u.Regs, u.Regs - 3}[m.Intn(26)]
	switch m.Intn(8) {
	case 0:
		u.Params = n
	case 1:
		u.Regs = n
	case 2:
		o.Op = n
	case 3:
		o.A = n
	case 4:
		o.B = n
	case 5:
		o.C = n
	case 6:
		o.Name = []byte([]string{"", "a", "abcdef", "abcdefg", "A", "while"}[m.Intn(6)])
	case 7:
		u.L = u.L[:m.Intn(len(u.L)+1)]
	}
	return c
}

func TestMadeCodes(t *testing.T) {
	m := coder{rand.New(rand.NewSource(17))}
	may, not := 0, 0
	for range 4000 {
		c := m.code()
		wantCode(t, "made", c, true)
		for range 5 {
			d := m.changed(c)
			want := plainCodeOk(d)
			wantCode(t, fmt.Sprint("changed ", d), d, want)
			if want {
				may++
			} else {
				not++
			}
		}
		if t.Failed() {
			return
		}
	}
	if may < 3000 || not < 3000 {
		t.Errorf("%d changed ones may be, %d may not: the test sees too few", may, not)
	}
}

// Each byte of some codes changed into each other byte, left out, doubled, and each end left away.
func TestSpoiledBytes(t *testing.T) {
	m := coder{rand.New(rand.NewSource(18))}
	l := []impl.Code{sample(), codeOf(ended(0, 1)), codeOf(ended(0, 2, named(impl.IxGet, 0, 1, 0, "ab")), ended(1, 2, ins(impl.IxCall, 1, 0, 2)))}
	for len(l) < 12 {
		if c := m.code(); impl.SizeOf(c) < 20 {
			l = append(l, c)
		}
	}
	read, not := 0, 0
	try := func(parts ...[]byte) {
		t.Helper()
		if wantRead(t, slices.Concat(parts...)) {
			read++
		} else {
			not++
		}
	}
	for _, c := range l {
		b, _ := impl.CodeBytes(c)
		for i := range b {
			for n := range 256 {
				try(b[:i], []byte{byte(n)}, b[i+1:])
			}
			for _, n := range []byte{0, 1, 11, 'a', 255} {
				try(b[:i], []byte{n}, b[i:])
			}
			try(b[:i], b[i+1:])
			try(b[:i])
			try(b, b[i:i+1])
			try(b, b[:i])
		}
	}
	if read < 1000 || not < 1000 {
		t.Errorf("%d are read, %d are not: the test sees too few", read, not)
	}
}

func TestBytesOfMadeCodesSpoiled(t *testing.T) {
	m := coder{rand.New(rand.NewSource(19))}
	for range 3000 {
		b, _ := impl.CodeBytes(m.code())
		for range 10 {
			i, n := m.Intn(len(b)+1), byte(m.Intn(256))
			if m.Intn(3) == 0 {
				n = byte(m.Intn(16))
			}
			wantRead(t, slices.Concat(b[:i], []byte{n}, b[min(i+1, len(b)):]))
			wantRead(t, slices.Concat(b[:i], []byte{n}, b[i:]))
			wantRead(t, slices.Concat(b[:i], b[min(i+1, len(b)):]))
			wantRead(t, append(slices.Clone(b), n))
			wantRead(t, b[:i])
		}
	}
}

func TestCodeReadOfAnyBytes(t *testing.T) {
	r := rand.New(rand.NewSource(20))
	for range 20000 {
		b := make([]byte, r.Intn(60))
		for i := range b {
			b[i] = byte(r.Intn([]int{2, 3, 16, 256}[r.Intn(4)]))
		}
		wantRead(t, b)
	}
}

// What a function answers is new memory, and an argument stays as it was.

// A rack makes codes anew with spare room behind each of their lists, and knows all of this memory.
type rack struct {
	shelf
	orders [][]impl.Ins
	units  [][]impl.Unit
}

func (k *rack) code(c impl.Code) impl.Code {
	var all []impl.Unit
	for _, u := range c.Units {
		all = append(all, k.unit(u))
	}
	all = append(all, ended(0, 1))
	k.units = append(k.units, all)
	return impl.Code{Units: all[:len(c.Units)]}
}

func (k *rack) unit(u impl.Unit) impl.Unit {
	var l []impl.Ins
	for _, o := range u.L {
		o.Name = k.name(o.Name)
		l = append(l, o)
	}
	l = append(l, ins(impl.IxJump, 0, 0, 0), ins(impl.IxNil, 23, 0, 0))
	k.orders = append(k.orders, l)
	return impl.Unit{Params: u.Params, Regs: u.Regs, L: l[:len(u.L)]}
}

func (k *rack) picture() string { return fmt.Sprint(*k) }

// unpacked is each list of a code, names first, as one text; with over it is written over, with the room behind it, once it is copied.
func unpacked(c impl.Code, over bool) string {
	if !over {
		c = copiedCode(c)
	}
	s := ""
	for _, u := range c.Units {
		for _, o := range u.L {
			s += overwritten(o.Name, '!')
		}
	}
	for _, u := range c.Units {
		for _, o := range u.L {
			s += fmt.Sprint(o.Op, o.A, o.B, o.C, " ")
		}
		overwritten(u.L, ins(-9, -9, -9, -9))
	}
	for _, u := range c.Units {
		s += fmt.Sprint(u.Params, u.Regs, " ")
	}
	overwritten(c.Units, unit(-9, -9))
	return s
}

// taken is what is told of a code that is an answer, which is written over.
func taken(t *testing.T, c impl.Code) string {
	t.Helper()
	want := unpacked(c, false)
	if got := unpacked(c, true); got != want {
		t.Fatalf("two lists of an answer share memory: %s; want %s", got, want)
	}
	return want
}

func codeAnswers(c impl.Code) string {
	b, ok := impl.CodeBytes(c)
	s := fmt.Sprint(impl.CodeOk(c), ok, impl.SizeOf(c), impl.OpsOf(c, impl.IxTick), impl.OpsOf(c, impl.IxNil), impl.OpsOf(c, impl.IxJump))
	s += overwritten(impl.CodeText(c), '!') + overwritten(b, '!') + overwritten(impl.UnitSizes(c), -9)
	for _, u := range c.Units {
		s += overwritten(impl.Targets(u), -9) + fmt.Sprint(impl.Greatest(u))
	}
	return s
}

func TestCodesAreOnlyRead(t *testing.T) {
	m := coder{rand.New(rand.NewSource(21))}
	for i := range 2000 {
		c := m.code()
		if i%3 == 0 {
			c = m.changed(c)
		}
		var k rack
		d := k.code(c)
		before := k.picture()
		got := codeAnswers(d)
		if k.picture() != before {
			t.Fatalf("%v: something is changed", c)
		}
		if want := codeAnswers(c); got != want || codeAnswers(d) != want {
			t.Fatalf("%v: what lies behind the lists is read, or an answer is kept", c)
		}
	}
}

func TestCodeReadOnlyReads(t *testing.T) {
	m := coder{rand.New(rand.NewSource(22))}
	for i := range 1000 {
		c := m.code()
		made, _ := impl.CodeBytes(c)
		b, whole := roomy(string(made))
		if i%4 == 0 {
			b[m.Intn(len(b))]++
		}
		before := bytes.Clone(whole)
		first, ok := impl.CodeRead(b)
		second, _ := impl.CodeRead(b)
		if !bytes.Equal(whole, before) {
			t.Fatalf("%v: the bytes are changed", c)
		}
		want, fine := plainRead(bytes.Clone(b))
		if ok != fine {
			t.Fatalf("%v: what lies behind the bytes is read", c)
		}
		if !ok {
			continue
		}
		for i := range whole {
			whole[i] = 'q'
		}
		if taken(t, first) != unpacked(want, false) || taken(t, second) != unpacked(want, false) {
			t.Fatalf("%v: it changes with the bytes, or with another answer", want)
		}
	}
}

// Answers that were told ahead stay as they are when a later one, or the code, is written over.
func TestCodeAnswersAreApart(t *testing.T) {
	c := sample()
	of := func() []any {
		b, _ := impl.CodeBytes(c)
		return []any{b, impl.CodeText(c), impl.UnitSizes(c), impl.Targets(c.Units[0])}
	}
	first := of()
	before := fmt.Sprint(first)
	codeAnswers(c)
	if fmt.Sprint(first) != before {
		t.Errorf("an answer changes with a later one: %v", first)
	}
	unpacked(c, true)
	if fmt.Sprint(first) != before {
		t.Errorf("an answer changes with the code: %v", first)
	}
}
