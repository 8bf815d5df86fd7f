package tests

// Promises 7 and 13, their parts of chapter 6: what a code may be, and what is told of one.

import (
	"bytes"
	"fmt"
	"math"
	"slices"
	"strings"
	"testing"

	"loop.example/g00547/impl"
)

const lastNumber = 999999

func ins(op, a, b, c int) impl.Ins { return impl.Ins{Op: op, A: a, B: b, C: c} }
func named(op, a, b, c int, s string) impl.Ins {
	return impl.Ins{Op: op, A: a, B: b, C: c, Name: []byte(s)}
}
func codeOf(l ...impl.Unit) impl.Code { return impl.Code{Units: l} }
func unit(params, regs int, l ...impl.Ins) impl.Unit {
	return impl.Unit{Params: params, Regs: regs, L: l}
}

// ended has an IxBack behind the orders.
func ended(params, regs int, l ...impl.Ins) impl.Unit {
	return unit(params, regs, append(slices.Clone(l), ins(impl.IxBack, 0, 0, 0))...)
}

func ticks(n int) []impl.Ins { return slices.Repeat([]impl.Ins{{}}, n) }

func sameIns(a, b impl.Ins) bool {
	return a.Op == b.Op && a.A == b.A && a.B == b.B && a.C == b.C && bytes.Equal(a.Name, b.Name)
}
func sameUnit(a, b impl.Unit) bool {
	return a.Params == b.Params && a.Regs == b.Regs && slices.EqualFunc(a.L, b.L, sameIns)
}
func sameCode(a, b impl.Code) bool { return slices.EqualFunc(a.Units, b.Units, sameUnit) }

// wantCode also looks at all that answers only when a code is CodeOk.
func wantCode(t *testing.T, what string, c impl.Code, want bool) {
	t.Helper()
	if impl.CodeOk(c) != want {
		t.Errorf("%s: CodeOk is not %v", what, want)
		return
	}
	if want {
		wantCodeBack(t, what, c)
		wantOrdersOfAllKinds(t, what, c)
		return
	}
	if s := impl.CodeText(c); len(s) != 0 {
		t.Errorf("%s: not CodeOk, but the text is %q", what, s)
	}
	if b, ok := impl.CodeBytes(c); len(b) != 0 || ok {
		t.Errorf("%s: not CodeOk, but the bytes are %v, %v", what, b, ok)
	}
	if impl.SizeOf(c) != -1 || len(impl.UnitSizes(c)) != 0 {
		t.Errorf("%s: not CodeOk, but sizes are %d, %v", what, impl.SizeOf(c), impl.UnitSizes(c))
	}
	for op := -2; op <= 16; op++ {
		if n := impl.OpsOf(c, op); n != -1 {
			t.Errorf("%s: not CodeOk, but there are %d of op %d", what, n, op)
		}
	}
}

// wantCodeBack is promise 7 of bytes.
func wantCodeBack(t *testing.T, what string, c impl.Code) {
	t.Helper()
	b, ok := impl.CodeBytes(c)
	if !ok || !bytes.Equal(b, plainBytes(c)) {
		t.Errorf("%s: the bytes are %v, %v; want %v", what, b, ok, plainBytes(c))
	}
	d, ok := impl.CodeRead(b)
	if !ok || !sameCode(d, c) {
		t.Errorf("%s: from its bytes comes %v, %v; want %v", what, d, ok, c)
	}
	if s := impl.CodeText(c); string(s) != plainText(c) {
		t.Errorf("%s: the text is %q; want %q", what, s, plainText(c))
	}
}

// wantOrdersOfAllKinds is promise 7 of orders, and promise 13 of units.
func wantOrdersOfAllKinds(t *testing.T, what string, c impl.Code) {
	t.Helper()
	all := 0
	for op := impl.IxTick; op <= impl.IxLive; op++ {
		n := 0
		for _, u := range c.Units {
			for _, o := range u.L {
				if o.Op == op {
					n++
				}
			}
		}
		if impl.OpsOf(c, op) != n {
			t.Errorf("%s: %d of op %d; want %d", what, impl.OpsOf(c, op), op, n)
		}
		all += impl.OpsOf(c, op)
	}
	for _, op := range []int{-1, 15, 16, 256, 1 << 32, math.MinInt, math.MaxInt} {
		if n := impl.OpsOf(c, op); n != 0 {
			t.Errorf("%s: %d of op %d", what, n, op)
		}
	}
	sum := 0
	for i, n := range impl.UnitSizes(c) {
		if n != len(c.Units[i].L) {
			t.Errorf("%s: unit %d has %d; want %d", what, i, n, len(c.Units[i].L))
		}
		sum += n
	}
	if size := impl.SizeOf(c); size != all || size != sum || len(impl.UnitSizes(c)) != len(c.Units) {
		t.Errorf("%s: %d orders; ops add up to %d, units to %d", what, size, all, sum)
	}
	for _, u := range c.Units {
		wantOwnPlaces(t, what, u)
	}
}

// wantOwnPlaces is promise 13 of a unit of a code that is CodeOk.
func wantOwnPlaces(t *testing.T, what string, u impl.Unit) {
	t.Helper()
	l := impl.Targets(u)
	for i, n := range l {
		if n < 0 || n >= len(u.L) || i > 0 && n <= l[i-1] {
			t.Errorf("%s: of %v Targets are %v", what, u, l)
		}
	}
	for _, o := range u.L {
		if o.Op == impl.IxJump && !slices.Contains(l, o.A) || o.Op == impl.IxZero && !slices.Contains(l, o.B) {
			t.Errorf("%s: of %v Targets are %v", what, u, l)
		}
	}
	if n := impl.Greatest(u); n < -1 || n >= u.Regs {
		t.Errorf("%s: of %v Greatest is %d", what, u, n)
	}
}

func TestCodeOkOfUnits(t *testing.T) {
	u := ended(0, 1)
	for n := range 7 {
		wantCode(t, fmt.Sprint(n, " units"), codeOf(slices.Repeat([]impl.Unit{u}, n)...), 1 <= n && n <= impl.MaxFuncs)
	}
	wantCode(t, "no list", impl.Code{}, false)
	wantCode(t, "an empty list", impl.Code{Units: []impl.Unit{}}, false)
	wantCode(t, "many units", impl.Code{Units: make([]impl.Unit, 10000)}, false)
	wantCode(t, "an empty unit", codeOf(impl.Unit{}), false)
	for i := range impl.MaxFuncs {
		l := slices.Repeat([]impl.Unit{u}, impl.MaxFuncs)
		l[i] = unit(0, 1)
		wantCode(t, fmt.Sprint("unit ", i, " without orders"), codeOf(l...), false)
	}
}

func TestCodeOkOfParamsAndRegs(t *testing.T) {
	l := []int{math.MinInt, -24, -1, 0, 1, 2, 3, 4, 5, 23, 24, 25, 256, 1 << 32, math.MaxInt}
	for _, params := range l {
		for _, regs := range l {
			what := fmt.Sprint(params, " Params, ", regs, " Regs")
			regsOk := 1 <= regs && regs <= 24
			wantCode(t, what, codeOf(ended(params, regs)), params == 0 && regsOk)
			want := 0 <= params && params <= 3 && params <= regs && regsOk
			wantCode(t, what+" of the second", codeOf(ended(0, 1), ended(params, regs)), want)
			wantCode(t, what+" of the last", codeOf(ended(0, 1), ended(3, 3), ended(0, 24), ended(params, regs)), want)
			wantCode(t, what+" ahead of others", codeOf(ended(0, 1), ended(params, regs), ended(1, 1)), want)
		}
	}
}

func TestCodeOkOfLengths(t *testing.T) {
	for _, n := range []int{0, 1, 2, 299, 300, 301, 302, 10000} {
		u := unit(0, 1)
		if n > 0 {
			u = ended(0, 1, ticks(n-1)...)
		}
		want := 1 <= n && n <= impl.MaxCode
		wantCode(t, fmt.Sprint(n, " orders"), codeOf(u), want)
		wantCode(t, fmt.Sprint(n, " orders of the second"), codeOf(ended(0, 1), u), want)
	}
	full := ended(0, 1, ticks(299)...)
	wantCode(t, "all full", codeOf(full, full, full, full), true)
	if n := impl.SizeOf(codeOf(full, full, full, full)); n != 1200 {
		t.Errorf("SizeOf is %d", n)
	}
}

func TestCodeOkOfTheLastOrder(t *testing.T) {
	for op := impl.IxTick; op <= impl.IxLive; op++ {
		o := oneOf(op)
		wantCode(t, fmt.Sprint("op ", op, " last"), codeOf(unit(0, 2, o)), op == impl.IxBack)
		wantCode(t, fmt.Sprint("op ", op, " behind an IxBack"), codeOf(unit(0, 2, ins(impl.IxBack, 0, 0, 0), o)), op == impl.IxBack)
		wantCode(t, fmt.Sprint("op ", op, " ahead of an IxBack"), codeOf(ended(0, 2, o)), true)
		wantCode(t, fmt.Sprint("op ", op, " last of the second"), codeOf(ended(0, 1), unit(0, 2, o)), op == impl.IxBack)
	}
}

// oneOf is an order that may be in any unit of two registers.
func oneOf(op int) impl.Ins {
	switch op {
	case impl.IxGet, impl.IxPut:
		return named(op, 0, 0, 0, "a")
	case impl.IxBin:
		return ins(op, 0, 0, '+')
	}
	return ins(op, 0, 0, 0)
}

func TestCodeOkOfOpsThatAreNone(t *testing.T) {
	for _, op := range []int{math.MinInt, -256, -16, -2, -1, 15, 16, 26, 255, 256, 1 << 32, math.MaxInt} {
		for i := range 3 {
			l := ticks(3)
			l[i].Op = op
			wantCode(t, fmt.Sprint("op ", op), codeOf(ended(0, 3, l...)), false)
			wantCode(t, fmt.Sprint("op ", op), codeOf(ended(0, 1), ended(0, 3, l...)), false)
		}
	}
}

// The chapter once more, sentence by sentence.

func plainOrderOk(c impl.Code, u impl.Unit, o impl.Ins) bool {
	below := func(n, most int) bool { return n >= 0 && n < most }
	reg := func(n int) bool { return below(n, u.Regs) }
	bare := len(o.Name) == 0
	switch o.Op {
	case impl.IxTick:
		return o.A == 0 && o.B == 0 && o.C == 0 && bare
	case impl.IxNil, impl.IxNew, impl.IxBack, impl.IxShow:
		return reg(o.A) && o.B == 0 && o.C == 0 && bare
	case impl.IxNum:
		return reg(o.A) && below(o.B, lastNumber+1) && o.C == 0 && bare
	case impl.IxMove, impl.IxWeak, impl.IxLive:
		return reg(o.A) && reg(o.B) && o.C == 0 && bare
	case impl.IxGet, impl.IxPut:
		return reg(o.A) && reg(o.B) && o.C == 0 && impl.WordOk(o.Name)
	case impl.IxBin:
		return reg(o.A) && reg(o.A+1) && reg(o.B) && slices.Contains([]int{'+', '-', '*', '<', '='}, o.C) && bare
	case impl.IxJump:
		return below(o.A, len(u.L)) && o.B == 0 && o.C == 0 && bare
	case impl.IxZero:
		return reg(o.A) && below(o.B, len(u.L)) && o.C == 0 && bare
	case impl.IxCall:
		return reg(o.A) && below(o.B, len(c.Units)) && below(o.C, u.Regs-c.Units[o.B].Params+1) && bare
	}
	return false
}

func plainCodeOk(c impl.Code) bool {
	if len(c.Units) < 1 || len(c.Units) > 4 || c.Units[0].Params != 0 {
		return false
	}
	for _, u := range c.Units {
		n := len(u.L)
		if u.Params < 0 || u.Params > 3 || u.Params > u.Regs || u.Regs < 1 || u.Regs > 24 || n < 1 || n > 300 {
			return false
		}
		if u.L[n-1].Op != impl.IxBack || slices.ContainsFunc(u.L, func(o impl.Ins) bool { return !plainOrderOk(c, u, o) }) {
			return false
		}
	}
	return true
}

func plainText(c impl.Code) string {
	words := strings.Fields("tick num nil move new get put bin jump zero call back show weak live")
	s := ""
	for _, u := range c.Units {
		s += fmt.Sprintf("unit %d %d\n", u.Params, u.Regs)
		for _, o := range u.L {
			l := append([]string{words[o.Op]}, strings.Fields(fmt.Sprint(o.A, o.B, o.C))...)
			if len(o.Name) > 0 {
				l = append(l, string(o.Name))
			}
			s += strings.Join(l, " ") + "\n"
		}
	}
	return s
}

func plainBytes(c impl.Code) []byte {
	three := func(n int) []byte { return []byte{byte(n / 65536), byte(n / 256 % 256), byte(n % 256)} }
	b := []byte{byte(len(c.Units))}
	for _, u := range c.Units {
		b = slices.Concat(b, []byte{byte(u.Params), byte(u.Regs)}, three(len(u.L)))
		for _, o := range u.L {
			b = slices.Concat(b, []byte{byte(o.Op)}, three(o.A), three(o.B), three(o.C), []byte{byte(len(o.Name))}, o.Name)
		}
	}
	return b
}

// Each field of each order at its bounds, one below and one past them.

func TestCodeOkOfEachOrder(t *testing.T) {
	others := []impl.Unit{ended(2, 2), ended(3, 24)}
	l := []int{math.MinInt, -256, -2, -1, 0, 1, 2, 3, 4, 5, 6, 7, 8, 42, 43, 44, 45, 60, 61, 62, lastNumber, lastNumber + 1, '+' + 256, '=' - 256, 1 << 24, 1 << 32, math.MaxInt}
	good := map[int]int{}
	for op := impl.IxTick; op <= impl.IxLive; op++ {
		for _, a := range l {
			for _, b := range l {
				for _, c := range l {
					for _, s := range []string{"", "a"} {
						o := named(op, a, b, c, s)
						u := ended(0, 5, ins(impl.IxNil, 4, 0, 0), o, ins(impl.IxJump, 6, 0, 0), impl.Ins{}, impl.Ins{}, impl.Ins{})
						code := codeOf(u, others[0], others[1])
						want := plainOrderOk(code, u, o)
						if impl.CodeOk(code) != want {
							t.Fatalf("%v: CodeOk is not %v", o, want)
						}
						if want {
							good[op]++
						}
					}
				}
			}
		}
	}
	// registers 0 .. 4, places 0 .. 6, three units with Params 0, 2 and 3
	want := map[int]int{impl.IxTick: 1, impl.IxNum: 5 * 18, impl.IxNil: 5, impl.IxMove: 25, impl.IxNew: 5, impl.IxGet: 25, impl.IxPut: 25, impl.IxBin: 4 * 5 * 5, impl.IxJump: 7, impl.IxZero: 5 * 7, impl.IxCall: 5 * (6 + 4 + 3), impl.IxBack: 5, impl.IxShow: 5, impl.IxWeak: 25, impl.IxLive: 25}
	for op, n := range want {
		if good[op] != n {
			t.Errorf("op %d: %d orders may be; want %d", op, good[op], n)
		}
	}
}

// wantOrders: each of the orders alone, in a unit of three registers and of four orders, beside one with Params 3 and one with none.
func wantOrders(t *testing.T, want bool, l ...impl.Ins) {
	t.Helper()
	for _, o := range l {
		for at := range 3 {
			all := ticks(3)
			all[at] = o
			u := ended(0, 3, all...)
			wantCode(t, fmt.Sprintf("%v at %d", o, at), codeOf(u, ended(3, 3), ended(0, 24)), want)
			wantCode(t, fmt.Sprintf("%v at %d of the last", o, at), codeOf(ended(0, 3), ended(3, 3), u), want)
		}
	}
}

func TestCodeOkOfRegistersA(t *testing.T) {
	for op := impl.IxNum; op <= impl.IxLive; op++ {
		if op == impl.IxJump {
			continue
		}
		for a, want := range map[int]bool{-1: false, 0: true, 1: true, 2: op != impl.IxBin, 3: false, 24: false, math.MaxInt: false, math.MinInt: false} {
			o := oneOf(op)
			o.A = a
			wantOrders(t, want, o)
		}
	}
	wantOrders(t, false, ins(impl.IxTick, 1, 0, 0), ins(impl.IxTick, -1, 0, 0), ins(impl.IxTick, 2, 0, 0))
	wantCode(t, "one register", codeOf(ended(0, 1, ins(impl.IxNil, 0, 0, 0))), true)
	wantCode(t, "a second one", codeOf(ended(0, 1, ins(impl.IxNil, 1, 0, 0))), false)
	wantCode(t, "no second one for IxBin", codeOf(ended(0, 1, oneOf(impl.IxBin))), false)
	wantCode(t, "register 23", codeOf(ended(0, 24, ins(impl.IxNil, 23, 0, 0), ins(impl.IxBin, 22, 23, '='))), true)
	wantCode(t, "register 23 and one more", codeOf(ended(0, 24, ins(impl.IxBin, 23, 22, '='))), false)
	wantCode(t, "register 24", codeOf(ended(0, 24, ins(impl.IxNil, 24, 0, 0))), false)
	wantCode(t, "of the unit itself", codeOf(ended(0, 24), ended(0, 2, ins(impl.IxNil, 2, 0, 0))), false)
	for a, want := range map[int]bool{-1: false, 0: true, 2: true, 3: false} {
		wantCode(t, fmt.Sprint("the last IxBack of ", a), codeOf(unit(0, 3, ins(impl.IxBack, a, 0, 0))), want)
	}
}

func TestCodeOkOfRegistersB(t *testing.T) {
	for _, op := range []int{impl.IxMove, impl.IxWeak, impl.IxLive, impl.IxGet, impl.IxPut, impl.IxBin} {
		for b, want := range map[int]bool{-1: false, 0: true, 1: true, 2: true, 3: false, 24: false, math.MaxInt: false, math.MinInt: false} {
			o := oneOf(op)
			o.B = b
			wantOrders(t, want, o)
			o.A = 1
			wantOrders(t, want, o)
		}
	}
}

func TestCodeOkOfNumbersAndSigns(t *testing.T) {
	num := func(n int) impl.Ins { return ins(impl.IxNum, 2, n, 0) }
	wantOrders(t, true, num(0), num(1), num(3), num(300), num(65536), num(lastNumber))
	wantOrders(t, false, num(-1), num(lastNumber+1), num(1<<24), num(1<<32), num(math.MinInt), num(math.MaxInt))
	for c := -1; c <= 300; c++ {
		is := c == '+' || c == '-' || c == '*' || c == '<' || c == '='
		if impl.CodeOk(codeOf(ended(0, 3, ins(impl.IxBin, 1, 0, c)))) != is {
			t.Errorf("a sign %d: CodeOk is not %v", c, is)
		}
	}
	wantOrders(t, false, ins(impl.IxBin, 0, 1, 0), ins(impl.IxBin, 0, 1, '.'), ins(impl.IxBin, 0, 1, '>'), ins(impl.IxBin, 0, 1, '/'), ins(impl.IxBin, 2, 0, '+'), ins(impl.IxBin, math.MaxInt, 0, '+'))
}

func TestCodeOkOfPlaces(t *testing.T) {
	for n, want := range map[int]bool{-1: false, 0: true, 2: true, 3: true, 4: false, 300: false, math.MinInt: false, math.MaxInt: false} {
		wantOrders(t, want, ins(impl.IxJump, n, 0, 0), ins(impl.IxZero, 2, n, 0))
	}
	long := ended(0, 1, append(ticks(298), ins(impl.IxJump, 299, 0, 0))...)
	wantCode(t, "place 299", codeOf(long), true)
	long.L[298].A = 300
	wantCode(t, "place 300", codeOf(long), false)
	wantCode(t, "a place of another unit", codeOf(ended(0, 1, ins(impl.IxJump, 2, 0, 0)), ended(0, 1, ticks(5)...)), false)
	wantCode(t, "a place beyond the registers", codeOf(ended(0, 1, append(ticks(5), ins(impl.IxZero, 0, 4, 0), ins(impl.IxJump, 7, 0, 0))...)), true)
}

func TestCodeOkOfCalls(t *testing.T) {
	for params := range 4 {
		for regs := 1; regs <= 24; regs++ {
			for c := -1; c <= 25; c++ {
				u := ended(0, regs, ins(impl.IxCall, regs-1, 1, c))
				want := 0 <= c && c <= regs-params
				if impl.CodeOk(codeOf(u, ended(params, 24))) != want || impl.CodeOk(codeOf(ended(0, 1), ended(params, 3), u)) != want {
					t.Errorf("%d Regs, a call of %d Params from %d on: CodeOk is not %v", regs, params, c, want)
				}
			}
		}
	}
	for b, want := range map[int]bool{-1: false, 0: true, 1: true, 2: true, 3: false, 4: false, math.MinInt: false, math.MaxInt: false} {
		wantOrders(t, want, ins(impl.IxCall, 2, b, 0))
	}
	wantOrders(t, true, ins(impl.IxCall, 0, 0, 3), ins(impl.IxCall, 0, 1, 0))
	wantOrders(t, false, ins(impl.IxCall, 0, 0, 4), ins(impl.IxCall, 0, 1, 1), ins(impl.IxCall, 0, 0, -1), ins(impl.IxCall, 0, 1, -1), ins(impl.IxCall, 0, 0, math.MinInt), ins(impl.IxCall, 0, 0, math.MaxInt))
	wantCode(t, "itself, with Params", codeOf(ended(0, 1), ended(2, 3, ins(impl.IxCall, 0, 1, 1))), true)
	wantCode(t, "itself, with Params", codeOf(ended(0, 1), ended(2, 3, ins(impl.IxCall, 0, 1, 2))), false)
	for _, params := range []int{math.MinInt, -1, 4, math.MaxInt} {
		wantCode(t, "a unit that may not be", codeOf(ended(0, 1, ins(impl.IxCall, 0, 1, 0)), ended(params, 24)), false)
	}
}

func TestCodeOkOfNames(t *testing.T) {
	long := strings.Repeat("a", 300)
	for _, op := range []int{impl.IxGet, impl.IxPut} {
		for _, s := range strings.Fields("a z abcdef zzzzzz func let set print return if else while do nil new weak live tick unit") {
			wantOrders(t, true, named(op, 1, 2, 0, s))
		}
		for _, s := range []string{"", "abcdefg", "A", "aB", "a1", "1", "a b", " ", "a ", ";", "é", "a\x00", "\x00", "`", "{", "a\n", "\xff", long} {
			wantOrders(t, false, named(op, 1, 2, 0, s))
		}
		wantOrders(t, false, impl.Ins{Op: op, A: 1, B: 2}, impl.Ins{Op: op, A: 1, B: 2, Name: []byte{}})
	}
	for op := impl.IxTick; op <= impl.IxLive; op++ {
		if op == impl.IxGet || op == impl.IxPut {
			continue
		}
		for _, s := range []string{"a", "nil", "abcdef", "abcdefg", "A", "\x00", long} {
			o := oneOf(op)
			o.Name = []byte(s)
			wantOrders(t, false, o)
		}
		o := oneOf(op)
		o.Name = []byte{}
		wantOrders(t, true, o)
		wantCode(t, "a last order with a name", codeOf(unit(0, 1, named(impl.IxBack, 0, 0, 0, "a"))), false)
	}
}

func TestCodeOkOfWhatIsNotTold(t *testing.T) {
	hasB := []int{impl.IxNum, impl.IxMove, impl.IxWeak, impl.IxLive, impl.IxGet, impl.IxPut, impl.IxBin, impl.IxZero, impl.IxCall}
	for op := impl.IxTick; op <= impl.IxLive; op++ {
		for _, n := range []int{-1, 1, 2, 256, 1 << 24, 1 << 32, math.MinInt, math.MaxInt} {
			o := oneOf(op)
			o.B = n
			if !slices.Contains(hasB, op) {
				wantOrders(t, false, o)
			}
			o = oneOf(op)
			o.C = n
			if op != impl.IxBin && op != impl.IxCall {
				wantOrders(t, false, o)
			}
		}
	}
}

// each order once, with a name where it has one
func sample() impl.Code {
	return codeOf(
		unit(0, 24, ins(impl.IxTick, 0, 0, 0), ins(impl.IxNum, 23, lastNumber, 0), ins(impl.IxNil, 9, 0, 0), ins(impl.IxMove, 10, 11, 0), ins(impl.IxNew, 1, 0, 0), named(impl.IxGet, 2, 3, 0, "a"), named(impl.IxPut, 4, 5, 0, "abcdef"), ins(impl.IxBin, 6, 7, '*'), ins(impl.IxZero, 8, 13, 0), ins(impl.IxJump, 13, 0, 0), ins(impl.IxCall, 12, 1, 21), ins(impl.IxShow, 15, 0, 0), ins(impl.IxWeak, 16, 17, 0), ins(impl.IxLive, 18, 19, 0), ins(impl.IxBack, 20, 0, 0)),
		unit(3, 3, named(impl.IxGet, 0, 1, 0, "while"), ins(impl.IxBack, 2, 0, 0)))
}

func TestCodeText(t *testing.T) {
	want := "unit 0 24\ntick 0 0 0\nnum 23 999999 0\nnil 9 0 0\nmove 10 11 0\nnew 1 0 0\nget 2 3 0 a\nput 4 5 0 abcdef\nbin 6 7 42\nzero 8 13 0\njump 13 0 0\ncall 12 1 21\nshow 15 0 0\nweak 16 17 0\nlive 18 19 0\nback 20 0 0\n" +
		"unit 3 3\nget 0 1 0 while\nback 2 0 0\n"
	if s := impl.CodeText(sample()); string(s) != want {
		t.Errorf("the text is %q; want %q", s, want)
	}
	for c, n := range map[byte]string{'+': "43", '-': "45", '*': "42", '<': "60", '=': "61"} {
		want := "unit 0 2\nbin 0 1 " + n + "\nback 0 0 0\n"
		if s := impl.CodeText(codeOf(ended(0, 2, ins(impl.IxBin, 0, 1, int(c))))); string(s) != want {
			t.Errorf("the text is %q; want %q", s, want)
		}
	}
	for _, n := range []int{0, 7, 10, 99, 100, 65536, lastNumber} {
		want := fmt.Sprintf("unit 0 1\nnum 0 %d 0\nback 0 0 0\n", n)
		if s := impl.CodeText(codeOf(ended(0, 1, ins(impl.IxNum, 0, n, 0)))); string(s) != want {
			t.Errorf("the text is %q; want %q", s, want)
		}
	}
}

func TestCodeBytes(t *testing.T) {
	c := codeOf(unit(0, 2, ins(impl.IxNum, 1, lastNumber, 0), named(impl.IxPut, 0, 1, 0, "ab"), ins(impl.IxBack, 0, 0, 0)), unit(1, 24, ins(impl.IxBack, 23, 0, 0)))
	want := []byte{2,
		0, 2, 0, 0, 3,
		1, 0, 0, 1, 0x0f, 0x42, 0x3f, 0, 0, 0, 0,
		6, 0, 0, 0, 0, 0, 1, 0, 0, 0, 2, 'a', 'b',
		11, 0, 0, 0, 0, 0, 0, 0, 0, 0, 0,
		1, 24, 0, 0, 1,
		11, 0, 0, 23, 0, 0, 0, 0, 0, 0, 0}
	if b, ok := impl.CodeBytes(c); !ok || !bytes.Equal(b, want) {
		t.Errorf("the bytes are %v, %v; want %v", b, ok, want)
	}
	if d, ok := impl.CodeRead(want); !ok || !sameCode(d, c) {
		t.Errorf("from the bytes comes %v, %v; want %v", d, ok, c)
	}
	if b, _ := impl.CodeBytes(codeOf(ended(0, 2, ins(impl.IxBin, 0, 1, '=')))); !bytes.Equal(b[6:17], []byte{7, 0, 0, 0, 0, 0, 1, 0, 0, 61, 0}) {
		t.Errorf("an IxBin is %v", b[6:17])
	}
}

// Numbers that need one, two and three bytes.
func TestCodeBytesOfGreatNumbers(t *testing.T) {
	for n, want := range map[int][]byte{0: {0, 0, 0}, 1: {0, 0, 1}, 255: {0, 0, 255}, 256: {0, 1, 0}, 257: {0, 1, 1}, 65535: {0, 255, 255}, 65536: {1, 0, 0}, 65537: {1, 0, 1}, 66051: {1, 2, 3}, lastNumber: {15, 66, 63}} {
		c := codeOf(ended(0, 1, ins(impl.IxNum, 0, n, 0)))
		b, ok := impl.CodeBytes(c)
		if !ok || !bytes.Equal(b[10:13], want) {
			t.Errorf("%d is %v; want %v", n, b[10:13], want)
		}
		wantCode(t, fmt.Sprint("a number ", n), c, true)
	}
	for _, n := range []int{254, 255, 256, 257, 299} {
		long := ended(0, 1, ticks(299)...)
		long.L[5] = ins(impl.IxJump, n, 0, 0)
		long.L[6] = ins(impl.IxZero, 0, n, 0)
		wantCode(t, fmt.Sprint("a place ", n), codeOf(long), true)
		b, _ := impl.CodeBytes(codeOf(long))
		at := 6 + 5*11
		if !bytes.Equal(b[3:6], []byte{0, 1, 44}) || !bytes.Equal(b[at:at+4], []byte{8, 0, byte(n >> 8), byte(n)}) || !bytes.Equal(b[at+15:at+18], []byte{0, byte(n >> 8), byte(n)}) {
			t.Errorf("a place %d is %v", n, b[:at+22])
		}
	}
	// what would not fit into three bytes, or would come back as another
	for _, n := range []int{1 << 24, 1<<24 + 1, 1 << 32, -1 << 24} {
		wantCode(t, "too great", codeOf(ended(0, 1, ins(impl.IxNum, 0, n, 0))), false)
		wantCode(t, "too great", codeOf(ended(0, 1, ins(impl.IxNil, n, 0, 0))), false)
		wantCode(t, "too great", codeOf(ended(0, 1, ins(impl.IxTick, n, 0, 0))), false)
		wantCode(t, "too great", codeOf(ended(0, 1, ins(impl.IxTick, 0, 0, n))), false)
	}
}

func wantTargets(t *testing.T, what string, u impl.Unit, want ...int) {
	t.Helper()
	wantInts(t, what+": Targets", impl.Targets(u), want...)
}

func TestTargets(t *testing.T) {
	jump := func(n int) impl.Ins { return ins(impl.IxJump, n, 7, 7) }
	zero := func(n int) impl.Ins { return ins(impl.IxZero, 6, n, 6) }
	wantTargets(t, "none", impl.Unit{})
	wantTargets(t, "no jumps", ended(0, 1, ticks(5)...))
	wantTargets(t, "a jump", unit(0, 0, jump(0)), 0)
	wantTargets(t, "a zero", unit(0, 0, zero(0)), 0)
	wantTargets(t, "to itself and behind", unit(0, 0, jump(0), zero(2), impl.Ins{}), 0, 2)
	wantTargets(t, "falling", unit(0, 0, jump(4), zero(3), jump(2), zero(1), jump(0)), 0, 1, 2, 3, 4)
	wantTargets(t, "alike", unit(0, 0, jump(3), zero(3), zero(1), jump(1), jump(3)), 1, 3)
	wantTargets(t, "below", unit(0, 0, jump(-1), zero(-1), jump(math.MinInt), zero(-300), jump(1)), 1)
	wantTargets(t, "beyond", unit(0, 0, jump(4), zero(4), zero(5), jump(math.MaxInt)))
	wantTargets(t, "the last", unit(0, 0, jump(4), zero(3), zero(5), jump(300)), 3)
	for op := -1; op <= 15; op++ {
		if op != impl.IxJump && op != impl.IxZero {
			wantTargets(t, fmt.Sprint("op ", op), unit(0, 3, ins(op, 1, 2, 3), ins(op, 0, 1, 2), impl.Ins{}, impl.Ins{}))
		}
	}
	for _, op := range []int{impl.IxJump + 256, impl.IxZero - 256, impl.IxJump + 1<<32, math.MinInt, math.MaxInt} {
		wantTargets(t, fmt.Sprint("op ", op), unit(0, 3, ins(op, 1, 1, 1), impl.Ins{}))
	}
	wantTargets(t, "whatever else", unit(-9, 99, impl.Ins{Op: impl.IxJump, A: 1, B: -5, C: 9, Name: []byte("!")}, impl.Ins{Op: impl.IxZero, A: -4, B: 0, C: -1, Name: []byte("A")}), 0, 1)
}

func TestTargetsOfManyOrders(t *testing.T) {
	for _, n := range []int{299, 300, 301, 302, 10000} {
		u := unit(0, 1, ticks(n)...)
		u.L[0] = ins(impl.IxJump, n-1, 0, 0)
		u.L[n-1] = ins(impl.IxZero, 0, 5, 0)
		if n <= impl.MaxCode {
			wantTargets(t, fmt.Sprint(n, " orders"), u, 5, n-1)
		} else {
			wantTargets(t, fmt.Sprint(n, " orders"), u)
		}
	}
	all := unit(0, 1)
	var want []int
	for n := range 300 {
		all.L = append(all.L, ins(impl.IxZero+n%2*(impl.IxJump-impl.IxZero), 299-n, 299-n, 0))
		want = append(want, n)
	}
	wantTargets(t, "all places", all, want...)
}

func wantGreatest(t *testing.T, what string, u impl.Unit, want int) {
	t.Helper()
	if n := impl.Greatest(u); n != want {
		t.Errorf("%s: Greatest is %d; want %d", what, n, want)
	}
}

func TestGreatest(t *testing.T) {
	counts := []int{impl.IxNum, impl.IxNil, impl.IxMove, impl.IxNew, impl.IxGet, impl.IxBin, impl.IxCall, impl.IxWeak, impl.IxLive}
	wantGreatest(t, "none", impl.Unit{}, -1)
	for op := -2; op <= 17; op++ {
		want := func(n int) int {
			if slices.Contains(counts, op) {
				return n
			}
			return -1
		}
		what := fmt.Sprint("op ", op)
		for _, n := range []int{0, 1, 7, 23, 24, 300, math.MaxInt} {
			wantGreatest(t, what, unit(0, 1, ins(op, n, 99, 98)), want(n))
			wantGreatest(t, what+" first", unit(0, 1, ins(op, n, 0, 0), ins(op, 0, 99, 98), ins(op, -5, 0, 0)), want(n))
			wantGreatest(t, what+" last", unit(0, 1, ins(op, -1, 0, 0), ins(op, 0, 99, 98), ins(op, n, 0, 0)), want(n))
			wantGreatest(t, what+" beside another", unit(0, 1, ins(impl.IxNil, 3, 0, 0), ins(op, n, 0, 0), ins(impl.IxNew, 2, 0, 0)), max(3, want(n)))
		}
		for _, n := range []int{-1, -2, -300, math.MinInt} {
			wantGreatest(t, what, unit(0, 1, ins(op, n, 0, 0)), -1)
			wantGreatest(t, what, unit(0, 1, ins(op, n, 5, 6), ins(op, n-1, 5, 6)), want(max(-1, n-1)))
		}
	}
	for _, n := range []int{300, 301, 5000} {
		u := unit(0, 1, slices.Repeat([]impl.Ins{ins(impl.IxMove, 2, 9, 0)}, n)...)
		wantGreatest(t, fmt.Sprint(n, " orders"), u, 2)
		u.L[n-1].A = 11
		wantGreatest(t, fmt.Sprint(n, " orders, the last"), u, 11)
	}
	wantGreatest(t, "sample", sample().Units[0], 23)
	wantGreatest(t, "what asks with the next", unit(0, 9, ins(impl.IxBin, 3, 8, '+')), 3)
}

func TestSizes(t *testing.T) {
	c := sample()
	wantInts(t, "UnitSizes", impl.UnitSizes(c), 15, 2)
	if impl.SizeOf(c) != 17 || impl.OpsOf(c, impl.IxGet) != 2 || impl.OpsOf(c, impl.IxBack) != 2 || impl.OpsOf(c, impl.IxTick) != 1 {
		t.Errorf("sizes are %d, %d, %d, %d", impl.SizeOf(c), impl.OpsOf(c, impl.IxGet), impl.OpsOf(c, impl.IxBack), impl.OpsOf(c, impl.IxTick))
	}
	wantCode(t, "sample", c, true)
	one := codeOf(ended(0, 1))
	wantInts(t, "UnitSizes", impl.UnitSizes(one), 1)
	if impl.SizeOf(one) != 1 || impl.OpsOf(one, impl.IxBack) != 1 || impl.OpsOf(one, impl.IxTick) != 0 {
		t.Error("one order is not one")
	}
}
