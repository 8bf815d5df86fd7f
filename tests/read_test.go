package tests

// Promises 1 and 13, their parts of chapter 2: programs come back from their texts, and wrong texts are told by a place.

import (
	"bytes"
	"fmt"
	"math/rand"
	"slices"
	"strings"
	"testing"

	"loop.example/g00547/impl"
)

func TestProgTextOfEachForm(t *testing.T) {
	head, end := "func f ( ) { ", "; } \n"
	one := []impl.St{do(num(1))}
	for want, s := range map[string]impl.St{
		"let x = nil ":                let("x", nothing()),
		"set x = 0 ":                  set("x", num(0)),
		"set x . a = new ":            put(name("x"), "a", fresh()),
		"set 5 . a = 6 ":              put(num(5), "a", num(6)),
		"set x . a . b = nil ":        put(get(name("x"), "a"), "b", nothing()),
		"print 999999 ":               show(num(999999)),
		"return x . a . b ":           back(get(get(name("x"), "a"), "b")),
		"do f ( ) ":                   do(call("f")),
		"do f ( 1 ) ":                 do(call("f", num(1))),
		"do f ( 1 , g ( ) , new ) ":   do(call("f", num(1), call("g"), fresh())),
		"do ( 1 + 2 ) ":               do(bin(num(1), '+', num(2))),
		"do ( 1 - ( 2 * 3 ) ) ":       do(bin(num(1), '-', bin(num(2), '*', num(3)))),
		"do ( ( 1 < 2 ) = nil ) ":     do(bin(bin(num(1), '<', num(2)), '=', nothing())),
		"do ( 1 + 2 ) . a ":           do(get(bin(num(1), '+', num(2)), "a")),
		"do weak ( new ) . a ":        do(get(weak(fresh()), "a")),
		"do live ( weak ( x . a ) ) ": do(live(weak(get(name("x"), "a")))),
		"while x { } ":                loop(name("x")),
		"while 0 { do 1 ; do 1 ; } ":  loop(num(0), one[0], one[0]),
		"if x { } ":                   choose(name("x"), nil, nil),
		"if x { do 1 ; } ":            choose(name("x"), one, []impl.St{}),
		"if x { } else { do 1 ; } ":   choose(name("x"), nil, one),
		"if x { do 1 ; } else { if y { } ; do 1 ; } ": choose(name("x"), one, []impl.St{choose(name("y"), nil, nil), one[0]}),
	} {
		p := prog(fun("f", "", s))
		if got := string(impl.ProgText(p)); got != head+want+end {
			t.Errorf("%q, not %q", got, head+want+end)
		}
		if q, bad := impl.ProgRead([]byte(head + want + end)); bad != -1 || !sameProg(p, q) {
			t.Errorf("%q is read as %v, %d", want, q, bad)
		}
	}
}

func TestProgTextOfFunctions(t *testing.T) {
	p := prog(fun("main", ""), fun("f", "a"), fun("g", "c b a", back(name("b"))), fun("f", "a a"))
	want := "func main ( ) { } \nfunc f ( a ) { } \nfunc g ( c , b , a ) { return b ; } \nfunc f ( a , a ) { } \n"
	if got := string(impl.ProgText(p)); got != want {
		t.Errorf("%q", got)
	}
	if q, bad := impl.ProgRead([]byte(want)); bad != -1 || !sameProg(p, q) {
		t.Errorf("%v, %d", q, bad)
	}
}

func TestProgReadWithoutGaps(t *testing.T) {
	p := mustRead(t, "func f(){let x=new;set x.a=(1+f());if x{print x.a;}else{};while nil{};}func g(a,b){return(a<b);}")
	want := "func f ( ) { let x = new ; set x . a = ( 1 + f ( ) ) ; if x { print x . a ; } ; while nil { } ; } \nfunc g ( a , b ) { return ( a < b ) ; } \n"
	if got := string(impl.ProgText(p)); got != want {
		t.Errorf("%q", got)
	}
	if q := mustRead(t, "\n\n"+strings.ReplaceAll(want, " ", "\n ")); !sameProg(p, q) {
		t.Errorf("%v", q)
	}
}

func wantPlace(t *testing.T, s string, at int) {
	t.Helper()
	p, bad := impl.ProgRead([]byte(s))
	if bad != at || len(p.Funcs) != 0 {
		t.Errorf("%q: %v, %d; want nothing, %d", s, p, bad, at)
	}
}

// wantMark takes the place from a mark: it stands ahead of the token that can't stand.
func wantMark(t *testing.T, s string) {
	t.Helper()
	at := strings.Index(s, "@")
	wantPlace(t, s[:at]+s[at+1:], at)
}

func TestProgReadOfWhatIsNoToken(t *testing.T) {
	for _, s := range []string{
		"@?", "func f() { @? }", "func f() { } @?", "func f() { print @01; }", "func f() { print @1234567; }",
		"func @abcdefg() { }", "func f() { let x = 1; @X }", "nil ( @? func", // words ahead of their order
		"func f() { @\t}",
	} {
		wantMark(t, s)
	}
	good := "func f() { }"
	mustRead(t, good+strings.Repeat(" ", impl.MaxText-len(good)))
	wantPlace(t, good+strings.Repeat(" ", impl.MaxText-len(good)+1), 0)
	wantPlace(t, strings.Repeat("?", impl.MaxText+1), 0)
	wantPlace(t, strings.Repeat("; ", impl.MaxText), 0)
}

func TestProgReadOfWhatCannotStand(t *testing.T) {
	for _, s := range []string{
		"@main", "@nil", "@;", "@1", "func f() { } @}", "func f() { } @;", "func f() { } @f",
		"func @(", "func @1", "func @func", "func @weak() { }", "func f @{", "func f @f", "func f(@1", "func f(@,", "func f(@let", "func f(a @b", "func f(a,@)", "func f(a,@nil)", "func f(a @{",
		"func f() @;", "func f() @print", "func f() { @1", "func f() { @;", "func f() { @x = 1; }", "func f() { @else { } }", "func f() { @new; }", "func f() { @{ } }", "func f() { @func",
		"func f() { let @1", "func f() { let @let = 1; }", "func f() { let x @1", "func f() { let x @. a = 1; }", "func f() { let x = @;", "func f() { let x = 1 @}", "func f() { let x = 1 @= 2; }", "func f() { let @( x ) = 1; }",
		"func f() { set x @1", "func f() { set x @;", "func f() { set x.@1", "func f() { set x.@new = 1", "func f() { set x.a @;", "func f() { set x.a @(", "func f() { set x = @;", "func f() { set x = 1 @= 2",
		"func f() { set nil @= 1", "func f() { set 1 @= 2", "func f() { set new @= 1", "func f() { set f() @= 1", "func f() { set (1 + 2) @= 1", "func f() { set weak(x) @= 1", "func f() { set live(x) @;", "func f() { set 1 @nil", "func f() { set f(x) @}", "func f() { set @= 1; }", "func f() { set @let = 1; }",
		"func f() { print @;", "func f() { print @}", "func f() { print 1 @}", "func f() { print 1 @, 2; }", "func f() { print @-1; }", "func f() { print 1 @+ 2; }", "func f() { print 1 @2", "func f() { print x @x", "func f() { print @print", "func f() { print @else",
		"func f() { return @; }", "func f() { do @; }", "func f() { do x @= 1; }",
		"func f() { if @{ }", "func f() { if 1 @;", "func f() { if 1 @print", "func f() { if 1 { } @}", "func f() { if 1 { } else @if", "func f() { if 1 { } else @;", "func f() { if 1 { } else { } @else { }", "func f() { if 1 { } else { } @}", "func f() { if 1 { print 1; @else", "func f() { if 1 { print 1 @} ; }",
		"func f() { while @{ }", "func f() { while 1 @;", "func f() { while 1 { } @else { }; }", "func f() { while 1 { } @}",
		"func f() { do nil@(", "func f() { do 1@(", "func f() { do new@(", "func f() { do nil.@nil", "func f() { do x.@1", "func f() { do x.@(", "func f() { do x.a@(", "func f() { do f()@(", "func f() { do f(@;", "func f() { do f(@,", "func f() { do f(1 @2", "func f() { do f(1,@)", "func f() { do f(1 @; 2)", "func f() { do f(@func(", "func f() { do @func(",
		"func f() { do (@)", "func f() { do (1@)", "func f() { do (1 @2)", "func f() { do (1 @, 2)", "func f() { do (1. @2)", "func f() { do (1 + @)", "func f() { do (1 + 2 @+ 3)", "func f() { do (1 + 2@;", "func f() { do (1 @{", "func f() { do (1 < @< 2)", "func f() { do (1 = @= 2)",
		"func f() { do weak @x", "func f() { do weak @;", "func f() { do weak(@)", "func f() { do weak(1 @, 2)", "func f() { do live @.", "func f() { do live(@;", "func f() { do live(1 @2",
	} {
		wantMark(t, s)
	}
}

// Each word that is kept, where a name would stand.
func TestProgReadOfKeptWords(t *testing.T) {
	for _, w := range []string{"func", "let", "set", "print", "return", "if", "else", "while", "do", "nil", "new", "weak", "live"} {
		for _, ahead := range []string{"func ", "func f(", "func f(a, ", "func f() { let ", "func f() { set x.", "func f() { print x."} {
			wantMark(t, ahead+"@"+w+" ) { }")
		}
		if strings.Contains(" nil new weak live ", " "+w+" ") {
			continue
		}
		for _, ahead := range []string{"func f() { print ", "func f() { set ", "func f() { do f(", "func f() { do f(1, ", "func f() { do (", "func f() { do (1 + ", "func f() { do weak("} {
			wantMark(t, ahead+"@"+w+" ) { }")
		}
	}
}

func TestProgReadOfTextsThatEndTooEarly(t *testing.T) {
	whole := "func f ( a , b ) { let x = nil ; set x = ( 1 + 2 ) ; set x . a = f ( x , 2 ) ; if x { print live ( x ) ; } else { } ; while new { do weak ( x . a ) ; } ; return ( 1 < 2 ) ; }"
	mustRead(t, whole)
	for i, c := range whole {
		if c == ' ' {
			wantPlace(t, whole[:i], i)
			wantPlace(t, whole[:i]+" \n ", i+3)
		}
	}
	for _, s := range []string{"", " ", "\n\n", "func", "func f() {", "func f() { if 1 { }", "func f() { } func"} {
		wantPlace(t, s, len(s))
	}
	if p, bad := impl.ProgRead(nil); bad != 0 || len(p.Funcs) != 0 {
		t.Errorf("nil is read as %v, %d", p, bad)
	}
}

// What reads well and is not FormOk is refused where the text ends.
func TestProgReadOfWhatIsNotFormOk(t *testing.T) {
	in := func(s string) string { return "func f() { " + s + " } " }
	for good, bad := range map[string]string{
		"func f(a, b, c) { }":                                           "func f(a, b, c, d) { }",
		strings.Repeat("func f() { } ", 4):                              strings.Repeat("func f() { } ", 5),
		in("do f(1, 2, 3);"):                                            in("do f(1, 2, 3, 4);"),
		in(strings.Repeat("do 1;", 45)):                                 in(strings.Repeat("do 1;", 46)),
		in(strings.Repeat("do 1;", 45)) + in(""):                        in(strings.Repeat("do 1;", 45)) + in("do 1;"),
		in("do x.a.a.a.a;"):                                             in("do x.a.a.a.a.a;"),
		in("do weak(weak(weak(weak(1))));"):                             in("do weak(weak(weak(weak(weak(1)))));"),
		in("while 1 { while 1 { while 1 { while 1 { do 1; }; }; }; };"): in("while 1 { while 1 { while 1 { while 1 { do weak(1); }; }; }; };"),
	} {
		mustRead(t, good)
		wantPlace(t, bad, len(bad))
		wantPlace(t, bad+" \n", len(bad)+2)
	}
	// What cannot stand comes first, wherever it is.
	wantMark(t, "func f(a, b, c, d) { @; }")
	wantMark(t, in("do f(1, 2, 3, 4);")+"@;")
	wantMark(t, in("do x.a.a.a.a.a.a.a.a @a;"))
	open := strings.Repeat("(", impl.MaxText-13)
	wantPlace(t, "func f() { do"+open, impl.MaxText)
	wantPlace(t, "func f() { do"+open[1:]+"}", impl.MaxText-1)
}

func TestProgReadOfAnEmptyElse(t *testing.T) {
	p := mustRead(t, "func f() { if 1 { } else { }; }")
	q := mustRead(t, "func f() { if 1 { }; }")
	if !sameProg(p, q) || string(impl.ProgText(p)) != "func f ( ) { if 1 { } ; } \n" {
		t.Errorf("%v, %v", p, q)
	}
}

func TestProgReadWantsNoProgOk(t *testing.T) {
	for _, s := range []string{"func f(a) { }", "func f() { print x; }", "func f() { } func f() { }", "func f() { do g(1); let x = x; }"} {
		mustRead(t, s)
	}
}

// What the texts of programs are, for a reader that goes through all ways at once: it finds the first token behind which no text goes on, and shares no thought with ProgRead. An empty list of a name is the empty way.
var grammar = map[string][][]string{
	"PROG":   {{}, {"FUNC", "PROG"}},
	"FUNC":   {{"func", "name", "(", "PARAMS", ")", "BLOCK"}},
	"PARAMS": {{}, {"name", "MORE"}},
	"MORE":   {{}, {",", "name", "MORE"}},
	"BLOCK":  {{"{", "STS", "}"}},
	"STS":    {{}, {"ST", ";", "STS"}},
	"ST": {{"let", "name", "=", "E"}, {"set", "name", "=", "E"}, {"set", "E", ".", "name", "=", "E"}, {"print", "E"}, {"return", "E"}, {"do", "E"},
		{"while", "E", "BLOCK"}, {"if", "E", "BLOCK"}, {"if", "E", "BLOCK", "else", "BLOCK"}},
	"E":    {{"nil"}, {"num"}, {"name"}, {"new"}, {"E", ".", "name"}, {"name", "(", "ARGS", ")"}, {"(", "E", "SIGN", "E", ")"}, {"weak", "(", "E", ")"}, {"live", "(", "E", ")"}},
	"ARGS": {{}, {"E", "REST"}},
	"REST": {{}, {",", "E", "REST"}},
	"SIGN": {{"+"}, {"-"}, {"*"}, {"<"}, {"="}},
}

type way struct {
	head string
	rule int
	done int
	from int
}

func (w way) wants() string {
	if r := grammar[w.head][w.rule]; w.done < len(r) {
		return r[w.done]
	}
	return ""
}

type ways struct {
	seen map[way]bool
	l    []way
}

func (s *ways) add(w way) {
	if !s.seen[w] {
		s.seen[w] = true
		s.l = append(s.l, w)
	}
}

// spread adds all ways that begin or go on where set at is, without a token.
func spread(sets []*ways, at int) {
	s := sets[at]
	ended := map[string]bool{} // what began here and has ended here already
	for i := 0; i < len(s.l); i++ {
		w := s.l[i]
		switch want := w.wants(); {
		case want == "":
			if w.from == at {
				ended[w.head] = true
			}
			for _, x := range slices.Clone(sets[w.from].l) {
				if x.wants() == w.head {
					x.done++
					s.add(x)
				}
			}
		case grammar[want] != nil:
			for rule := range grammar[want] {
				s.add(way{want, rule, 0, at})
			}
			if ended[want] {
				w.done++
				s.add(w)
			}
		}
	}
}

func tokenClass(x impl.Token) string {
	switch {
	case x.Kind == impl.TkNum:
		return "num"
	case x.Kind == impl.TkWord && !impl.Kept(x.Text):
		return "name"
	}
	return string(x.Text)
}

// readsTo tells the first token that can't stand, or how many there are where one lacks, or -1.
func readsTo(l []impl.Token) int {
	sets := []*ways{{seen: map[way]bool{}}}
	for rule := range grammar["PROG"] {
		sets[0].add(way{"PROG", rule, 0, 0})
	}
	spread(sets, 0)
	for i, x := range l {
		next := &ways{seen: map[way]bool{}}
		for _, w := range sets[i].l {
			if w.wants() == tokenClass(x) {
				w.done++
				next.add(w)
			}
		}
		if len(next.l) == 0 {
			return i
		}
		sets = append(sets, next)
		spread(sets, i+1)
	}
	for _, w := range sets[len(l)].l {
		if w.head == "PROG" && w.from == 0 && w.wants() == "" {
			return -1
		}
	}
	return len(l)
}

func wantAsByAllWays(t *testing.T, text string) {
	t.Helper()
	l, at := impl.Tokens([]byte(text))
	if at == -1 {
		if n := readsTo(l); n == len(l) {
			at = len(text)
		} else if n >= 0 {
			at = l[n].At
		}
	}
	p, bad := impl.ProgRead([]byte(text))
	if at == -1 && bad == len(text) {
		return // not FormOk
	}
	if bad != at {
		t.Fatalf("%q: place %d, not %d", text, bad, at)
	}
	if bad == -1 {
		wantBack(t, p)
	}
}

// wantBack is promise 1 of a program.
func wantBack(t *testing.T, p impl.Prog) {
	t.Helper()
	s := impl.ProgText(p)
	if len(s) == 0 {
		t.Fatalf("%v has no text", p)
	}
	q, bad := impl.ProgRead(s)
	if len(s) > impl.MaxText {
		if bad != 0 {
			t.Fatalf("%d bytes are read: %d", len(s), bad)
		}
		return
	}
	if bad != -1 || !sameProg(p, q) || !bytes.Equal(impl.ProgText(q), s) {
		t.Fatalf("%q comes back as %q, %d", s, impl.ProgText(q), bad)
	}
}

var pieces = []string{"func", "let", "set", "print", "return", "if", "else", "while", "do", "nil", "new", "weak", "live", "x", "f", "7",
	"(", ")", "{", "}", ".", ",", "=", "+", "-", "*", "<", ";"}

// Behind each beginning of a text, each token.
func TestProgReadOfEachTokenAtEachPlace(t *testing.T) {
	whole := strings.Fields("func f ( a , b ) { let x = nil ; set x = ( 1 + f ( ) ) ; set x . a = f ( x , 2 ) ; set f ( ) . a . b = new ; if x . a { print live ( x ) ; } else { } ; while new { do weak ( x . a ) . b ; } ; return ( 1 < 2 ) ; } func g ( ) { }")
	for i := range len(whole) + 1 {
		for _, piece := range pieces {
			wantAsByAllWays(t, strings.Join(whole[:i], " ")+" "+piece)
		}
	}
}

func TestProgReadOfAllShortRows(t *testing.T) {
	ahead := "func f() { "
	for _, x := range []struct {
		ahead string
		l     []string
	}{
		{ahead + "set ", []string{"x", "7", ".", "=", "(", ")", "+", "nil"}},
		{ahead + "do ", []string{"x", "(", ")", ",", ".", "weak", "<"}},
		{ahead, []string{"if", "x", "{", "}", "else", ";", "do"}},
		{"", []string{"func", "f", "(", ")", "{", "}", ","}},
	} {
		gaps := make([]string, len(x.l))
		for i, s := range x.l {
			gaps[i] = s + " "
		}
		eachText(gaps, 5, func(s string) { wantAsByAllWays(t, x.ahead+s) })
	}
}

// A maker makes programs of all forms, from a seed.
type maker struct{ *rand.Rand }

func (m maker) name() string { return []string{"x", "f", "g", "abcdef", "q"}[m.Intn(5)] }

func (m maker) expression(deep int) impl.Ex {
	if deep == 0 || m.Intn(3) == 0 {
		return []impl.Ex{nothing(), num(m.Intn(1000000)), num(m.Intn(3)), name(m.name()), fresh(), call(m.name())}[m.Intn(6)]
	}
	below := func() impl.Ex { return m.expression(deep - 1) }
	switch m.Intn(6) {
	case 0:
		return get(below(), m.name())
	case 1:
		e := call(m.name())
		for range m.Intn(4) {
			e.Args = append(e.Args, below())
		}
		return e
	case 2:
		return weak(below())
	case 3:
		return live(below())
	}
	return bin(below(), "+-*<="[m.Intn(5)], below())
}

func (m maker) block(deep int) []impl.St {
	var l []impl.St
	for range m.Intn(4) {
		l = append(l, m.statement(deep))
	}
	return l
}

func (m maker) statement(deep int) impl.St {
	e := m.expression(m.Intn(deep + 1))
	kind := m.Intn(8)
	if deep == 0 && (kind == impl.StIf || kind == impl.StWhile) {
		kind = impl.StDo
	}
	switch kind {
	case impl.StLet, impl.StSet:
		return impl.St{Kind: kind, Name: []byte(m.name()), E: e}
	case impl.StPut:
		return put(e, m.name(), m.expression(m.Intn(deep+1)))
	case impl.StIf:
		return choose(e, m.block(deep-1), m.block(deep-1))
	case impl.StWhile:
		return loop(e, m.block(deep-1)...)
	}
	return impl.St{Kind: kind, E: e}
}

func (m maker) program(deep int) impl.Prog {
	var p impl.Prog
	for range 1 + m.Intn(impl.MaxFuncs) {
		p.Funcs = append(p.Funcs, fun(m.name(), strings.Repeat(m.name()+" ", m.Intn(4)), m.block(deep)...))
	}
	return p
}

// sizeOf counts parts and depth in another way than by going down with a depth.
func sizeOfEx(e impl.Ex) (n, deep int) {
	for _, x := range e.Args {
		m, d := sizeOfEx(x)
		n, deep = n+m, max(deep, d)
	}
	return n + 1, deep + 1
}

func sizeOfSts(l []impl.St) (n, deep int) {
	for _, s := range l {
		m, d := sizeOfEx(s.E)
		if s.Kind == impl.StPut {
			k, c := sizeOfEx(s.F)
			m, d = m+k, max(d, c)
		}
		for _, b := range [][]impl.St{s.Body, s.Else} {
			k, c := sizeOfSts(b)
			m, d = m+k, max(d, c)
		}
		n, deep = n+m+1, max(deep, d+1)
	}
	return n, deep
}

func TestMadeProgramsComeBack(t *testing.T) {
	m := maker{rand.New(rand.NewSource(1))}
	good, bad := 0, 0
	for range 20000 {
		p := m.program(m.Intn(6))
		n, deep := 0, 0
		for _, f := range p.Funcs {
			k, d := sizeOfSts(f.Body)
			n += k
			if d > 0 {
				deep = max(deep, d+1)
			}
		}
		want := n <= impl.MaxNodes && deep <= impl.MaxDeep
		if impl.FormOk(p) != want {
			t.Fatalf("%d parts, depth %d: FormOk is not %v", n, deep, want)
		}
		if !want {
			bad++
			continue
		}
		good++
		if impl.Nodes(p) != n || impl.Deepest(p) != deep {
			t.Fatalf("%d parts, depth %d; want %d, %d", impl.Nodes(p), impl.Deepest(p), n, deep)
		}
		wantBack(t, p)
		wantPartsOfAllKinds(t, p)
	}
	if good < 1000 || bad < 1000 {
		t.Errorf("%d good, %d bad: the test sees too few", good, bad)
	}
}

// wantPartsOfAllKinds is promise 13 of a program, and what promise 1 says of names.
func wantPartsOfAllKinds(t *testing.T, p impl.Prog) {
	t.Helper()
	for _, f := range p.Funcs {
		for _, l := range [][][]byte{impl.Locals(f), impl.Calls(f)} {
			for i, s := range l {
				if slices.ContainsFunc(l[:i], func(b []byte) bool { return bytes.Equal(b, s) }) {
					t.Fatalf("%q twice in %q", s, l)
				}
			}
		}
	}
	if !impl.ProgOk(p) {
		wantNotOk(t, "a made program", p)
		return
	}
	n := 0
	for kind := impl.StLet; kind <= impl.StDo; kind++ {
		n += impl.CountSts(p, kind)
	}
	for kind := impl.ExNil; kind <= impl.ExLive; kind++ {
		n += impl.CountExs(p, kind)
	}
	if n != impl.Nodes(p) || n > impl.MaxNodes || impl.Deepest(p) > impl.MaxDeep {
		t.Fatalf("%d parts of all kinds, %d in all", n, impl.Nodes(p))
	}
	for i, f := range p.Funcs {
		if impl.FuncAt(p, f.Name) != i || string(impl.AllNames(p)[i]) != string(f.Name) {
			t.Fatalf("function %d is not where it is", i)
		}
		for _, s := range impl.Calls(f) {
			if impl.FuncAt(p, s) < 0 {
				t.Fatalf("%q is called, but is no function", s)
			}
		}
	}
	if impl.HasLoop(p) != (impl.CountSts(p, impl.StWhile) > 0) || impl.UsesWeak(p) != (impl.CountExs(p, impl.ExWeak)+impl.CountExs(p, impl.ExLive) > 0) {
		t.Fatal("kinds that are counted are not there, or the other way round")
	}
}

func TestSpoiledTexts(t *testing.T) {
	m := maker{rand.New(rand.NewSource(2))}
	for range 3000 {
		p := m.program(m.Intn(4))
		l := strings.Fields(string(impl.ProgText(p)))
		if len(l) == 0 || len(l) > 120 {
			continue
		}
		for range 1 + m.Intn(2) {
			i := m.Intn(len(l))
			piece := pieces[m.Intn(len(pieces))]
			switch m.Intn(3) {
			case 0:
				l[i] = piece
			case 1:
				l = slices.Insert(l, i, piece)
			default:
				l = slices.Delete(l, i, i+1)
			}
			if len(l) == 0 {
				break
			}
		}
		wantAsByAllWays(t, strings.Join(l, []string{" ", "\n", "  "}[m.Intn(3)]))
	}
}

// right are texts that are ProgOk, for what only such programs tell.
var right = []string{
	"func main() { let x = new; set x.a = (1 + f(x)); if x { print x.a; } else { do live(weak(x)); }; while nil { }; } func f(p) { return 2; }",
	"func f() { }",
	"func f() { do f(); do g(1, h(2)); } func g(a, b) { return (a * b); } func h(a) { while (a < 9) { set a = (a + 1); }; return a; }",
}

func TestPartsOfRightPrograms(t *testing.T) {
	for _, s := range right {
		p := mustRead(t, s)
		if !impl.ProgOk(p) {
			t.Fatalf("%q is not ProgOk", s)
		}
		wantPartsOfAllKinds(t, p)
	}
}

// What a function answers is new memory, and an argument stays as it was.

// A tracker makes a program anew with spare room behind each of its lists, and knows all of this memory.
type tracker struct {
	bytes [][]byte
	exs   [][]impl.Ex
	sts   [][]impl.St
	names [][][]byte
	funcs [][]impl.Func
}

func (k *tracker) text(b []byte) []byte {
	whole := append(slices.Clone(b), "zz"...)
	k.bytes = append(k.bytes, whole)
	return whole[:len(b)]
}

func (k *tracker) expressions(l []impl.Ex) []impl.Ex {
	whole := make([]impl.Ex, 0, len(l)+1)
	for _, e := range l {
		whole = append(whole, k.expression(e))
	}
	whole = append(whole, num(77))
	k.exs = append(k.exs, whole)
	return whole[:len(l)]
}

func (k *tracker) expression(e impl.Ex) impl.Ex {
	return impl.Ex{Kind: e.Kind, N: e.N, Name: k.text(e.Name), Args: k.expressions(e.Args)}
}

func (k *tracker) statements(l []impl.St) []impl.St {
	whole := make([]impl.St, 0, len(l)+1)
	for _, s := range l {
		whole = append(whole, impl.St{Kind: s.Kind, Name: k.text(s.Name), E: k.expression(s.E), F: k.expression(s.F), Body: k.statements(s.Body), Else: k.statements(s.Else)})
	}
	whole = append(whole, let("spare", call("spare")))
	k.sts = append(k.sts, whole)
	return whole[:len(l)]
}

func (k *tracker) program(p impl.Prog) impl.Prog {
	whole := make([]impl.Func, 0, len(p.Funcs)+1)
	for _, f := range p.Funcs {
		var params [][]byte
		for _, s := range f.Params {
			params = append(params, k.text(s))
		}
		params = append(params, []byte("spare"))
		k.names = append(k.names, params)
		whole = append(whole, impl.Func{Name: k.text(f.Name), Params: params[:len(f.Params)], Body: k.statements(f.Body)})
	}
	whole = append(whole, fun("spare", "spare"))
	k.funcs = append(k.funcs, whole)
	return impl.Prog{Funcs: whole[:len(p.Funcs)]}
}

// picture shows all of the memory, with what lies behind the lists.
func (k *tracker) picture() string { return fmt.Sprint(*k) }

func spoil(l [][]byte) {
	for _, b := range l {
		for i := range b[:cap(b)] {
			b[:cap(b)][i] = '!'
		}
	}
	for i := range l[:cap(l)] {
		l[:cap(l)][i] = []byte("?")
	}
}

// answers are all that is told of a program, as one text; each answer is spoiled once it is copied.
func answers(p impl.Prog) string {
	var b strings.Builder
	tell := func(l [][]byte) {
		b.WriteString(names(l) + "|")
		spoil(l)
	}
	tell([][]byte{impl.ProgText(p)})
	tell(impl.AllNames(p))
	for _, f := range p.Funcs {
		tell(impl.Locals(f))
		tell(impl.Calls(f))
		b.WriteByte(byte('5' + impl.FuncAt(p, f.Name)))
	}
	for _, ok := range []bool{impl.FormOk(p), impl.ProgOk(p), impl.UsesWeak(p), impl.HasLoop(p)} {
		if ok {
			b.WriteByte('+')
		}
	}
	for kind := range 9 {
		b.WriteByte(byte('5' + impl.CountSts(p, kind) + impl.CountExs(p, kind)))
	}
	b.WriteByte(byte('5' + impl.Nodes(p) + impl.Deepest(p)))
	return b.String()
}

func TestProgramsAreOnlyRead(t *testing.T) {
	m := maker{rand.New(rand.NewSource(3))}
	l := []impl.Prog{}
	for _, s := range right {
		l = append(l, mustRead(t, s))
	}
	for range 300 {
		l = append(l, m.program(2))
	}
	for _, p := range l {
		var k tracker
		q := k.program(p)
		before := k.picture()
		got := answers(q)
		if k.picture() != before {
			t.Fatalf("%q is changed", impl.ProgText(p))
		}
		if want := answers(p); got != want || answers(q) != want {
			t.Fatalf("what lies behind the lists of %q is read", impl.ProgText(p))
		}
	}
}

func TestProgReadSharesNothing(t *testing.T) {
	for _, s := range right {
		b, whole := roomy(s)
		before := bytes.Clone(whole)
		p, bad := impl.ProgRead(b)
		if bad != -1 || !bytes.Equal(whole, before) {
			t.Fatalf("%q is changed, or what lies behind it is read: %d", s, bad)
		}
		for i := range whole {
			whole[i] = 'q'
		}
		if !sameProg(p, mustRead(t, s)) {
			t.Errorf("the program changes with %q", s)
		}
		wantApart(t, p)
	}
}

func wantApart(t *testing.T, p impl.Prog) {
	t.Helper()
	var all [][]byte
	var ofEx func(impl.Ex)
	ofEx = func(e impl.Ex) {
		all = append(all, e.Name)
		for _, x := range e.Args {
			ofEx(x)
		}
	}
	var ofSts func([]impl.St)
	ofSts = func(l []impl.St) {
		for _, s := range l {
			all = append(all, s.Name)
			ofEx(s.E)
			ofEx(s.F)
			ofSts(s.Body)
			ofSts(s.Else)
		}
	}
	for _, f := range p.Funcs {
		all = append(append(all, f.Name), f.Params...)
		ofSts(f.Body)
	}
	wantNamesApart(t, all)
}

// wantNamesApart changes each name, with the room behind it, and looks whether one behind it changes.
func wantNamesApart(t *testing.T, l [][]byte) {
	t.Helper()
	for i, b := range l {
		if slices.Contains(b, '!') {
			t.Errorf("name %d changes with one ahead of it", i)
		}
		for j := range b[:cap(b)] {
			b[:cap(b)][j] = '!'
		}
	}
}

func TestProgTextAndNamesShareNothing(t *testing.T) {
	p := mustRead(t, right[0])
	f := p.Funcs[1]
	l := impl.Locals(f)
	again := impl.Locals(f)
	spoil(l)
	if names(again) != "p" || names(f.Params) != "p" {
		t.Error("Locals share with Params, or with each other")
	}
	a, b := impl.AllNames(p), impl.AllNames(p)
	spoil(a)
	if names(b) != "main f" || string(p.Funcs[0].Name) != "main" {
		t.Error("AllNames share with the program, or with each other")
	}
	wantNamesApart(t, impl.Locals(fun("f", "a b c", let("d", nothing()))))
	wantNamesApart(t, impl.Calls(fun("f", "", do(call("a")), do(call("b")), do(call("c")))))
	wantNamesApart(t, b)
}
