package tests

// Promise 1, its part of chapter 1: words, tokens and lines.

import (
	"bytes"
	"math"
	"regexp"
	"strconv"
	"strings"
	"testing"

	"loop.example/g00547/impl"
)

const allSigns = "(){}.,=+-*<;"

func word(at int, text string) impl.Token {
	return impl.Token{Kind: impl.TkWord, At: at, Text: []byte(text)}
}

func number(at int, n int) impl.Token {
	return impl.Token{Kind: impl.TkNum, At: at, N: n}
}

func sign(at int, text string) impl.Token {
	return impl.Token{Kind: impl.TkSign, At: at, Text: []byte(text)}
}

func sameToken(a, b impl.Token) bool {
	return a.Kind == b.Kind && a.N == b.N && bytes.Equal(a.Text, b.Text)
}

// sameTokens compares where the tokens are only if places says so.
func sameTokens(a, b []impl.Token, places bool) bool {
	if len(a) != len(b) {
		return false
	}
	for i := range a {
		if !sameToken(a[i], b[i]) || places && a[i].At != b[i].At {
			return false
		}
	}
	return true
}

func wantTokens(t *testing.T, text string, want ...impl.Token) {
	t.Helper()
	got, bad := impl.Tokens([]byte(text))
	if bad != -1 || !sameTokens(got, want, true) {
		t.Errorf("Tokens(%q) = %v, %d; want %v, -1", text, got, bad, want)
	}
}

func wantRefused(t *testing.T, text string, at int) {
	t.Helper()
	got, bad := impl.Tokens([]byte(text))
	if bad != at || len(got) != 0 {
		t.Errorf("Tokens(%q) = %v, %d; want nothing, %d", text, got, bad, at)
	}
}

func TestWordOk(t *testing.T) {
	for _, s := range []string{"a", "z", "m", "az", "abcdef", "zzzzzz", "func", "while", "live"} {
		if !impl.WordOk([]byte(s)) {
			t.Errorf("WordOk(%q) is false", s)
		}
	}
	for _, s := range []string{"", "abcdefg", strings.Repeat("a", 3000), "A", "aB", "a1", "1", " a", "a ", "a_b", "é", "a\n", "a\x00"} {
		if impl.WordOk([]byte(s)) {
			t.Errorf("WordOk(%q) is true", s)
		}
	}
	if impl.WordOk(nil) {
		t.Error("WordOk(nil) is true")
	}
}

func TestWordOkOfEachByte(t *testing.T) {
	for c := range 256 {
		want := 'a' <= c && c <= 'z'
		if impl.WordOk([]byte{byte(c)}) != want || impl.WordOk([]byte{'a', byte(c)}) != want {
			t.Errorf("WordOk of byte %d is not %v", c, want)
		}
	}
}

func TestKept(t *testing.T) {
	for _, s := range []string{"func", "let", "set", "print", "return", "if", "else", "while", "do", "nil", "new", "weak", "live"} {
		if !impl.Kept([]byte(s)) || !impl.WordOk([]byte(s)) {
			t.Errorf("%q is not a word that is kept", s)
		}
	}
	for _, s := range []string{"", "x", "fun", "funcs", "Func", " if", "if ", "for", "then", "main", "lets", "wea", "alive"} {
		if impl.Kept([]byte(s)) {
			t.Errorf("Kept(%q) is true", s)
		}
	}
	if impl.Kept(nil) {
		t.Error("Kept(nil) is true")
	}
}

func TestTokensOfOrdinaryTexts(t *testing.T) {
	wantTokens(t, "let x = 1;", word(0, "let"), word(4, "x"), sign(6, "="), number(8, 1), sign(9, ";"))
	wantTokens(t, "f(a,b)", word(0, "f"), sign(1, "("), word(2, "a"), sign(3, ","), word(4, "b"), sign(5, ")"))
	wantTokens(t, "  a\n\nb \n", word(2, "a"), word(5, "b"))
	wantTokens(t, "a12b", word(0, "a"), number(1, 12), word(3, "b"))
	wantTokens(t, "1 2\n3", number(0, 1), number(2, 2), number(4, 3))
	wantTokens(t, "==", sign(0, "="), sign(1, "="))
	wantTokens(t, "-5", sign(0, "-"), number(1, 5))
	wantTokens(t, "abcdef abcdef", word(0, "abcdef"), word(7, "abcdef"))
}

func TestTokensOfEdges(t *testing.T) {
	wantTokens(t, "a", word(0, "a"))
	wantTokens(t, "abcdef", word(0, "abcdef"))
	wantTokens(t, "abcdef1", word(0, "abcdef"), number(6, 1))
	wantTokens(t, "while", word(0, "while"))
	wantTokens(t, "0", number(0, 0))
	wantTokens(t, "10", number(0, 10))
	wantTokens(t, "100000", number(0, 100000))
	wantTokens(t, "999999", number(0, 999999))
	wantTokens(t, "0 0", number(0, 0), number(2, 0))
	wantTokens(t, "0a0", number(0, 0), word(1, "a"), number(2, 0))
	wantTokens(t, "")
	wantTokens(t, " ")
	wantTokens(t, "\n \n")
	if l, bad := impl.Tokens(nil); len(l) != 0 || bad != -1 {
		t.Errorf("Tokens(nil) = %v, %d", l, bad)
	}
}

func TestTokensRefused(t *testing.T) {
	wantRefused(t, "abcdefg", 0)
	wantRefused(t, "a abcdefg b", 2)
	wantRefused(t, "a = abcdefghijklmn", 4)
	wantRefused(t, "1234567", 0)
	wantRefused(t, "12345678", 0)
	wantRefused(t, "123456789", 0)
	wantRefused(t, "x 12345678", 2)
	wantRefused(t, "x 123456789", 2)
	wantRefused(t, "x 12345678901234567890123", 2)
	wantRefused(t, "123456 7654321", 7)
	wantRefused(t, "00", 0)
	wantRefused(t, "01", 0)
	wantRefused(t, "000001", 0)
	wantRefused(t, "0000000000", 0)
	wantRefused(t, "1 00 2", 2)
	wantRefused(t, "a\n\n?", 3)
	wantRefused(t, "abc?", 3)
	wantRefused(t, "12?", 2)
	wantRefused(t, "=?", 1)
	wantRefused(t, "? abcdefg 00", 0)
	wantRefused(t, "abcdefg ?", 0)
	wantRefused(t, "a 00 ?", 2)
	wantRefused(t, "aB", 1)
	wantRefused(t, "a\tb", 1)
	wantRefused(t, "a\r\n", 1)
	wantRefused(t, "aé", 1)
}

func TestTokensOfEachByte(t *testing.T) {
	for c := range 256 {
		s := string([]byte{'x', ' ', byte(c)})
		x := word(0, "x")
		switch {
		case c == ' ' || c == '\n':
			wantTokens(t, s, x)
		case 'a' <= c && c <= 'z':
			wantTokens(t, s, x, word(2, s[2:]))
		case '0' <= c && c <= '9':
			wantTokens(t, s, x, number(2, c-'0'))
		case strings.IndexByte(allSigns, byte(c)) >= 0:
			wantTokens(t, s, x, sign(2, s[2:]))
		default:
			wantRefused(t, s, 2)
		}
	}
}

func TestTokensOfLongTexts(t *testing.T) {
	l, bad := impl.Tokens([]byte(strings.Repeat(";", impl.MaxText)))
	if bad != -1 || len(l) != impl.MaxText || l[impl.MaxText-1].At != impl.MaxText-1 {
		t.Errorf("%d tokens, %d", len(l), bad)
	}
	wantRefused(t, strings.Repeat(";", impl.MaxText+1), 0)
	wantTokens(t, strings.Repeat(" ", impl.MaxText))
	wantRefused(t, strings.Repeat(" ", impl.MaxText+1), 0)
	wantRefused(t, strings.Repeat(" ", impl.MaxText-1)+"?", impl.MaxText-1)
	wantRefused(t, strings.Repeat(" ", impl.MaxText)+"?", 0)
	wantTokens(t, strings.Repeat(" ", impl.MaxText-1)+"x", word(impl.MaxText-1, "x"))
}

var oraclePiece = regexp.MustCompile(`^(?:([a-z]+)|([0-9]{1,8})|([(){}.,=+\-*<;]))`)
var oracleNumber = regexp.MustCompile(`^(?:0|[1-9][0-9]{0,5})$`)

// oracle reads by expressions, so that it shares no thought with Tokens.
func oracle(text string) ([]impl.Token, int) {
	var l []impl.Token
	for at := 0; at < len(text); {
		if text[at] == ' ' || text[at] == '\n' {
			at++
			continue
		}
		m := oraclePiece.FindStringSubmatch(text[at:])
		switch {
		case m == nil, len(m[1]) > 6, m[2] != "" && !oracleNumber.MatchString(m[2]):
			return nil, at
		case m[1] != "":
			l = append(l, word(at, m[1]))
		case m[2] != "":
			n, _ := strconv.Atoi(m[2])
			l = append(l, number(at, n))
		default:
			l = append(l, sign(at, m[3]))
		}
		at += len(m[0])
	}
	return l, -1
}

// eachText calls see with every text of at most that many pieces.
func eachText(pieces []string, most int, see func(string)) {
	var grow func(text string, left int)
	grow = func(text string, left int) {
		see(text)
		if left == 0 {
			return
		}
		for _, p := range pieces {
			grow(text+p, left-1)
		}
	}
	grow("", most)
}

func TestTokensAsByAnotherReader(t *testing.T) {
	see := func(text string) {
		want, at := oracle(text)
		got, bad := impl.Tokens([]byte(text))
		if bad != at || !sameTokens(got, want, true) {
			t.Fatalf("Tokens(%q) = %v, %d; want %v, %d", text, got, bad, want, at)
		}
	}
	eachText([]string{"a", "0", "7", " ", "\n", "=", "?"}, 5, see)
	eachText([]string{"abc", "000", "123", " ", "<"}, 5, see)
	eachText([]string{"abcdef", "z", "99999", "0", "\n"}, 4, see)
}

func TestTokenTextOfOrdinaryLists(t *testing.T) {
	l := []impl.Token{word(0, "set"), word(0, "x"), sign(0, "."), word(0, "a"), sign(0, "="), number(0, 12), sign(0, ";")}
	if s := string(impl.TokenText(l)); s != "set x . a = 12 ;" {
		t.Error(s)
	}
	if s := string(impl.TokenText([]impl.Token{word(0, "x")})); s != "x" {
		t.Error(s)
	}
	if s := string(impl.TokenText([]impl.Token{number(0, 0), number(0, 999999)})); s != "0 999999" {
		t.Error(s)
	}
	if len(impl.TokenText(nil)) != 0 || len(impl.TokenText([]impl.Token{})) != 0 {
		t.Error("no tokens have a text")
	}
}

func TestTokenTextIgnoresPlaces(t *testing.T) {
	for _, at := range []int{0, -1, 7, math.MinInt, math.MaxInt} {
		l := []impl.Token{word(at, "a"), number(at, 5), sign(-at, "*")}
		if s := string(impl.TokenText(l)); s != "a 5 *" {
			t.Errorf("At %d: %q", at, s)
		}
	}
}

func TestTokenTextOfEdges(t *testing.T) {
	good := []impl.Token{
		word(0, "a"), word(0, "abcdef"), word(0, "while"), number(0, 0), number(0, 999999),
		{Kind: impl.TkNum, N: 3, Text: []byte{}},
	}
	for _, c := range allSigns {
		good = append(good, sign(0, string(c)))
	}
	for _, x := range good {
		want := string(x.Text)
		if x.Kind == impl.TkNum {
			want = strconv.Itoa(x.N)
		}
		if s := string(impl.TokenText([]impl.Token{x})); s != want {
			t.Errorf("TokenText(%v) = %q", x, s)
		}
	}
}

func TestTokenTextRefused(t *testing.T) {
	text := func(kind, n int, s string) impl.Token { return impl.Token{Kind: kind, N: n, Text: []byte(s)} }
	bad := []impl.Token{
		{}, {Kind: 4}, {Kind: -1}, text(0, 0, "a"), text(4, 0, ";"), text(-1, 5, ""), {Kind: math.MaxInt},
		text(impl.TkWord, 0, ""), text(impl.TkWord, 0, "abcdefg"), text(impl.TkWord, 0, "A"), text(impl.TkWord, 0, "a b"),
		text(impl.TkWord, 0, "1"), text(impl.TkWord, 0, ";"), text(impl.TkWord, 1, "a"), text(impl.TkWord, -1, "a"),
		text(impl.TkNum, -1, ""), text(impl.TkNum, 1000000, ""), text(impl.TkNum, math.MinInt, ""), text(impl.TkNum, math.MaxInt, ""),
		text(impl.TkNum, 1, "1"), text(impl.TkNum, 0, "a"), text(impl.TkNum, 0, ";"),
		text(impl.TkSign, 0, ""), text(impl.TkSign, 0, "=="), text(impl.TkSign, 0, "a"), text(impl.TkSign, 0, "1"),
		text(impl.TkSign, 0, "?"), text(impl.TkSign, 0, " "), text(impl.TkSign, 1, ";"), text(impl.TkSign, -1, ";"),
	}
	for _, x := range bad {
		for _, at := range []int{0, 3, -3} {
			x.At = at
			for _, l := range [][]impl.Token{{x}, {x, word(0, "a")}, {word(0, "a"), x}} {
				if s := impl.TokenText(l); len(s) != 0 {
					t.Errorf("TokenText(%v) = %q", l, s)
				}
			}
		}
	}
}

func TestTokenTextOfLongLists(t *testing.T) {
	l := make([]impl.Token, impl.MaxText+1)
	for i := range l {
		l[i] = sign(i, ";")
	}
	if s := string(impl.TokenText(l[:impl.MaxText])); s != strings.Repeat("; ", impl.MaxText-1)+";" {
		t.Errorf("%d bytes", len(s))
	}
	if s := impl.TokenText(l); len(s) != 0 {
		t.Errorf("%d bytes", len(s))
	}
}

func TestTokensComeBackFromTheirText(t *testing.T) {
	see := func(text string) {
		l, bad := impl.Tokens([]byte(text))
		if bad != -1 {
			return
		}
		written := impl.TokenText(l)
		back, bad := impl.Tokens(written)
		if bad != -1 || !sameTokens(l, back, false) {
			t.Fatalf("%q is written as %q, read as %v, %d", text, written, back, bad)
		}
		if again := impl.TokenText(back); !bytes.Equal(again, written) {
			t.Fatalf("%q, then %q", written, again)
		}
	}
	eachText([]string{"a", "0", "12", " ", "\n", "=", "("}, 5, see)
	// 1000 signs are written as 1999 bytes: as many as still can be read.
	see(strings.Repeat(";", 1000))
	see(strings.Repeat("abcdef\n", 285))
	see("func f(a, b) { let x = new; set x.y = (a + 999999); while live(weak(x)) { print 0; }; }")
}

func TestTokenTextTooLongToRead(t *testing.T) {
	l, bad := impl.Tokens([]byte(strings.Repeat(";", 1001)))
	if bad != -1 {
		t.Fatal(bad)
	}
	written := impl.TokenText(l)
	if len(written) != impl.MaxText+1 {
		t.Fatal(len(written))
	}
	wantRefused(t, string(written), 0)
}

func TestCountKind(t *testing.T) {
	l := []impl.Token{word(0, "a"), number(0, 1), word(0, "b"), sign(0, ";"), word(0, "c"), {}, {Kind: 9}, {Kind: 9}, {Kind: -2, N: 5}}
	for kind, want := range map[int]int{impl.TkWord: 3, impl.TkNum: 1, impl.TkSign: 1, 0: 1, 9: 2, -2: 1, 4: 0, math.MaxInt: 0} {
		if n := impl.CountKind(l, kind); n != want {
			t.Errorf("CountKind of %d is %d, not %d", kind, n, want)
		}
		if n := impl.CountKind(nil, kind); n != 0 {
			t.Errorf("CountKind of %d in nothing is %d", kind, n)
		}
	}
}

func TestTokensOfAllKindsAreAll(t *testing.T) {
	eachText([]string{"ab", "0", "34", " ", "\n", "{", "?"}, 5, func(text string) {
		l, _ := impl.Tokens([]byte(text))
		n := impl.CountKind(l, impl.TkWord) + impl.CountKind(l, impl.TkNum) + impl.CountKind(l, impl.TkSign)
		if n != len(l) {
			t.Fatalf("%q has %d tokens, %d of the kinds", text, len(l), n)
		}
	})
}

func TestLines(t *testing.T) {
	for text, want := range map[string]int{"": 1, "a": 1, "\n": 2, "a\nb": 2, "a\n": 2, "\n\n\n": 4, "? \x00\r\n": 2, "\r": 1} {
		if n := impl.Lines([]byte(text)); n != want {
			t.Errorf("Lines(%q) = %d, not %d", text, n, want)
		}
	}
	if n := impl.Lines(nil); n != 1 {
		t.Errorf("Lines(nil) = %d", n)
	}
	if n := impl.Lines([]byte(strings.Repeat("\n", impl.MaxText))); n != impl.MaxText+1 {
		t.Errorf("%d lines at the limit", n)
	}
	if n := impl.Lines([]byte(strings.Repeat("\n", impl.MaxText+1))); n != -1 {
		t.Errorf("%d lines past the limit", n)
	}
	if n := impl.Lines([]byte(strings.Repeat("a", impl.MaxText+1))); n != -1 {
		t.Errorf("%d lines past the limit, all in one", n)
	}
}

func TestLineAt(t *testing.T) {
	text := []byte("ab\n\nc\n")
	for at, want := range []int{0, 0, 0, 1, 2, 2, 3} {
		if n := impl.LineAt(text, at); n != want {
			t.Errorf("LineAt %d is %d, not %d", at, n, want)
		}
	}
	for _, at := range []int{-1, -2, math.MinInt, 7, 8, math.MaxInt} {
		if n := impl.LineAt(text, at); n != -1 {
			t.Errorf("LineAt %d is %d, not -1", at, n)
		}
	}
	if impl.LineAt(nil, 0) != 0 || impl.LineAt(nil, 1) != -1 || impl.LineAt(nil, -1) != -1 {
		t.Error("LineAt of nil")
	}
	if impl.LineAt([]byte{}, 0) != 0 || impl.LineAt([]byte{}, 1) != -1 {
		t.Error("LineAt of the empty text")
	}
}

func TestLineAtOfLongTexts(t *testing.T) {
	most := []byte(strings.Repeat("\n", impl.MaxText))
	if n := impl.LineAt(most, impl.MaxText); n != impl.MaxText {
		t.Errorf("at the limit: %d", n)
	}
	if n := impl.LineAt(most, impl.MaxText+1); n != -1 {
		t.Errorf("one past the text's end: %d", n)
	}
	for _, at := range []int{0, 5, impl.MaxText + 1} {
		if n := impl.LineAt(append(most, '\n'), at); n != -1 {
			t.Errorf("past the limit, at %d: %d", at, n)
		}
	}
}

func TestEachPlaceIsInALine(t *testing.T) {
	eachText([]string{"a", "\n", "?"}, 6, func(text string) {
		b := []byte(text)
		lines, line := impl.Lines(b), 0
		for at := 0; at <= len(b); at++ {
			if n := impl.LineAt(b, at); n != line || n >= lines {
				t.Fatalf("%q, place %d: line %d of %d, not %d", text, at, n, lines, line)
			}
			if at < len(b) && b[at] == '\n' {
				line++
			}
		}
		if line != lines-1 {
			t.Fatalf("%q: %d lines, the last is %d", text, lines, line)
		}
	})
}

// What a function answers is new memory, and an argument stays as it was.

// roomy copies a text into a list with spare room, filled with bytes that
// would be seen in an answer.
func roomy(text string) (b []byte, whole []byte) {
	whole = append([]byte(text), "zzz999==="...)
	return whole[:len(text)], whole
}

func TestTextsAreOnlyRead(t *testing.T) {
	for _, text := range []string{"let x = 12; abc", "ab 12", "ab \n", "abcde", "12345", "?", "abcdefg"} {
		b, whole := roomy(text)
		before := bytes.Clone(whole)
		got, at := impl.Tokens(b)
		want, wantAt := oracle(text)
		if at != wantAt || !sameTokens(got, want, true) {
			t.Errorf("%q: %v, %d", text, got, at)
		}
		impl.WordOk(b)
		impl.Kept(b)
		impl.Lines(b)
		impl.LineAt(b, len(b))
		if !bytes.Equal(whole, before) {
			t.Errorf("%q is changed: %q", text, whole)
		}
	}
}

func TestTokensShareNothing(t *testing.T) {
	text := "abc ( def ; abc ("
	b, whole := roomy(text)
	l, _ := impl.Tokens(b)
	want, _ := oracle(text)
	for i := range whole {
		whole[i] = 'q'
	}
	if !sameTokens(l, want, true) {
		t.Error("tokens change with the text", l)
	}
	for i := range l {
		room := l[i].Text[:cap(l[i].Text)]
		for j := range room {
			room[j] = '!'
		}
		for k := i + 1; k < len(l); k++ {
			if !sameToken(l[k], want[k]) {
				t.Errorf("token %d changes with token %d", k, i)
			}
		}
	}
	if again, _ := impl.Tokens([]byte(text)); !sameTokens(again, want, true) {
		t.Error("a later answer is changed", again)
	}
}

func TestTokenTextSharesNothing(t *testing.T) {
	name, whole := roomy("abc")
	before := bytes.Clone(whole)
	all := []impl.Token{{Kind: impl.TkWord, Text: name}, sign(4, ";"), {Kind: 77, N: 77}}
	l := all[:1]
	for len(l) <= 2 {
		s := impl.TokenText(l)
		for i := range s {
			s[i] = '!'
		}
		if !bytes.Equal(whole, before) || string(all[1].Text) != ";" || all[2].Kind != 77 || all[2].N != 77 {
			t.Errorf("%d tokens are changed: %q %v", len(l), whole, all)
		}
		l = all[:len(l)+1]
	}
	if s := string(impl.TokenText(all[:2])); s != "abc ;" {
		t.Errorf("what lies behind the list is read: %q", s)
	}
	if n := impl.CountKind(all[:2], 77); n != 0 {
		t.Errorf("what lies behind the list is counted: %d", n)
	}
}
