package impl

import (
	"bytes"
	"iter"
	"strconv"
	"strings"
)

const MaxText = 2000

const TkWord = 1
const TkNum = 2
const TkSign = 3

const maxLetters = 6
const maxDigits = 6
const maxNumber = 999999
const signs = "(){}.,=+-*<;"

type Token struct {
	Kind int
	At   int
	N    int
	Text []byte
}

func WordOk(b []byte) bool {
	return 1 <= len(b) && len(b) <= maxLetters && runLength(b, isLetter) == len(b)
}

func Kept(b []byte) bool {
	switch string(b) {
	case "func", "let", "set", "print", "return", "if", "else", "while", "do", "nil", "new", "weak", "live":
		return true
	}
	return false
}

func Tokens(b []byte) ([]Token, int) {
	if len(b) > MaxText {
		return nil, 0
	}
	var l []Token
	for t, ok := range scan(b) {
		if !ok {
			return nil, t.At
		}
		l = append(l, t)
	}
	return l, -1
}

func TokenText(l []Token) []byte {
	if len(l) > MaxText {
		return nil
	}
	var text []byte
	for i, t := range l {
		if !tokenOk(t) {
			return nil
		}
		if i > 0 {
			text = append(text, ' ')
		}
		if t.Kind == TkNum {
			text = strconv.AppendInt(text, int64(t.N), 10)
		} else {
			text = append(text, t.Text...)
		}
	}
	return text
}

func CountKind(l []Token, kind int) int {
	n := 0
	for _, t := range l {
		if t.Kind == kind {
			n++
		}
	}
	return n
}

func Lines(b []byte) int {
	if len(b) > MaxText {
		return -1
	}
	return lineEnds(b) + 1
}

func LineAt(b []byte, at int) int {
	if len(b) > MaxText || at < 0 || at > len(b) {
		return -1
	}
	return lineEnds(b[:at])
}

// scan goes through the tokens of b, each with whether it may be one. One
// that may not still has its At, as that is what a reader reports.
func scan(b []byte) iter.Seq2[Token, bool] {
	return func(yield func(Token, bool) bool) {
		at := 0
		for at < len(b) {
			if isGap(b[at]) {
				at++
				continue
			}
			t, length, ok := firstToken(b[at:])
			t.At = at
			if !yield(t, ok) {
				return
			}
			at += length
		}
	}
}

// firstToken wants a b that begins with a byte that is no gap.
func firstToken(b []byte) (t Token, length int, ok bool) {
	switch {
	case isLetter(b[0]):
		word := b[:runLength(b, isLetter)]
		return Token{Kind: TkWord, Text: bytes.Clone(word)}, len(word), WordOk(word)
	case isDigit(b[0]):
		// Seven digits are refused where they begin, and so is any longer
		// run: reading all of it answers the same as stopping after eight.
		digits := b[:runLength(b, isDigit)]
		n, fits := numberOf(digits)
		return Token{Kind: TkNum, N: n}, len(digits), fits
	case signOk(b[:1]):
		return Token{Kind: TkSign, Text: bytes.Clone(b[:1])}, 1, true
	}
	return Token{}, 1, false
}

func numberOf(digits []byte) (int, bool) {
	if len(digits) > maxDigits || len(digits) > 1 && digits[0] == '0' {
		return 0, false
	}
	n := 0
	for _, d := range digits {
		n = n*10 + int(d-'0')
	}
	return n, true
}

func tokenOk(t Token) bool {
	switch t.Kind {
	case TkWord:
		return t.N == 0 && WordOk(t.Text)
	case TkNum:
		return 0 <= t.N && t.N <= maxNumber && len(t.Text) == 0
	case TkSign:
		return t.N == 0 && signOk(t.Text)
	}
	return false
}

func signOk(b []byte) bool {
	return len(b) == 1 && strings.IndexByte(signs, b[0]) >= 0
}

func runLength(b []byte, belongs func(byte) bool) int {
	n := 0
	for n < len(b) && belongs(b[n]) {
		n++
	}
	return n
}

func isLetter(c byte) bool { return 'a' <= c && c <= 'z' }

func isDigit(c byte) bool { return '0' <= c && c <= '9' }

func isGap(c byte) bool { return c == ' ' || c == '\n' }

func lineEnds(b []byte) int { return bytes.Count(b, []byte{'\n'}) }
