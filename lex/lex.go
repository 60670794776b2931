// Package lex is layer 1, words: see ../shared/doc/01-lex.md.
package lex

import (
	"strconv"
	"strings"

	"delver/api"
)

// signs holds each sign, a byte each.
const signs = "{}():;,[]"

// Name tells whether s is a name.
func Name(s string) bool {
	if len(s) < 1 || len(s) > api.MaxName || isDigit(s[0]) {
		return false
	}
	for i := range len(s) {
		if !inWord(s[i]) {
			return false
		}
	}
	return true
}

// Num answers the number that s is.
func Num(s string) (int, bool) {
	digits, below := strings.CutPrefix(s, "-")
	n, ok := size(digits)
	if !ok {
		return 0, false
	}
	if below {
		if n == 0 {
			return 0, false
		}
		return -n, true
	}
	if n > api.Most {
		return 0, false
	}
	return n, true
}

// size answers the number that digits write, up to that of Least.
func size(digits string) (int, bool) {
	if digits == "" || len(digits) > 1 && digits[0] == '0' {
		return 0, false
	}
	n := 0
	for i := range len(digits) {
		if !isDigit(digits[i]) {
			return 0, false
		}
		n = n*10 + int(digits[i]-'0')
		// Looked at digit by digit, so that no row of digits is long enough to wrap n.
		if n > -api.Least {
			return 0, false
		}
	}
	return n, true
}

// Scan answers the words of b, each with the place where it begins; beside ErrText: the place of the fault.
func Scan(b []byte) (l []api.Token, at int, e api.Errno) {
	if len(b) > api.MaxText {
		return nil, 0, api.ErrLen
	}
	for i := 0; i < len(b); {
		if isBlank(b[i]) {
			i++
			continue
		}
		end := wordEnd(b, i)
		t, ok := token(string(b[i:end]))
		if !ok {
			return nil, i, api.ErrText
		}
		t.At = i
		l = append(l, t)
		i = end
	}
	return l, 0, api.OK
}

// wordEnd answers where the word at a place ends: at the place itself, if its byte begins none.
func wordEnd(b []byte, at int) int {
	if isSign(b[at]) {
		return at + 1
	}
	if b[at] == '-' {
		at++
	}
	for at < len(b) && inWord(b[at]) {
		at++
	}
	return at
}

// token makes a word a token, its place not told yet.
func token(word string) (api.Token, bool) {
	if Name(word) {
		return api.Token{Kind: api.TokName, Text: word}, true
	}
	if n, ok := Num(word); ok {
		return api.Token{Kind: api.TokNum, N: n}, true
	}
	if sign(word) {
		return api.Token{Kind: api.TokSign, Text: word}, true
	}
	return api.Token{}, false
}

// Join answers the words of l, a blank between each two.
func Join(l []api.Token) ([]byte, api.Errno) {
	var b []byte
	for i, t := range l {
		word, ok := written(t)
		if !ok {
			return nil, api.ErrForm
		}
		if i > 0 {
			b = append(b, ' ')
		}
		b = append(b, word...)
	}
	return b, api.OK
}

// written answers the word that a token is; false, if it is none.
func written(t api.Token) (string, bool) {
	switch t.Kind {
	case api.TokName:
		if t.N == 0 && Name(t.Text) {
			return t.Text, true
		}
	case api.TokNum:
		if t.Text == "" && t.N >= api.Least && t.N <= api.Most {
			return strconv.Itoa(t.N), true
		}
	case api.TokSign:
		if t.N == 0 && sign(t.Text) {
			return t.Text, true
		}
	}
	return "", false
}

// sign tells whether s is a sign.
func sign(s string) bool { return len(s) == 1 && isSign(s[0]) }

func isSign(c byte) bool { return strings.IndexByte(signs, c) >= 0 }

func isBlank(c byte) bool { return c == ' ' || c == '\t' || c == '\n' || c == '\r' }

func isDigit(c byte) bool { return '0' <= c && c <= '9' }

// inWord tells whether c may stand in a name or a number, behind its beginning.
func inWord(c byte) bool {
	return 'a' <= c && c <= 'z' || 'A' <= c && c <= 'Z' || isDigit(c) || c == '_'
}
