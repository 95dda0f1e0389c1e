// Package lex is layer 2: see shared/doc/02-lex.md.
package lex

import (
	"strings"

	"parallax/api"
	"parallax/num"
)

const (
	maxName  = 40
	maxSign  = 2 // bytes of the longest sign
	blank    = ' '
	newLine  = '\n'
	remarkBy = '#'
)

var keyWords = [13]string{
	"proc", "var", "if", "else", "while", "return", "print", "read", "assert", "int", "bool", "true", "false",
}

var signs = [21]string{
	"(", ")", "{", "}", "[", "]", ",", ";", "=", "==", "!=", "<", "<=", "&&", "||", "!", "+", "-", "*", "/", "%",
}

// IsName tells whether a text is a name.
func IsName(s string) bool {
	return s != "" && isLetter(s[0]) && wordSize(s) == len(s) && len(s) <= maxName && !isKey(s)
}

// Scan is a source's tokens.
func Scan(s string) ([]api.Token, int, api.Errno) {
	if len(s) > api.MaxSource {
		return nil, 0, api.ErrLong
	}
	var tokens []api.Token
	at := 0
	for {
		at += blankSize(s[at:])
		token, size, e := first(s[at:])
		// What is no token is told as that, whatever its number would be.
		if e == api.OK && len(tokens) == api.MaxTokens {
			e = api.ErrLong
		}
		if e != api.OK {
			return nil, at, e
		}
		token.At = at
		tokens = append(tokens, token)
		if token.Kind == api.TEnd {
			return tokens, 0, api.OK
		}
		at += size
	}
}

// first is the token that a text begins with, its place left open, and how many bytes it has.
func first(s string) (api.Token, int, api.Errno) {
	switch {
	case s == "":
		return api.Token{Kind: api.TEnd}, 0, api.OK
	case isLetter(s[0]):
		return firstWord(s)
	case isDigit(s[0]):
		return firstInt(s)
	}
	return firstSign(s)
}

// firstWord is the name or key word that a text begins with.
func firstWord(s string) (api.Token, int, api.Errno) {
	word := s[:wordSize(s)]
	switch {
	case isKey(word):
		return api.Token{Kind: api.TKey, Text: word}, len(word), api.OK
	case IsName(word):
		return api.Token{Kind: api.TName, Text: word}, len(word), api.OK
	}
	return api.Token{}, 0, api.ErrToken
}

// firstInt is the integer that a text begins with.
func firstInt(s string) (api.Token, int, api.Errno) {
	size := digitsSize(s)
	n, e := num.Parse(s[:size])
	if e != api.OK || size < len(s) && isLetter(s[size]) {
		return api.Token{}, 0, api.ErrToken
	}
	return api.Token{Kind: api.TInt, Num: n}, size, api.OK
}

// firstSign is the sign that a text begins with: the longest that fits.
func firstSign(s string) (api.Token, int, api.Errno) {
	found := ""
search:
	for size := maxSign; size > 0; size-- {
		for _, sign := range signs {
			if len(sign) == size && strings.HasPrefix(s, sign) {
				found = sign
				break search
			}
		}
	}
	if found == "" {
		return api.Token{}, 0, api.ErrToken
	}
	return api.Token{Kind: api.TSign, Text: found}, len(found), api.OK
}

// Right tells whether tokens are right.
func Right(l []api.Token) bool {
	if len(l) == 0 {
		return false
	}
	last := len(l) - 1
	for _, t := range l[:last] {
		if t.Kind == api.TEnd || !rightToken(t) {
			return false
		}
	}
	return l[last].Kind == api.TEnd && rightToken(l[last])
}

// rightToken tells whether a token's Text and Num are those of its kind.
func rightToken(t api.Token) bool {
	switch t.Kind {
	case api.TEnd:
		return t.Text == "" && t.Num == 0
	case api.TName:
		return IsName(t.Text) && t.Num == 0
	case api.TKey:
		return isKey(t.Text) && t.Num == 0
	case api.TInt:
		return t.Text == "" && t.Num >= 0
	case api.TSign:
		return isSign(t.Text) && t.Num == 0
	}
	return false
}

// Print is tokens as a text.
func Print(l []api.Token) (string, api.Errno) {
	if !Right(l) {
		return "", api.ErrForm
	}
	var texts []string
	for _, t := range l[:len(l)-1] {
		if t.Kind == api.TInt {
			texts = append(texts, num.Text(t.Num))
		} else {
			texts = append(texts, t.Text)
		}
	}
	return num.Join(texts...), api.OK
}

// blankSize is how many bytes of blanks a text begins with.
func blankSize(s string) int {
	size := 0
	remark := false
	for size < len(s) {
		c := s[size]
		switch {
		case c == newLine:
			remark = false
		case c == remarkBy:
			remark = true
		case c != blank && !remark:
			return size
		}
		size++
	}
	return size
}

// wordSize is how many bytes a text begins with that may stand in a name.
func wordSize(s string) int {
	size := 0
	for size < len(s) && (isLetter(s[size]) || isDigit(s[size]) || s[size] == '_') {
		size++
	}
	return size
}

// digitsSize is how many digits a text begins with.
func digitsSize(s string) int {
	size := 0
	for size < len(s) && isDigit(s[size]) {
		size++
	}
	return size
}

func isKey(s string) bool {
	for _, key := range keyWords {
		if s == key {
			return true
		}
	}
	return false
}

func isSign(s string) bool {
	for _, sign := range signs {
		if s == sign {
			return true
		}
	}
	return false
}

func isLetter(c byte) bool { return 'A' <= c && c <= 'Z' || 'a' <= c && c <= 'z' }

func isDigit(c byte) bool { return '0' <= c && c <= '9' }
