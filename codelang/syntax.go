package codelang

import (
	"strings"

	"solvent/api"
)

const (
	letters   = "abcdefghijklmnopqrstuvwxyz"
	digits    = "0123456789"
	signs     = "{};:"
	blanks    = " \t\n"
	maxDigits = 5

	end = "" // the text of the token at the end of a text
)

// token is a part of a text, with its offset.
type token struct {
	at   int
	text string
}

// definition is what a text says of a code, as far as its grammar tells. Without a domain, that token is empty.
type definition struct {
	name, field, data, domain token
	rows                      []row
}

// row is what a text says of a row: its first word, and its numbers. A parity row has no indices.
type row struct {
	word           token
	indices, coefs []token
}

// parser reads a text token by token. It panics where the text does not match the grammar, and nowhere else, so that only the
// beginning and the end of the reading have to know of errors.
type parser struct {
	text    string
	current token
	rest    string // what follows the current token
}

// read returns what a text says that matches the grammar: one of the parser's methods. It returns an error at the token where the
// text does not.
func read(text string, grammar func(*parser) []definition) (found []definition, at int, e api.Errno) {
	if len(text) > api.MaxText {
		return nil, 0, api.ErrLimit
	}
	p := parser{text: text, rest: text}
	defer func() {
		if r := recover(); r != nil {
			found, at, e = nil, p.current.at, api.ErrSyntax
		}
	}()
	p.next()
	found = grammar(&p)
	p.expect(end)
	return found, 0, api.OK
}

// single reads one code.
func (p *parser) single() []definition { return []definition{p.definition()} }

// list reads any number of codes.
func (p *parser) list() []definition {
	var l []definition
	for !p.is(end) {
		l = append(l, p.definition())
	}
	return l
}

func (p *parser) definition() definition {
	p.expect("code")
	d := definition{name: p.take(isWord)}
	p.expect("{")
	d.field = p.setting("field")
	d.data = p.setting("data")
	d.rows = []row{p.row()}
	for p.is("parity") || p.is("local") {
		d.rows = append(d.rows, p.row())
	}
	if p.is("domain") {
		d.domain = p.setting("domain")
	}
	p.expect("}")
	return d
}

// setting reads a word, a number and a semicolon, and returns the number.
func (p *parser) setting(word string) token {
	p.expect(word)
	number := p.take(isNumber)
	p.expect(";")
	return number
}

func (p *parser) row() row {
	r := row{word: p.current}
	if p.is("local") {
		p.expect("local")
		r.indices = p.numbers()
		p.expect(":")
	} else {
		p.expect("parity")
	}
	r.coefs = p.numbers()
	p.expect(";")
	return r
}

// numbers reads at least one number.
func (p *parser) numbers() []token {
	l := []token{p.take(isNumber)}
	for isNumber(p.current.text) {
		l = append(l, p.take(isNumber))
	}
	return l
}

// is reports whether the current token consists of this text.
func (p *parser) is(text string) bool { return p.current.text == text }

// expect reads a token that consists of this text.
func (p *parser) expect(text string) {
	p.take(func(t string) bool { return t == text })
}

// take reads a token of this kind.
func (p *parser) take(kind func(string) bool) token {
	t := p.current
	if !kind(t.text) {
		panic(api.ErrSyntax)
	}
	p.next()
	return t
}

// next moves on to the next token, or to the end of the text.
func (p *parser) next() {
	rest := skipGap(p.rest)
	size := tokenSize(rest)
	p.current = token{at: len(p.text) - len(rest), text: rest[:size]}
	p.rest = rest[size:]
	if p.is(end) && p.rest != "" {
		panic(api.ErrSyntax)
	}
}

// skipGap returns what follows the blanks and comments at the beginning of a text.
func skipGap(text string) string {
	text = strings.TrimLeft(text, blanks)
	for strings.HasPrefix(text, "#") {
		_, text, _ = strings.Cut(text, "\n")
		text = strings.TrimLeft(text, blanks)
	}
	return text
}

// tokenSize returns the size of the token at the beginning of a text, and 0 if there is none.
func tokenSize(text string) int {
	switch {
	case text == "":
		return 0
	case strings.IndexByte(signs, text[0]) >= 0:
		return 1
	case strings.IndexByte(letters, text[0]) >= 0:
		return len(text) - len(strings.TrimLeft(text, letters+digits))
	}
	size := len(text) - len(strings.TrimLeft(text, digits))
	if !isNumber(text[:size]) {
		return 0
	}
	return size
}

// isWord reports whether a text is a word.
func isWord(text string) bool {
	return text != "" && strings.IndexByte(letters, text[0]) >= 0 && strings.TrimLeft(text, letters+digits) == ""
}

// isNumber reports whether a text is a number.
func isNumber(text string) bool {
	return text == "0" || text != "" && text[0] != '0' && len(text) <= maxDigits && strings.TrimLeft(text, digits) == ""
}
