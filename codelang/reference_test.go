package codelang_test

import (
	"cmp"
	"fmt"
	"regexp"
	"slices"
	"strconv"
	"strings"

	"solvent/api"
)

// The references below share no ideas with the package: a text is split by regular expressions, its grammar is a table of states,
// and of all its errors the first one is chosen in the end.

// result is what a parsing call returns.
type result struct {
	codes []api.Code
	at    int
	e     api.Errno
}

func (r result) same(s result) bool {
	same := func(a, b api.Code) bool { return fmt.Sprintf("%#v", plain(a)) == fmt.Sprintf("%#v", plain(b)) }
	return slices.EqualFunc(r.codes, s.codes, same) && r.at == s.at && r.e == s.e
}

// plain returns a code in which no list is nil.
func plain(c api.Code) api.Code {
	c.Parity = append([][]int{}, c.Parity...)
	for i, row := range c.Parity {
		c.Parity[i] = append([]int{}, row...)
	}
	return c
}

type lexeme struct {
	at   int
	text string
}

func (l lexeme) number() int {
	n, _ := strconv.Atoi(l.text)
	return n
}

// class returns the kind of a token in the table of the grammar: itself, "number" or "name".
func (l lexeme) class() string {
	switch {
	case strings.Contains(" code field data parity local domain { } ; : ", " "+l.text+" "):
		return l.text
	case l.text[0] <= '9':
		return "number"
	}
	return "name"
}

var (
	gap  = regexp.MustCompile(`^(?:[ \t\n]|#[^\n]*(?:\n|\z))*`)
	sign = regexp.MustCompile(`^(?:[a-z][a-z0-9]*|[{};:]|0|[1-9][0-9]{0,4})`)
	more = regexp.MustCompile(`^[0-9]`)
)

// lexemes returns the tokens of a text, up to the offset at which there is none, and whether that is its end.
func lexemes(text string) (l []lexeme, stop int, whole bool) {
	for at := 0; ; {
		at += len(gap.FindString(text[at:]))
		s := sign.FindString(text[at:])
		after := at + len(s)
		if s == "" || s[0] <= '9' && s[0] >= '0' && more.MatchString(text[after:]) {
			return l, at, at == len(text)
		}
		l = append(l, lexeme{at, s})
		at = after
	}
}

// states is the grammar: what may follow in each state, and the state after it. State 0 is the one between codes; any word may
// follow "code".
var states = [][]struct {
	class string
	next  int
}{
	0:  {{"code", 1}},
	1:  {{"name", 2}, {"code", 2}, {"field", 2}, {"data", 2}, {"parity", 2}, {"local", 2}, {"domain", 2}},
	2:  {{"{", 3}},
	3:  {{"field", 4}},
	4:  {{"number", 5}},
	5:  {{";", 6}},
	6:  {{"data", 7}},
	7:  {{"number", 8}},
	8:  {{";", 9}},
	9:  {{"parity", 10}, {"local", 12}},
	10: {{"number", 11}},
	11: {{"number", 11}, {";", 16}},
	12: {{"number", 13}},
	13: {{"number", 13}, {":", 14}},
	14: {{"number", 15}},
	15: {{"number", 15}, {";", 16}},
	16: {{"parity", 10}, {"local", 12}, {"domain", 17}, {"}", 0}},
	17: {{"number", 18}},
	18: {{";", 19}},
	19: {{"}", 0}},
}

// follow returns the state after a token, and -1 if the token cannot follow.
func follow(state int, class string) int {
	for _, s := range states[state] {
		if s.class == class {
			return s.next
		}
	}
	return -1
}

// parsed returns what ParseAll has to return, and, if single is set, what Parse has to return.
func parsed(text string, single bool) result {
	if len(text) > 2000 {
		return result{nil, 0, api.ErrLimit}
	}
	l, stop, whole := lexemes(text)
	var words [][]lexeme
	state := 0
	for _, t := range l {
		if state == 0 && single && len(words) == 1 {
			return result{nil, t.at, api.ErrSyntax}
		}
		if state == 0 {
			words = append(words, nil)
		}
		state = follow(state, t.class())
		if state < 0 {
			return result{nil, t.at, api.ErrSyntax}
		}
		words[len(words)-1] = append(words[len(words)-1], t)
	}
	if !whole || state != 0 || single && len(words) == 0 {
		return result{nil, stop, api.ErrSyntax}
	}
	return meaning(words)
}

// fault is an error, with the place that it has in the order of the checks.
type fault struct {
	order []int
	at    int
	e     api.Errno
}

type faults []fault

// add adds an error if it applies.
func (f *faults) add(applies bool, at int, e api.Errno, order ...int) {
	if applies {
		*f = append(*f, fault{order, at, e})
	}
}

// meaning returns the codes of texts that match the grammar, or the first of their errors.
func meaning(words [][]lexeme) result {
	var all faults
	var codes []api.Code
	for n, w := range words {
		name := w[1]
		all.add(n >= 8, name.at, api.ErrLimit, n, 0)
		for k := range n {
			all.add(words[k][1].text == name.text, name.at, api.ErrName, n, 1)
		}
		all.add(len(name.text) > 12, name.at, api.ErrLimit, n, 2)
		codes = append(codes, body(n, w, &all))
	}
	if len(all) == 0 {
		return result{codes, 0, api.OK}
	}
	first := slices.MinFunc(all, func(a, b fault) int { return slices.Compare(a.order, b.order) })
	return result{nil, first.at, first.e}
}

// body returns code n, which consists of the tokens w, and adds all its errors to those of the text.
func body(n int, w []lexeme, all *faults) api.Code {
	c := api.Code{Name: w[1].text, Field: w[4].number(), Data: w[7].number()}
	all.add(c.Field != 8 && c.Field != 16, w[4].at, api.ErrArg, n, 3)
	all.add(c.Data < 1 || c.Data > 31, w[7].at, api.ErrArg, n, 4)
	top := 255
	if c.Field == 16 {
		top = 65535
	}
	rest := w[9:]
	for rest[0].text == "parity" || rest[0].text == "local" {
		i := len(c.Parity)
		length := 1 + slices.IndexFunc(rest, func(t lexeme) bool { return t.text == ";" })
		row := rest[:length-1]
		all.add(c.Data+i+1 > 32, row[0].at, api.ErrLimit, n, 5, i, 0)
		if row[0].text == "parity" {
			c.Parity = append(c.Parity, full(n, i, c.Data, top, row, all))
		} else {
			c.Parity = append(c.Parity, sparse(n, i, c.Data, top, row, all))
		}
		rest = rest[length:]
	}
	c.Domain = c.Data + len(c.Parity)
	if rest[0].text == "domain" {
		most := c.Domain
		c.Domain = rest[1].number()
		all.add(c.Domain < 1 || c.Domain > most, rest[1].at, api.ErrArg, n, 6)
	}
	return c
}

func full(n, i, data, top int, row []lexeme, all *faults) []int {
	var cells []int
	for k, t := range row[1:] {
		cells = append(cells, t.number())
		all.add(t.number() > top, t.at, api.ErrArg, n, 5, i, 2, k)
	}
	all.add(len(cells) != data, row[0].at, api.ErrArg, n, 5, i, 1)
	all.add(strings.Trim(fmt.Sprint(cells), "[0 ]") == "", row[0].at, api.ErrArg, n, 5, i, 3)
	return cells
}

func sparse(n, i, data, top int, row []lexeme, all *faults) []int {
	colon := slices.IndexFunc(row, func(t lexeme) bool { return t.text == ":" })
	indices, coefs := row[1:colon], row[colon+1:]
	values := map[int]int{}
	for k, t := range indices {
		all.add(t.number() >= data || k > 0 && cmp.Compare(indices[k-1].number(), t.number()) >= 0, t.at, api.ErrArg, n, 5, i, 1, k)
		if k < len(coefs) {
			values[t.number()] = coefs[k].number()
		}
	}
	all.add(len(coefs) != len(indices), row[0].at, api.ErrArg, n, 5, i, 2)
	for k, t := range coefs {
		all.add(t.number() == 0 || t.number() > top, t.at, api.ErrArg, n, 5, i, 3, k)
	}
	var cells []int
	for j := range min(data, 40) {
		cells = append(cells, values[j])
	}
	return cells
}

// printed returns the text of a code, whatever its length is.
func printed(c api.Code) string {
	text := fmt.Sprintf("code %s {\n\tfield %d;\n\tdata %d;\n", c.Name, c.Field, c.Data)
	for _, row := range c.Parity {
		all, indices, coefs := "", "", ""
		for j, x := range row {
			all += fmt.Sprintf(" %d", x)
			if x != 0 {
				indices += fmt.Sprintf(" %d", j)
				coefs += fmt.Sprintf(" %d", x)
			}
		}
		if slices.Contains(row, 0) {
			text += fmt.Sprintf("\tlocal%s:%s;\n", indices, coefs)
		} else {
			text += fmt.Sprintf("\tparity%s;\n", all)
		}
	}
	return text + fmt.Sprintf("\tdomain %d;\n}\n", c.Domain)
}
