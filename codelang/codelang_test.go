package codelang_test

import (
	"fmt"
	"math"
	"math/rand"
	"slices"
	"strings"
	"testing"

	"solvent/api"
	"solvent/codelang"
)

func parse(text string) result {
	c, at, e := codelang.Parse(text)
	if e != api.OK && codelang.Same(c, api.Code{}) {
		return result{nil, at, e}
	}
	return result{[]api.Code{c}, at, e}
}

func parseAll(text string) result {
	l, at, e := codelang.ParseAll(text)
	return result{l, at, e}
}

// good returns a valid code.
func good() api.Code {
	return api.Code{Name: "rs42", Field: 8, Data: 3, Parity: [][]int{{1, 1, 1}, {1, 2, 0}}, Domain: 2}
}

func TestExamples(t *testing.T) {
	for _, x := range []struct {
		text string
		want result
	}{
		{"code a { field 8; data 2; parity 1 1; }",
			result{[]api.Code{{Name: "a", Field: 8, Data: 2, Parity: [][]int{{1, 1}}, Domain: 3}}, 0, api.OK}},
		{"code a { field 8; data 3; local 0 2: 1 7; domain 2; }",
			result{[]api.Code{{Name: "a", Field: 8, Data: 3, Parity: [][]int{{1, 0, 7}}, Domain: 2}}, 0, api.OK}},
		{"code a { field 8; data 2; parity 1; }", result{nil, 26, api.ErrArg}},
		{"code a { field 9; data 2; parity 1 1;", result{nil, 37, api.ErrSyntax}},
		{"code a { field 9; data 2; parity 1 1; }", result{nil, 15, api.ErrArg}},
	} {
		if r := parse(x.text); !r.same(x.want) {
			t.Errorf("P7.4: Parse(%q) = %v, not %v", x.text, r, x.want)
		}
		if r := parseAll(x.text); !r.same(x.want) {
			t.Errorf("P7.5: ParseAll(%q) = %v, not %v", x.text, r, x.want)
		}
		if r := parsed(x.text, true); !r.same(x.want) {
			t.Errorf("the reference has %v for %q, not %v", r, x.text, x.want)
		}
	}
}

// setRow replaces row i of a code, if there is one.
func setRow(c *api.Code, i int, row []int) {
	if i < len(c.Parity) {
		c.Parity[i] = row
	}
}

// damages are ways in which a code is not valid.
var damages = []struct {
	what string
	hurt func(c *api.Code)
	e    api.Errno
}{
	{"an empty name", func(c *api.Code) { c.Name = "" }, api.ErrName},
	{"a digit before the name", func(c *api.Code) { c.Name = "4rs" }, api.ErrName},
	{"an upper-case letter", func(c *api.Code) { c.Name = "rS" }, api.ErrName},
	{"a long name with a blank", func(c *api.Code) { c.Name = "abcdefghijklmnop q" }, api.ErrName},
	{"a letter beyond ASCII", func(c *api.Code) { c.Name = "é" }, api.ErrName},
	{"a byte that is no letter", func(c *api.Code) { c.Name = "a\x00" }, api.ErrName},
	{"a long name", func(c *api.Code) { c.Name = "abcdefghijkl9" }, api.ErrLimit},
	{"field 0", func(c *api.Code) { c.Field = 0 }, api.ErrArg},
	{"field 32", func(c *api.Code) { c.Field = 32 }, api.ErrArg},
	{"field -8", func(c *api.Code) { c.Field = -8 }, api.ErrArg},
	{"the least field", func(c *api.Code) { c.Field = math.MinInt }, api.ErrArg},
	{"no data", func(c *api.Code) { c.Data = 0 }, api.ErrArg},
	{"32 data units", func(c *api.Code) { c.Data = 32 }, api.ErrArg},
	{"a negative number of data units", func(c *api.Code) { c.Data = -1 }, api.ErrArg},
	{"the greatest number of data units", func(c *api.Code) { c.Data = math.MaxInt }, api.ErrArg},
	{"the least number of data units", func(c *api.Code) { c.Data = math.MinInt }, api.ErrArg},
	{"no rows", func(c *api.Code) { c.Parity = nil }, api.ErrArg},
	{"empty rows", func(c *api.Code) { c.Parity = [][]int{} }, api.ErrArg},
	{"33 units", func(c *api.Code) { c.Parity = make([][]int, 30) }, api.ErrLimit},
	{"a row without coefficients", func(c *api.Code) { setRow(c, 0, nil) }, api.ErrArg},
	{"a short row", func(c *api.Code) { setRow(c, 0, []int{1, 1}) }, api.ErrArg},
	{"a long row", func(c *api.Code) { setRow(c, 0, []int{1, 1, 1, 1}) }, api.ErrArg},
	{"a negative coefficient", func(c *api.Code) { setRow(c, 0, []int{-1, 1, 1}) }, api.ErrArg},
	{"a great coefficient", func(c *api.Code) { setRow(c, 0, []int{1, 1, 1 << 8}) }, api.ErrArg},
	{"the least coefficient", func(c *api.Code) { setRow(c, 0, []int{1, math.MinInt, 1}) }, api.ErrArg},
	{"the greatest coefficient", func(c *api.Code) { setRow(c, 0, []int{1, math.MaxInt, 1}) }, api.ErrArg},
	{"only zeros", func(c *api.Code) { setRow(c, 0, []int{0, 0, 0}) }, api.ErrArg},
	{"only zeros in the last row", func(c *api.Code) { setRow(c, 1, []int{0, 0, 0}) }, api.ErrArg},
	{"a great coefficient in the last row", func(c *api.Code) { setRow(c, 1, []int{256, 0, 0}) }, api.ErrArg},
	{"domain 0", func(c *api.Code) { c.Domain = 0 }, api.ErrArg},
	{"a negative domain", func(c *api.Code) { c.Domain = -1 }, api.ErrArg},
	{"a domain beyond the width", func(c *api.Code) { c.Domain = 6 }, api.ErrArg},
	{"the least domain", func(c *api.Code) { c.Domain = math.MinInt }, api.ErrArg},
	{"the greatest domain", func(c *api.Code) { c.Domain = math.MaxInt }, api.ErrArg},
}

func TestCheckErrors(t *testing.T) {
	if e := codelang.Check(good()); e != api.OK {
		t.Fatal("P7.1: a valid code:", e)
	}
	for _, x := range damages {
		c := good()
		x.hurt(&c)
		if e := codelang.Check(c); e != x.e {
			t.Errorf("P7.1: %s: %v, not %v", x.what, e, x.e)
		}
		if s, e := codelang.Print(c); s != "" || e != x.e {
			t.Errorf("P7.3: %s: %q, %v", x.what, s, e)
		}
		for _, y := range damages {
			c := good()
			y.hurt(&c)
			x.hurt(&c)
			if e, want := codelang.Check(c), firstError(c); e != want {
				t.Errorf("P7.1: %s and %s: %v, not %v", y.what, x.what, e, want)
			}
		}
	}
}

// firstError is P7.1, one sentence after the other.
func firstError(c api.Code) api.Errno {
	size := c.Data + len(c.Parity)
	for i := range c.Name {
		digit := c.Name[i] >= '0' && c.Name[i] <= '9' && i > 0
		if !digit && (c.Name[i] < 'a' || c.Name[i] > 'z') {
			return api.ErrName
		}
	}
	switch {
	case c.Name == "":
		return api.ErrName
	case len(c.Name) > 12:
		return api.ErrLimit
	case c.Field != 8 && c.Field != 16, c.Data < 1, c.Data > 31, len(c.Parity) == 0:
		return api.ErrArg
	case size > 32:
		return api.ErrLimit
	}
	for _, row := range c.Parity {
		if len(row) != c.Data || slices.Min(row) < 0 || slices.Max(row) == 0 || slices.Max(row) >= 1<<c.Field {
			return api.ErrArg
		}
	}
	if c.Domain < 1 || c.Domain > size {
		return api.ErrArg
	}
	return api.OK
}

func TestCheckBounds(t *testing.T) {
	for _, x := range []struct {
		what string
		hurt func(c *api.Code)
		e    api.Errno
	}{
		{"a name of one letter", func(c *api.Code) { c.Name = "z" }, api.OK},
		{"a name of 12 bytes", func(c *api.Code) { c.Name = "a09z56789012" }, api.OK},
		{"field 16", func(c *api.Code) { c.Field = 16; c.Parity[0][1] = 65535 }, api.OK},
		{"65536 with field 16", func(c *api.Code) { c.Field = 16; c.Parity[0][1] = 65536 }, api.ErrArg},
		{"255 with field 8", func(c *api.Code) { c.Parity[0][1] = 255 }, api.OK},
		{"domain 1", func(c *api.Code) { c.Domain = 1 }, api.OK},
		{"the width as domain", func(c *api.Code) { c.Domain = 5 }, api.OK},
	} {
		c := good()
		x.hurt(&c)
		if e := codelang.Check(c); e != x.e {
			t.Errorf("P7.1: %s: %v, not %v", x.what, e, x.e)
		}
	}
	for data := 1; data <= 31; data++ {
		c := api.Code{Name: "a", Field: 8, Data: data, Domain: 1}
		row := slices.Repeat([]int{1}, data)
		for range 33 - data {
			if e := codelang.Check(c); (e == api.OK) != (len(c.Parity) > 0) {
				t.Errorf("P7.1: %d data units and %d rows: %v", data, len(c.Parity), e)
			}
			c.Parity = append(c.Parity, row)
		}
		if e := codelang.Check(c); e != api.ErrLimit {
			t.Errorf("P7.1: %d data units and %d rows: %v", data, len(c.Parity), e)
		}
	}
}

func TestCheckNames(t *testing.T) {
	for b := range 256 {
		small, digit := b >= 'a' && b <= 'z', b >= '0' && b <= '9'
		for name, ok := range map[string]bool{string([]byte{byte(b)}): small, string([]byte{'q', byte(b), 'x'}): small || digit} {
			c := good()
			c.Name = name
			if e := codelang.Check(c); (e == api.OK) != ok || !ok && e != api.ErrName {
				t.Errorf("P7.1: the name %q: %v", name, e)
			}
		}
	}
}

func TestSame(t *testing.T) {
	changes := []func(c *api.Code){
		func(c *api.Code) { c.Name = "rs43" },
		func(c *api.Code) { c.Name = "" },
		func(c *api.Code) { c.Field = 16 },
		func(c *api.Code) { c.Data = 4 },
		func(c *api.Code) { c.Domain = 3 },
		func(c *api.Code) { c.Domain = math.MinInt },
		func(c *api.Code) { c.Parity = nil },
		func(c *api.Code) { c.Parity = c.Parity[:1] },
		func(c *api.Code) { c.Parity = append(c.Parity, nil) },
		func(c *api.Code) { c.Parity = append(c.Parity, []int{1, 1, 1}) },
		func(c *api.Code) { c.Parity[0], c.Parity[1] = c.Parity[1], c.Parity[0] },
		func(c *api.Code) { c.Parity[1][2] = 3 },
		func(c *api.Code) { c.Parity[1] = nil },
		func(c *api.Code) { c.Parity[0], c.Parity[1] = []int{1, 1, 1, 1}, []int{2, 0} },
		func(c *api.Code) { c.Parity = [][]int{{1, 1, 1, 1, 2, 0}} },
	}
	for i, change := range changes {
		for j, other := range changes {
			a, b, c := good(), good(), good()
			change(&a)
			other(&b)
			if codelang.Same(a, b) != (i == j) {
				t.Errorf("P7.2: the changes %d and %d: %v", i, j, i != j)
			}
			if codelang.Same(a, c) || codelang.Same(c, a) || !codelang.Same(c, good()) {
				t.Errorf("P7.2: change %d is not seen", i)
			}
		}
	}
	if !codelang.Same(api.Code{}, api.Code{Parity: [][]int{}}) || !codelang.Same(api.Code{Parity: [][]int{nil}}, api.Code{Parity: [][]int{{}}}) {
		t.Error("P7.2: an empty list may be nil")
	}
}

// anyCode returns a valid code of at most the given numbers of data units and rows.
func anyCode(r *rand.Rand, data, rows int) api.Code {
	c := api.Code{Name: anyName(r, 12), Field: 8 + 8*r.Intn(2), Data: 1 + r.Intn(data)}
	for range 1 + r.Intn(min(rows, 32-c.Data)) {
		row := make([]int, c.Data)
		for j := range row {
			row[j] = r.Intn(1<<c.Field) >> r.Intn(c.Field)
			if r.Intn(4) == 0 {
				row[j] = 0
			}
		}
		if slices.Max(row) == 0 {
			row[r.Intn(c.Data)] = 1 + r.Intn(1<<c.Field-1)
		}
		c.Parity = append(c.Parity, row)
	}
	c.Domain = 1 + r.Intn(c.Data+len(c.Parity))
	return c
}

// bigCode returns a code whose text has about 2000 bytes.
func bigCode(r *rand.Rand) api.Code {
	c := api.Code{Name: anyName(r, 12), Field: 16, Data: 14 + r.Intn(5), Domain: 1 + r.Intn(32)}
	least := 1000 + r.Intn(9000)
	for range 32 - c.Data {
		row := make([]int, c.Data)
		for j := range row {
			row[j] = least + r.Intn(65536-least)
		}
		row[r.Intn(c.Data)] = 0
		c.Parity = append(c.Parity, row)
	}
	return c
}

func anyName(r *rand.Rand, most int) string {
	b := []byte{byte('a' + r.Intn(26))}
	for len(b) < 1+r.Intn(most) {
		b = append(b, "abcdefghijklmnopqrstuvwxyz0123456789"[r.Intn(36)])
	}
	return string(b)
}

func clone(c api.Code) api.Code {
	c.Parity = slices.Clone(c.Parity)
	for i, row := range c.Parity {
		c.Parity[i] = slices.Clone(row)
	}
	return c
}

func TestPrint(t *testing.T) {
	c := api.Code{Name: "lrc", Field: 16, Data: 3, Parity: [][]int{{1, 300, 65535}, {0, 1, 7}, {0, 0, 10}}, Domain: 10 - 4}
	want := "code lrc {\n\tfield 16;\n\tdata 3;\n\tparity 1 300 65535;\n\tlocal 1 2: 1 7;\n\tlocal 2: 10;\n\tdomain 6;\n}\n"
	if s, e := codelang.Print(c); s != want || e != api.OK {
		t.Errorf("P7.3: %q, %v", s, e)
	}
	r := rand.New(rand.NewSource(1))
	long := 0
	for range 3000 {
		c := anyCode(r, 31, 31)
		if r.Intn(3) == 0 {
			c = bigCode(r)
		}
		before := clone(c)
		want, wantE := printed(c), api.OK
		if len(want) > 2000 {
			want, wantE = "", api.ErrLimit
			long++
		}
		if s, e := codelang.Print(c); s != want || e != wantE {
			t.Errorf("P7.3: %v: %q, %v, not %q, %v", c, s, e, want, wantE)
		}
		if e := codelang.Check(c); e != api.OK {
			t.Errorf("P7.1: %v: %v", c, e)
		}
		if !codelang.Same(c, before) {
			t.Errorf("P7.3: the code has changed: %v", before)
		}
	}
	if long < 30 || long > 2970 {
		t.Errorf("%d of 3000 texts are too long", long)
	}
}

// longCode returns a code whose text has size bytes, which is about 2000, with local rows.
func longCode(size int) api.Code {
	c := api.Code{Name: "long", Field: 16, Data: 16, Domain: 1}
	for len(c.Parity) < 16 {
		c.Parity = append(c.Parity, append(slices.Repeat([]int{10000}, 15), 0))
	}
	for k := 0; len(printed(c)) > size; k++ {
		c.Parity[k/15][k%15] = 10000 / min(10, len(printed(c))-size) // one digit less
		if len(printed(c)) == size+1 {
			c.Parity[k/15][k%15] = 1000
		}
	}
	return c
}

func TestLimit(t *testing.T) {
	for size := 1998; size <= 2003; size++ {
		c := longCode(size)
		text, wantE := printed(c), api.OK
		if len(text) != size {
			t.Fatalf("the code's text has %d bytes, not %d", len(text), size)
		}
		if size > 2000 {
			text, wantE = "", api.ErrLimit
		}
		if s, e := codelang.Print(c); s != text || e != wantE {
			t.Errorf("P7.3: a text of %d bytes: %v", size, e)
		}
		if r := parse(printed(c)); r.e != wantE || r.at != 0 || r.e == api.OK && !codelang.Same(r.codes[0], c) {
			t.Errorf("P7.4: a text of %d bytes: %v", size, r.e)
		}
		if r := parseAll(printed(c)); r.e != wantE || r.at != 0 {
			t.Errorf("P7.5: a text of %d bytes: %v", size, r.e)
		}
		for _, s := range []string{" ", "#", "%", "{", "8"} { // the length comes first, whatever the text is
			text := strings.Repeat(s, size)
			if r, want := parse(text), parsed(text, true); !r.same(want) || (r.e == api.ErrLimit) != (size > 2000) {
				t.Errorf("P7.4: %d times %q: %v, not %v", size, s, r, want)
			}
			if r, want := parseAll(text), parsed(text, false); !r.same(want) || (r.e == api.ErrLimit) != (size > 2000) {
				t.Errorf("P7.5: %d times %q: %v, not %v", size, s, r, want)
			}
		}
	}
}

func TestParseSyntax(t *testing.T) {
	for _, x := range []struct {
		text string
		at   int
	}{
		{"", 0},
		{" \t\n", 3},
		{"# code", 6},
		{"#\n\n # x\n ", 9},
		{"Code", 0},
		{"codes a", 0},
		{"code1 a", 0},
		{"cod", 0},
		{"code", 4},
		{"code ", 5},
		{"code # x", 8},
		{"code 8", 5},
		{"code {", 5},
		{"code a b", 7},
		{"code a { }", 9},
		{"code a { data 2; field 8; parity 1 1; }", 9},
		{"code a { field; ", 14},
		{"code a { field x;", 15},
		{"code a { field 08; data 2; parity 1 1; }", 15},
		{"code a { field 00; data 2; parity 1 1; }", 15},
		{"code a { field 123456; data 2; parity 1 1; }", 15},
		{"code a { field -8; data 2; parity 1 1; }", 15},
		{"code a { field +8; data 2; parity 1 1; }", 15},
		{"code a { field 8.0; data 2; parity 1 1; }", 16},
		{"code a { field 8 16; data 2; parity 1 1; }", 17},
		{"code a { field 8x; data 2; parity 1 1; }", 16},
		{"code a { field 8: data 2; parity 1 1; }", 16},
		{"code a { field 8; parity 1 1; }", 18},
		{"code a { field 8; data 2; }", 26},
		{"code a { field 8; data 2; domain 3; }", 26},
		{"code a { field 8; data 2; parity; }", 32},
		{"code a { field 8; data 2; parity : 1; }", 33},
		{"code a { field 8; data 2; parity 0: 1; }", 34},
		{"code a { field 8; data 2; parity 1, 1; }", 34},
		{"code a { field 8; data 2; local 0 1; }", 35},
		{"code a { field 8; data 2; local : 1; }", 32},
		{"code a { field 8; data 2; local 0: ; }", 35},
		{"code a { field 8; data 2; local 0: 1: 1; }", 36},
		{"code a { field 8; data 2; parity 1 1; domain; }", 44},
		{"code a { field 8; data 2; parity 1 1; domain 1 1; }", 47},
		{"code a { field 8; data 2; parity 1 1; domain 1; domain 1; }", 48},
		{"code a { field 8; data 2; parity 1 1; domain 1; parity 1 1; }", 48},
		{"code a { field 8; data 2; parity 1 1 }", 37},
		{"code a { field 8; data 2; parity 1 1;", 37},
		{"code a { field 8; data 2; parity 1 1; # }", 41},
		{"code a { field 8; data 2; parity 1 1; } }", 40},
		{"code a { field 8; data 2; parity 1 1; };", 39},
		{"code a { field 8; data 2; parity 1 1; } x", 40},
		{"code a { field 8; data 2; parity 1 1; }\x00", 39},
		{"code a {\r\n field 8; data 2; parity 1 1; }", 8},
		{"code a { field 8; data 2; parity 1 1; }\v", 39},
		{"code a { field 8; data 2; parity 1 1; }\xa0", 39},
		{"code é { field 8; data 2; parity 1 1; }", 5},
		{"code aé { field 8; data 2; parity 1 1; }", 6},
		{"code A { field 8; data 2; parity 1 1; }", 5},
		{"code a_b { field 8; data 2; parity 1 1; }", 6},
		{"code abcdefghijklm { field 9; data 99; parity 1 256 300; ", 57}, // the syntax precedes all other errors
		{"code a { field 8; data 2; parity 1 1; } // x", 40},
	} {
		want := result{nil, x.at, api.ErrSyntax}
		if r := parse(x.text); !r.same(want) {
			t.Errorf("P7.4: %q: %v, not %v", x.text, r, want)
		}
		if r := parsed(x.text, true); !r.same(want) {
			t.Errorf("the reference has %v for %q, not %v", r, x.text, want)
		}
		if r, want := parseAll(x.text), parsed(x.text, false); !r.same(want) {
			t.Errorf("P7.5: %q: %v, not %v", x.text, r, want)
		}
	}
}

func TestParseTokens(t *testing.T) {
	want := api.Code{Name: "code", Field: 8, Data: 2, Parity: [][]int{{1, 0}, {0, 3}}, Domain: 4}
	for _, text := range []string{
		"code code{field 8;data 2;parity 1 0;local 1:3;}",
		"code code{field 8;data 2;local 0:1;local 1:3;domain 4;}",
		"code\tcode\n{\tfield\n8\t;\ndata 2 ; parity 1 0 ; local 1 : 3 ; domain 4 ; }",
		"#\ncode#code x\n#\n#\ncode{field#\n8;data 2;#;\n;",
		"code code { field 8; data 2; parity 1 0; local 1: 3; domain 4; }# code b",
		"code code { field 8; data 2; parity 1 0; local 1: 3; domain 4; } # \x00\xff\r#",
		" code code { field 8; data 2; parity 1 0; local 1: 3; domain 4; }\n\n",
	} {
		r, p := parse(text), parsed(text, true)
		if !r.same(p) || r.e == api.OK && !codelang.Same(r.codes[0], want) {
			t.Errorf("P7.4: %q: %v, not %v", text, r, p)
		}
		if strings.HasPrefix(text, "#") != (r.e == api.ErrSyntax) {
			t.Errorf("P7.4: %q: %v", text, r)
		}
	}
	for _, name := range []string{"code", "field", "data", "parity", "local", "domain", "a8", "abcdefghijkl"} {
		text := "code " + name + "{field 8;data 1;parity 1;}"
		if r := parse(text); r.e != api.OK || r.codes[0].Name != name {
			t.Errorf("P7.4: the name %s: %v", name, r)
		}
	}
	for b := range 256 { // one byte between any two tokens, and after the last one
		for _, x := range []struct{ before, after string }{{"code a {", "field 8; data 1; parity 1; }"}, {"code a { field 8; data 1; parity 1; }", ""},
			{"", "code a { field 8; data 1; parity 1; }"}, {"code a", "{ field 8; data 1; parity 1; }"}, {"code a { field 8", "; data 1; parity 1; }"}} {
			text := x.before + string([]byte{byte(b)}) + x.after
			if r, want := parse(text), parsed(text, true); !r.same(want) {
				t.Errorf("P7.4: %q: %v, not %v", text, r, want)
			}
		}
	}
}

func TestParseErrors(t *testing.T) {
	ones := strings.Repeat(" 1", 31)
	for _, x := range []struct {
		text string
		at   int
		e    api.Errno
	}{
		{"code abcdefghijklm { field 9; data 0; parity 1 256; }", 5, api.ErrLimit},
		{"code a { field 0; data 0; parity 1 256; }", 15, api.ErrArg},
		{"code a { field 99999; data 0; parity 1 256; }", 15, api.ErrArg},
		{"code a { field 8; data 0; parity 1 256; }", 23, api.ErrArg},
		{"code a { field 8; data 32; parity 1 256; }", 23, api.ErrArg},
		{"code a { field 8; data 99999; parity 1 256; }", 23, api.ErrArg},
		{"code a { field 8; data 2; parity 1 256 1; domain 0; }", 26, api.ErrArg},
		{"code a { field 8; data 2; parity 1 256; parity 0; }", 35, api.ErrArg},
		{"code a { field 8; data 2; parity 256 257; parity 0; }", 33, api.ErrArg},
		{"code a { field 16; data 2; parity 1 65535; parity 65536 1; }", 50, api.ErrArg},
		{"code a { field 16; data 2; parity 1 99999; parity 65536 1; }", 36, api.ErrArg},
		{"code a { field 8; data 2; parity 0 1; parity 0 0; }", 38, api.ErrArg},
		{"code a { field 8; data 2; local 2: 0 0; domain 0; }", 32, api.ErrArg},
		{"code a { field 8; data 3; local 0 1 1: 0 0; domain 0; }", 36, api.ErrArg},
		{"code a { field 8; data 3; local 2 1: 0; domain 0; }", 34, api.ErrArg},
		{"code a { field 8; data 3; local 0 99999: 0; domain 0; }", 34, api.ErrArg},
		{"code a { field 8; data 3; local 0 2: 0 1 1; domain 0; }", 26, api.ErrArg},
		{"code a { field 8; data 3; local 0 2: 1; domain 0; }", 26, api.ErrArg},
		{"code a { field 8; data 3; local 0 2: 1 0; domain 0; }", 39, api.ErrArg},
		{"code a { field 8; data 3; local 0 2: 256 0; domain 0; }", 37, api.ErrArg},
		{"code a { field 16; data 3; local 0 2: 1 65536; domain 0; }", 40, api.ErrArg},
		{"code a { field 8; data 3; local 0 2: 1 1; domain 0; }", 49, api.ErrArg},
		{"code a { field 8; data 3; local 0 2: 1 1; domain 5; }", 49, api.ErrArg},
		{"code a { field 8; data 31; parity" + ones + "; domain 33; }", 104, api.ErrArg},
		{"code a { field 8; data 31; parity" + ones + "; parity 0; domain 33; }", 97, api.ErrLimit},
		{"code a { field 8; data 31; parity" + ones + "; local 99: 0 0; domain 33; }", 97, api.ErrLimit},
		{"code a { field 8; data 1; " + strings.Repeat("parity 1; ", 31) + "local 0: 1; domain 0; }", 336, api.ErrLimit},
		{"code a { field 8; data 1; " + strings.Repeat("parity 1; ", 31) + "domain 33; }", 343, api.ErrArg},
	} {
		want := result{nil, x.at, x.e}
		if r := parse(x.text); !r.same(want) {
			t.Errorf("P7.4: %q: %v, not %v", x.text, r, want)
		}
		if r := parseAll(x.text); !r.same(want) {
			t.Errorf("P7.5: %q: %v, not %v", x.text, r, want)
		}
		if r := parsed(x.text, true); !r.same(want) {
			t.Errorf("the reference has %v for %q, not %v", r, x.text, want)
		}
	}
	r := parse("code a { field 8; data 1; " + strings.Repeat("parity 1; ", 31) + "domain 32; }")
	if r.e != api.OK || len(r.codes[0].Parity) != 31 || r.codes[0].Domain != 32 {
		t.Error("P7.4: 31 rows and domain 32:", r)
	}
}

// small returns a short text of a code.
func small(name string) string { return "code " + name + "{field 8;data 1;parity 1;}" }

func TestParseAll(t *testing.T) {
	names := []string{"a", "b", "c", "d", "e", "f", "g", "h", "i", "j"}
	for n := range 11 {
		text := ""
		for _, name := range names[:n] {
			text += small(name)
		}
		want := result{nil, 8*len(small("a")) + 5, api.ErrLimit}
		if n <= 8 {
			want = parsed(text, false)
		}
		r := parseAll(text)
		if !r.same(want) || n <= 8 && (len(r.codes) != n || r.e != api.OK) {
			t.Errorf("P7.5: %d codes: %v", n, r)
		}
		if one := parse(text); n != 1 && (one.e != api.ErrSyntax || one.at != min(n, 1)*len(small("a"))) {
			t.Errorf("P7.4: %d codes: %v", n, one)
		}
	}
	eight, size := "", len(small("a"))
	for _, name := range names[:8] {
		eight += small(name)
	}
	long, wrong := "abcdefghijklm", "code x{field 9;data 1;parity 1;}"
	for _, x := range []struct {
		what, text string
		at         int
		e          api.Errno
	}{
		{"a name twice", small("a") + small("a"), size + 5, api.ErrName},
		{"a name twice, not adjacent", small("a") + small("b") + small("a"), 2*size + 5, api.ErrName},
		{"a name that begins with an earlier one", small("a") + small("ab"), 0, api.OK},
		{"the ninth code has the first name", eight + small("a"), 8*size + 5, api.ErrLimit},
		{"the ninth code has a long name", eight + small(long), 8*size + 5, api.ErrLimit},
		{"the ninth code and the tenth are wrong", eight + wrong + wrong, 8*size + 5, api.ErrLimit},
		{"a long name twice", small(long) + small(long), 5, api.ErrLimit},
		{"an error before the name twice", small("a") + wrong + small("a"), size + 13, api.ErrArg},
		{"an error after the name twice", small("a") + small("a") + wrong, size + 5, api.ErrName},
		{"an error in a code whose name is taken", small("x") + wrong, size + 5, api.ErrName},
		{"an error in the first code, and nine codes", wrong + eight, 13, api.ErrArg},
		{"no syntax after nine codes", eight + wrong + "code", 8*size + len(wrong) + 4, api.ErrSyntax},
		{"no syntax after a name twice", small("a") + small("a") + "!", 2 * size, api.ErrSyntax},
		{"blanks", " \n# x", 0, api.OK},
		{"nothing", "", 0, api.OK},
		{"no code", "x", 0, api.ErrSyntax},
		{"a sign after a code", small("a") + ";" + small("b"), size, api.ErrSyntax},
		{"a sign before a code", ";" + small("b"), 0, api.ErrSyntax},
	} {
		r := parseAll(x.text)
		if r.at != x.at || r.e != x.e || x.e != api.OK && len(r.codes) > 0 {
			t.Errorf("P7.5: %s: %v, not %d %v", x.what, r, x.at, x.e)
		}
		if want := parsed(x.text, false); !r.same(want) {
			t.Errorf("P7.5: %s: %v, but the reference has %v", x.what, r, want)
		}
	}
}

// loose returns a text with the same tokens and other gaps.
func loose(r *rand.Rand, text string) string {
	l, _, _ := lexemes(text)
	gaps := []string{" ", "\t", "\n", "  \n", "#\n", "# {;}: 8 code\n", " #\x00é\n\n"}
	s := ""
	for i, t := range l {
		apart := i > 0 && t.class() != ";" && strings.ContainsAny(t.text[:1], "abcdefghijklmnopqrstuvwxyz0123456789")
		if apart || r.Intn(3) == 0 {
			s += gaps[r.Intn(len(gaps))]
		}
		s += t.text
	}
	if r.Intn(3) == 0 {
		s += []string{"#", "# x", "\n", " \t# }"}[r.Intn(4)]
	}
	return s
}

func TestRoundTrip(t *testing.T) {
	r := rand.New(rand.NewSource(2))
	for range 200 {
		c := anyCode(r, 12, 12)
		text, e := codelang.Print(c)
		if e != api.OK {
			continue
		}
		p := parse(text)
		if p.e != api.OK || p.at != 0 || !codelang.Same(p.codes[0], c) {
			t.Fatalf("P7.6: %v is printed as %q and parsed as %v", c, text, p)
		}
		if again, e := codelang.Print(p.codes[0]); again != text || e != api.OK {
			t.Fatalf("P7.6: %q is printed as %q, %v", text, again, e)
		}
		other := loose(r, text)
		if p := parse(other); len(other) <= 2000 && (p.e != api.OK || !codelang.Same(p.codes[0], c)) {
			t.Fatalf("P7.7: %q is parsed as %v", other, p)
		}
		for end := range strings.LastIndex(text, "}") {
			if p := parse(text[:end]); p.e != api.ErrSyntax || p.at > end {
				t.Fatalf("P7.7: the prefix %q: %v", text[:end], p)
			}
			if p := parseAll(text[:end]); (p.e != api.ErrSyntax) != (end == 0) {
				t.Fatalf("P7.7: the prefix %q: %v", text[:end], p)
			}
		}
	}
}

func TestConcatenation(t *testing.T) {
	r := rand.New(rand.NewSource(3))
	for range 2000 {
		text, codes := "", []api.Code(nil)
		for i := range r.Intn(10) {
			c := anyCode(r, 4, 3)
			c.Name = fmt.Sprintf("%s%d", anyName(r, 10), i)
			s, _ := codelang.Print(c)
			text += s
			codes = append(codes, c)
		}
		p := parseAll(text)
		switch {
		case len(text) > 2000 && !p.same(result{nil, 0, api.ErrLimit}):
			t.Fatalf("P7.5: a text of %d bytes: %v", len(text), p)
		case len(text) <= 2000 && len(codes) > 8 && p.e != api.ErrLimit:
			t.Fatalf("P7.7: %d codes: %v", len(codes), p)
		case len(text) <= 2000 && len(codes) <= 8 && !p.same(result{codes, 0, api.OK}):
			t.Fatalf("P7.7: the codes %v: %v", codes, p)
		}
	}
}

// damaged returns a text in which some tokens or bytes are changed, removed, added or exchanged.
func damaged(r *rand.Rand, text string) string {
	l, _, _ := lexemes(text)
	var parts []string
	for _, t := range l {
		parts = append(parts, t.text)
	}
	others := []string{"0", "1", "2", "7", "8", "9", "16", "31", "32", "33", "255", "256", "65535", "65536", "99999", "100000", "01",
		"code", "field", "data", "parity", "local", "domain", "{", "}", ";", ":", "x", "abcdefghijklm", "-", "\r", "%", "#", "# x\n", "é"}
	for range r.Intn(3) {
		i, s := r.Intn(len(parts)), others[r.Intn(len(others))]
		if r.Intn(2) == 0 { // of the same kind
			for (parts[i][0] <= '9') != (s[0] <= '9') {
				s = others[r.Intn(len(others))]
			}
			parts[i] = s
			continue
		}
		switch r.Intn(4) {
		case 0:
			parts[i] = s
		case 1:
			parts = slices.Insert(parts, i, s)
		case 2:
			parts = append(slices.Delete(parts, i, i+1), "")
		case 3:
			parts = append(parts[:i], parts[max(i-r.Intn(6), 0):]...)
		}
		parts = slices.DeleteFunc(parts, func(s string) bool { return s == "" })
		if len(parts) == 0 {
			return ""
		}
	}
	return strings.Join(parts, []string{" ", "\n", "  "}[r.Intn(3)])
}

func TestParseAny(t *testing.T) {
	r := rand.New(rand.NewSource(4))
	seen := map[api.Errno]int{}
	for range 20000 {
		text := printed(anyCode(r, 4, 3))
		for range r.Intn(2) * r.Intn(10) {
			c := anyCode(r, 3, 2)
			c.Name = anyName(r, 2)
			text += printed(c)
		}
		text = damaged(r, text)
		one, want := parse(text), parsed(text, true)
		if !one.same(want) {
			t.Fatalf("P7.4: %q: %v, not %v", text, one, want)
		}
		all, want := parseAll(text), parsed(text, false)
		if !all.same(want) {
			t.Fatalf("P7.5: %q: %v, not %v", text, all, want)
		}
		seen[one.e]++
		seen[all.e]++
		checkAccepted(t, one)
		checkAccepted(t, all)
	}
	for _, e := range []api.Errno{api.OK, api.ErrArg, api.ErrLimit, api.ErrSyntax, api.ErrName} {
		if seen[e] < 300 {
			t.Errorf("only %d texts have the error %v", seen[e], e)
		}
	}
}

// checkAccepted checks P7.6 for codes that were parsed.
func checkAccepted(t *testing.T, r result) {
	for _, c := range r.codes {
		if e := codelang.Check(c); e != api.OK {
			t.Fatalf("P7.6: %v is parsed, but Check returns %v", c, e)
		}
		text, e := codelang.Print(c)
		if e == api.ErrLimit && len(printed(c)) > 2000 {
			continue
		}
		again := parse(text)
		if e != api.OK || again.e != api.OK || !codelang.Same(again.codes[0], c) {
			t.Fatalf("P7.6: %v is printed as %q, %v, and parsed as %v", c, text, e, again)
		}
	}
}

func TestPrintLonger(t *testing.T) {
	text := "code a{field 16;data 16;"
	for range 16 {
		text += "parity 0" + strings.Repeat(" 10000", 15) + ";"
	}
	r := parse(text + "}")
	if r.e != api.OK || codelang.Check(r.codes[0]) != api.OK {
		t.Fatal("P7.4: a text with parity rows that contain 0:", r)
	}
	if s, e := codelang.Print(r.codes[0]); s != "" || e != api.ErrLimit {
		t.Errorf("P7.3: the text with local rows has %d bytes: %v", len(s), e)
	}
}

func TestMemory(t *testing.T) {
	text := "code a { field 8; data 2; parity 1 2; parity 3 4; local 1: 5; } code b { field 8; data 2; parity 6 7; }"
	want, _, _ := codelang.ParseAll(text)
	for i := range want {
		for k := range want[i].Parity {
			l, _, e := codelang.ParseAll(text)
			if e != api.OK || !slices.EqualFunc(l, want, codelang.Same) {
				t.Fatal("P7.5: a later result differs:", l, e)
			}
			row := l[i].Parity[k]
			copy(row[:cap(row)], slices.Repeat([]int{99}, cap(row)))
			l[i].Parity[k] = want[i].Parity[k]
			if !slices.EqualFunc(l, want, codelang.Same) {
				t.Errorf("P7.5: row %d of code %d shares memory with another one: %v", k, i, l)
			}
		}
		l, _, _ := codelang.ParseAll(text)
		rows := l[i].Parity
		copy(rows[:cap(rows)], slices.Repeat([][]int{nil}, cap(rows)))
		l[i] = want[i]
		if !slices.EqualFunc(l, want, codelang.Same) {
			t.Errorf("P7.5: the list of rows of code %d is shared: %v", i, l)
		}
	}
}

func FuzzParse(f *testing.F) {
	f.Add("code a { field 8; data 2; parity 1 1; }")
	f.Add("code lrc { # x\n\tfield 16; data 3; local 0 2: 1 65535; parity 0 1 256; domain 4; } code b { field 8; data 1; parity 255; }")
	f.Add(small("a") + small("b") + small("c") + small("d") + small("e") + small("f") + small("g") + small("h") + small("i"))
	f.Add("code a { field 8; data 31; local 30: 0 1; parity 00000; domain 99999; } 1234567 {")
	f.Fuzz(func(t *testing.T, text string) {
		one, all := parse(text), parseAll(text)
		if want := parsed(text, true); !one.same(want) {
			t.Errorf("P7.4: %q: %v, not %v", text, one, want)
		}
		if want := parsed(text, false); !all.same(want) {
			t.Errorf("P7.5: %q: %v, not %v", text, all, want)
		}
		checkAccepted(t, one)
		checkAccepted(t, all)
	})
}
