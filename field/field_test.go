package field_test

import (
	"math"
	"math/big"
	"math/rand"
	"slices"
	"strings"
	"testing"

	"solvent/api"
	"solvent/field"
)

// The references below follow the chapter's definitions: polynomials are multiplied and divided as on paper, and powers are
// looked up in a list of them.

var sizes = []int{8, 16}

// noSizes are values of m without a field.
var noSizes = []int{
	0, 1, 2, 4, 7, 9, 10, 12, 15, 17, 18, 24, 31, 32, 63, 64, 65, 256, 1<<32 + 8, 1<<32 + 16, -1, -8, -16,
	math.MaxInt, math.MaxInt - 7, math.MinInt, math.MinInt + 8, math.MinInt + 16,
}

// noElements returns values that are not elements of the field with 2^m elements.
func noElements(m int) []int {
	n := 1 << m
	return []int{n, n + 1, 2*n - 1, 2 * n, 1 << 32, 1<<32 + 1, -1, -2, -n, -n + 1, math.MaxInt, math.MinInt, math.MinInt + 1}
}

// polynomial returns the polynomial of the field, from its exponents.
func polynomial(m int) int {
	exponents := map[int][]int{8: {8, 4, 3, 2, 0}, 16: {16, 12, 3, 1, 0}}
	p := 0
	for _, i := range exponents[m] {
		p |= 1 << i
	}
	return p
}

// mul returns the remainder of the product of two polynomials.
func mul(m, a, b int) int {
	product := 0
	for i := range m {
		if b>>i&1 == 1 {
			product ^= a << i
		}
	}
	for i := 2*m - 2; i >= m; i-- {
		if product>>i&1 == 1 {
			product ^= polynomial(m) << (i - m)
		}
	}
	return product
}

// powers returns the powers 0 to 2^m-2 of the element 2, and the list of the elements' logarithms, -1 for 0.
func powers(m int) (power, log []int) {
	log = slices.Repeat([]int{-1}, 1<<m)
	for p := 1; log[p] < 0; p = mul(m, p, 2) {
		log[p] = len(power)
		power = append(power, p)
	}
	return power, log
}

// elements returns all elements of the small field, and some of the large one.
func elements(m int, r *rand.Rand) []int {
	var l []int
	for a := range 256 {
		l = append(l, a)
	}
	if m == 16 {
		for i := range 256 {
			l = append(l, i<<8, 65535-i, r.Intn(1<<16))
		}
	}
	return l
}

// split returns the symbols of a unit.
func split(m int, unit string) []int {
	var l []int
	for i := range len(unit) / (m / 8) {
		if m == 8 {
			l = append(l, int(unit[i]))
		} else {
			l = append(l, 256*int(unit[2*i])+int(unit[2*i+1]))
		}
	}
	return l
}

// join returns the unit with these symbols.
func join(m int, symbols []int) string {
	var b []byte
	for _, s := range symbols {
		if m == 16 {
			b = append(b, byte(s/256))
		}
		b = append(b, byte(s%256))
	}
	return string(b)
}

// combine returns the combination of P5.6, symbol by symbol.
func combine(m int, coef []int, units []string) string {
	sums := make([]int, len(units[0])/(m/8))
	for k := range sums {
		for i, c := range coef {
			sums[k] ^= mul(m, c, split(m, units[i])[k])
		}
	}
	return join(m, sums)
}

func random(r *rand.Rand, n int) string {
	b := make([]byte, n)
	r.Read(b)
	return string(b)
}

// randomUnits returns coefficients, many of which are 0 or 1, and units of n bytes.
func randomUnits(r *rand.Rand, m, count, n int) ([]int, []string) {
	var coef []int
	var units []string
	for range count {
		coef = append(coef, r.Intn([]int{2, 1 << m}[r.Intn(2)]))
		units = append(units, random(r, n))
	}
	return coef, units
}

// number checks the result of a call.
func number(t *testing.T, what string, m, a, b, got int, e api.Errno, want int, wanted api.Errno) {
	t.Helper()
	if got != want || e != wanted {
		t.Fatalf("%s(%d, %d, %d) = %d, %d, want %d, %d", what, m, a, b, got, e, want, wanted)
	}
}

// unit checks the result of a call.
func unit(t *testing.T, what, got string, e api.Errno, want string, wanted api.Errno) {
	t.Helper()
	if got != want || e != wanted {
		t.Fatalf("%s = %x, %d, want %x, %d", what, got, e, want, wanted)
	}
}

func TestExamples(t *testing.T) {
	inv := func(m, a, _ int) (int, api.Errno) { return field.Inv(m, a) }
	log := func(m, a, _ int) (int, api.Errno) { return field.Log(m, a) }
	for _, x := range []struct {
		what    string
		f       func(m, a, b int) (int, api.Errno)
		m, a, b int
		want    int
		wanted  api.Errno
	}{
		{"P5.1: Add", field.Add, 8, 5, 3, 6, api.OK},
		{"P5.1: Mul", field.Mul, 8, 2, 128, 29, api.OK},
		{"P5.1: Mul", field.Mul, 8, 3, 7, 9, api.OK},
		{"P5.1: Mul", field.Mul, 16, 2, 32768, 4107, api.OK},
		{"P5.1: Mul", field.Mul, 8, 256, 1, 0, api.ErrArg},
		{"P5.1: Mul", field.Mul, 7, 1, 1, 0, api.ErrArg},
		{"P5.2: Inv", inv, 8, 2, 0, 142, api.OK},
		{"P5.2: Inv", inv, 8, 0, 0, 0, api.ErrNone},
		{"P5.2: Div", field.Div, 8, 1, 2, 142, api.OK},
		{"P5.3: Pow", field.Pow, 8, 2, 8, 29, api.OK},
		{"P5.3: Pow", field.Pow, 8, 2, -1, 142, api.OK},
		{"P5.3: Pow", field.Pow, 8, 0, 0, 1, api.OK},
		{"P5.3: Log", log, 8, 29, 0, 8, api.OK},
		{"P5.3: Log", log, 8, 0, 0, 0, api.ErrNone},
	} {
		got, e := x.f(x.m, x.a, x.b)
		number(t, x.what, x.m, x.a, x.b, got, e, x.want, x.wanted)
	}
}

func TestUnitExamples(t *testing.T) {
	got, e := field.Xor("\x01\x02", "\x03\x03")
	unit(t, "P5.4: Xor", got, e, "\x02\x01", api.OK)
	got, e = field.Scale(8, 2, "\x80\x01")
	unit(t, "P5.5: Scale(8, 2)", got, e, "\x1d\x02", api.OK)
	got, e = field.Scale(16, 2, "\x80\x00")
	unit(t, "P5.5: Scale(16, 2)", got, e, "\x10\x0b", api.OK)
	got, e = field.Scale(16, 2, "\x01")
	unit(t, "P5.5: Scale(16, 2)", got, e, "", api.ErrArg)
	got, e = field.Combine(8, []int{1, 2}, []string{"\x03\x04", "\x01\x01"})
	unit(t, "P5.6: Combine", got, e, "\x01\x06", api.OK)
	got, e = field.Combine(8, nil, nil)
	unit(t, "P5.6: Combine", got, e, "", api.ErrArg)
}

func TestValid(t *testing.T) {
	for _, m := range sizes {
		for a := -300; a < 1<<17; a++ {
			if got, want := field.Valid(m, a), a >= 0 && a < 1<<m; got != want {
				t.Errorf("P5.1: Valid(%d, %d) = %t", m, a, got)
			}
		}
		for _, a := range noElements(m) {
			if field.Valid(m, a) {
				t.Errorf("P5.1: Valid(%d, %d)", m, a)
			}
		}
	}
	for m := -300; m < 300; m++ {
		if got, want := field.Valid(m, 0), m == 8 || m == 16; got != want {
			t.Errorf("P5.1: Valid(%d, 0) = %t", m, got)
		}
	}
	for _, m := range noSizes {
		for _, a := range []int{0, 1, 2, 255, -1, math.MaxInt, math.MinInt} {
			if field.Valid(m, a) {
				t.Errorf("P5.1: Valid(%d, %d)", m, a)
			}
		}
	}
}

func TestAddMul(t *testing.T) {
	r := rand.New(rand.NewSource(1))
	check := func(m, a, b int) {
		t.Helper()
		got, e := field.Add(m, a, b)
		number(t, "P5.1: Add", m, a, b, got, e, a^b, api.OK)
		got, e = field.Mul(m, a, b)
		number(t, "P5.1: Mul", m, a, b, got, e, mul(m, a, b), api.OK)
	}
	for _, m := range sizes {
		l := elements(m, r)
		for _, a := range l {
			for _, b := range l[:256] {
				check(m, a, b)
				check(m, b, a)
			}
		}
		for range 100000 {
			check(m, r.Intn(1<<m), r.Intn(1<<m))
		}
		for i := range m {
			for j := range m {
				check(m, 1<<i, 1<<j)
				check(m, 1<<m-1-1<<i, 1<<m-1-1<<j)
			}
		}
	}
}

func TestInv(t *testing.T) {
	for _, m := range sizes {
		power, log := powers(m)
		for a := 1; a < 1<<m; a++ {
			want := power[(len(power)-log[a])%len(power)]
			got, e := field.Inv(m, a)
			number(t, "P5.2: Inv", m, a, 0, got, e, want, api.OK)
			if mul(m, a, got) != 1 {
				t.Fatalf("P5.2: Inv(%d, %d) = %d", m, a, got)
			}
		}
		got, e := field.Inv(m, 0)
		number(t, "P5.2: Inv", m, 0, 0, got, e, 0, api.ErrNone)
	}
}

func TestDiv(t *testing.T) {
	r := rand.New(rand.NewSource(2))
	for _, m := range sizes {
		power, log := powers(m)
		check := func(a, b int) {
			t.Helper()
			want, wanted := 0, api.OK
			switch {
			case b == 0:
				wanted = api.ErrNone
			case a != 0:
				want = power[(log[a]-log[b]+len(power))%len(power)]
			}
			got, e := field.Div(m, a, b)
			number(t, "P5.2: Div", m, a, b, got, e, want, wanted)
		}
		for a := range 256 {
			for b := range 256 {
				check(a, b)
				check(1<<m-1-a, b)
				check(a, 1<<m-1-b)
			}
		}
		for range 20000 {
			check(r.Intn(1<<m), r.Intn(1<<m))
		}
	}
}

func TestPowFactors(t *testing.T) {
	r := rand.New(rand.NewSource(3))
	for _, m := range sizes {
		power, log := powers(m)
		for _, a := range elements(m, r) {
			for n, p := 0, 1; n <= 600; n, p = n+1, mul(m, p, a) {
				got, e := field.Pow(m, a, n)
				number(t, "P5.3: Pow", m, a, n, got, e, p, api.OK)
				if n == 0 {
					continue
				}
				got, e = field.Pow(m, a, -n)
				if a == 0 {
					number(t, "P5.3: Pow", m, a, -n, got, e, 0, api.ErrNone)
				} else {
					number(t, "P5.3: Pow", m, a, -n, got, e, power[(len(power)-log[p])%len(power)], api.OK)
				}
			}
		}
	}
}

// exponents returns those at which a power could go wrong: at the multiples of the number of powers, and at the limits.
func exponents(r *rand.Rand) []int {
	l := []int{math.MaxInt, math.MinInt, math.MinInt + 1}
	for i := range 63 {
		l = append(l, 1<<i, -1<<i, r.Intn(1<<i), -r.Intn(1<<i))
	}
	for _, n := range []int{255, 257, 510, 65535, 131070, 1 << 32, math.MaxInt / 65535 * 65535, math.MinInt / 65535 * 65535} {
		for i := -3; i <= 3; i++ {
			l = append(l, n+i, -n+i)
		}
	}
	return l
}

func TestPowLimits(t *testing.T) {
	r := rand.New(rand.NewSource(4))
	for _, m := range sizes {
		power, log := powers(m)
		for _, n := range exponents(r) {
			for _, a := range elements(m, r) {
				if a == 0 {
					continue
				}
				want := new(big.Int).Mul(big.NewInt(int64(log[a])), big.NewInt(int64(n)))
				want.Mod(want, big.NewInt(int64(len(power))))
				got, e := field.Pow(m, a, n)
				number(t, "P5.3: Pow", m, a, n, got, e, power[want.Int64()], api.OK)
			}
			want, wanted := 0, api.OK
			switch {
			case n == 0:
				want = 1
			case n < 0:
				wanted = api.ErrNone
			}
			got, e := field.Pow(m, 0, n)
			number(t, "P5.3: Pow", m, 0, n, got, e, want, wanted)
		}
	}
}

func TestLog(t *testing.T) {
	for _, m := range sizes {
		power, log := powers(m)
		if len(power) != 1<<m-1 {
			t.Fatalf("P5.3: 2 has %d powers for m = %d", len(power), m)
		}
		for a := 1; a < 1<<m; a++ {
			got, e := field.Log(m, a)
			number(t, "P5.3: Log", m, a, 0, got, e, log[a], api.OK)
			p, e := field.Pow(m, 2, got)
			number(t, "P5.3: Pow", m, 2, got, p, e, a, api.OK)
		}
		got, e := field.Log(m, 0)
		number(t, "P5.3: Log", m, 0, 0, got, e, 0, api.ErrNone)
	}
}

// TestInvalid tests that invalid arguments come before a division by 0.
func TestInvalid(t *testing.T) {
	check := func(m, a, b int) {
		t.Helper()
		for _, f := range []func(m, a, b int) (int, api.Errno){field.Add, field.Mul, field.Div} {
			got, e := f(m, a, b)
			number(t, "P5.1, P5.2: a function", m, a, b, got, e, 0, api.ErrArg)
		}
	}
	one := func(m, a int) {
		t.Helper()
		for _, f := range []func(m, a int) (int, api.Errno){field.Inv, field.Log} {
			got, e := f(m, a)
			number(t, "P5.2, P5.3: a function", m, a, 0, got, e, 0, api.ErrArg)
		}
		for _, n := range []int{0, 1, -1, 2, 255, math.MaxInt, math.MinInt} {
			got, e := field.Pow(m, a, n)
			number(t, "P5.3: Pow", m, a, n, got, e, 0, api.ErrArg)
		}
	}
	for _, m := range sizes {
		for _, a := range noElements(m) {
			one(m, a)
			check(m, a, a)
			for _, b := range []int{0, 1, 2, 128, 1<<m - 1} {
				check(m, a, b)
				check(m, b, a)
			}
		}
	}
	for _, m := range noSizes {
		for _, a := range []int{0, 1, 2, 255, -1, math.MaxInt, math.MinInt} {
			one(m, a)
			check(m, a, 1)
			check(m, 0, a)
		}
	}
}

func TestXor(t *testing.T) {
	r := rand.New(rand.NewSource(5))
	for n := range 300 {
		a, b := random(r, n), random(r, n)
		want := make([]byte, n)
		for i := range want {
			want[i] = a[i] ^ b[i]
		}
		got, e := field.Xor(a, b)
		unit(t, "P5.4: Xor", got, e, string(want), api.OK)
		got, e = field.Xor(a, a)
		unit(t, "P5.4: Xor of a unit and itself", got, e, strings.Repeat("\x00", n), api.OK)
		for _, longer := range []string{a + "\x00", a + b + "x", a + random(r, 1+r.Intn(300))} {
			got, e = field.Xor(a, longer)
			unit(t, "P5.4: Xor with a longer unit", got, e, "", api.ErrArg)
			got, e = field.Xor(longer, a)
			unit(t, "P5.4: Xor with a shorter unit", got, e, "", api.ErrArg)
		}
	}
}

func TestScale(t *testing.T) {
	r := rand.New(rand.NewSource(6))
	every := make([]byte, 256)
	for i := range every {
		every[i] = byte(i)
	}
	for _, m := range sizes {
		for _, c := range elements(m, r) {
			for _, u := range []string{string(every), "\x01\x00", "\x00\x01", "\x80\x00\x00\x80", random(r, 32), random(r, 2*r.Intn(50))} {
				got, e := field.Scale(m, c, u)
				unit(t, "P5.5: Scale", got, e, combine(m, []int{c}, []string{u}), api.OK)
			}
			got, e := field.Scale(m, c, "")
			unit(t, "P5.5: Scale of no bytes", got, e, "", api.OK)
		}
	}
	for n := range 100 {
		u := random(r, n)
		got, e := field.Scale(8, 77, u)
		unit(t, "P5.5: Scale", got, e, combine(8, []int{77}, []string{u}), api.OK)
		got, e = field.Scale(16, 7777, u)
		if n%2 == 0 {
			unit(t, "P5.5: Scale", got, e, combine(16, []int{7777}, []string{u}), api.OK)
		} else {
			unit(t, "P5.5: Scale of an odd number of bytes", got, e, "", api.ErrArg)
		}
	}
}

func TestNoScale(t *testing.T) {
	for _, u := range []string{"", "a", "ab", "abc"} {
		for _, m := range sizes {
			for _, c := range noElements(m) {
				got, e := field.Scale(m, c, u)
				unit(t, "P5.5: Scale by no element", got, e, "", api.ErrArg)
			}
		}
		for _, m := range noSizes {
			for _, c := range []int{0, 1, 2, -1} {
				got, e := field.Scale(m, c, u)
				unit(t, "P5.5: Scale without a field", got, e, "", api.ErrArg)
			}
		}
	}
}

func TestCombine(t *testing.T) {
	r := rand.New(rand.NewSource(7))
	for _, m := range sizes {
		for count := 1; count <= 40; count++ {
			for _, n := range []int{0, 2, 4, 32, 2 * r.Intn(40)} {
				coef, units := randomUnits(r, m, count, n)
				coefBefore, unitsBefore := slices.Clone(coef), slices.Clone(units)
				got, e := field.Combine(m, coef, units)
				unit(t, "P5.6: Combine", got, e, combine(m, coef, units), api.OK)
				if !slices.Equal(coef, coefBefore) || !slices.Equal(units, unitsBefore) {
					t.Fatal("Memory: Combine changed its arguments")
				}
			}
		}
	}
	for n := range 40 {
		coef, units := randomUnits(r, 8, 3, n)
		got, e := field.Combine(8, coef, units)
		unit(t, "P5.6: Combine", got, e, combine(8, coef, units), api.OK)
	}
	got, e := field.Combine(16, []int{1}, []string{""})
	unit(t, "P5.6: Combine of no bytes", got, e, "", api.OK)
}

func TestNoCombine(t *testing.T) {
	r := rand.New(rand.NewSource(8))
	refuse := func(what string, m int, coef []int, units []string) {
		t.Helper()
		got, e := field.Combine(m, coef, units)
		unit(t, "P5.6: Combine "+what, got, e, "", api.ErrArg)
	}
	for _, m := range append([]int{8, 16}, noSizes...) {
		refuse("of nothing", m, nil, nil)
		refuse("of nothing", m, []int{}, []string{})
		refuse("without coefficients", m, nil, []string{""})
		refuse("without units", m, []int{1}, nil)
	}
	for _, m := range sizes {
		for count := 1; count <= 5; count++ {
			coef, units := randomUnits(r, m, count, 6)
			refuse("with too many coefficients", m, append(slices.Clone(coef), 0), units)
			refuse("with too many units", m, coef, append(slices.Clone(units), units[0]))
			for _, no := range noSizes {
				refuse("without a field", no, coef, units)
			}
			for i := range count {
				for _, c := range noElements(m) {
					wrong := slices.Clone(coef)
					wrong[i] = c
					refuse("with no element", m, wrong, units)
				}
				for _, u := range []string{"", "abcd", "abcde", "abcdefg", "abcdefgh"} {
					wrong := slices.Clone(units)
					wrong[i] = u
					if count > 1 {
						refuse("of different lengths", m, coef, wrong)
					}
				}
			}
		}
	}
	for n := 1; n < 40; n += 2 {
		coef, units := randomUnits(r, 16, 1+n%4, n)
		refuse("of odd lengths", 16, coef, units)
	}
}

// must returns the result of a call that has one.
func must[T any](t *testing.T) func(x T, e api.Errno) T {
	return func(x T, e api.Errno) T {
		t.Helper()
		if e != api.OK {
			t.Fatalf("P5.7: the error %d", e)
		}
		return x
	}
}

func TestAxioms(t *testing.T) {
	r := rand.New(rand.NewSource(9))
	n := must[int](t)
	for _, m := range sizes {
		add := func(a, b int) int { return n(field.Add(m, a, b)) }
		mul := func(a, b int) int { return n(field.Mul(m, a, b)) }
		for range 20000 {
			a, b, c := r.Intn(1<<m), r.Intn(1<<m), r.Intn(1<<m)
			if add(a, b) != add(b, a) || add(a, add(b, c)) != add(add(a, b), c) || add(a, a) != 0 || add(a, 0) != a {
				t.Fatalf("P5.7: the sums of %d, %d, %d for m = %d", a, b, c, m)
			}
			if mul(a, b) != mul(b, a) || mul(a, mul(b, c)) != mul(mul(a, b), c) || mul(a, 1) != a || mul(a, 0) != 0 {
				t.Fatalf("P5.7: the products of %d, %d, %d for m = %d", a, b, c, m)
			}
			if mul(a, add(b, c)) != add(mul(a, b), mul(a, c)) {
				t.Fatalf("P5.7: the product of %d and the sum of %d, %d for m = %d", a, b, c, m)
			}
			if a == 0 || b == 0 {
				continue
			}
			if mul(a, n(field.Inv(m, a))) != 1 || mul(n(field.Div(m, c, a)), a) != c {
				t.Fatalf("P5.7: the inverse of %d for m = %d", a, m)
			}
			if n(field.Log(m, mul(a, b))) != (n(field.Log(m, a))+n(field.Log(m, b)))%(1<<m-1) {
				t.Fatalf("P5.7: the logarithm of the product of %d and %d for m = %d", a, b, m)
			}
		}
	}
}

func TestLinear(t *testing.T) {
	r := rand.New(rand.NewSource(10))
	u := must[string](t)
	for _, m := range sizes {
		for range 1000 {
			c := 1 + r.Intn(1<<m-1)
			coef, units := randomUnits(r, m, 1+r.Intn(6), 2*r.Intn(20))
			_, others := randomUnits(r, m, len(units), len(units[0]))
			inverse := must[int](t)(field.Inv(m, c))
			if u(field.Scale(m, inverse, u(field.Scale(m, c, units[0])))) != units[0] {
				t.Fatalf("P5.7: Scale by %d and its inverse for m = %d", c, m)
			}
			var sums, multiples []string
			for i := range units {
				sums = append(sums, u(field.Xor(units[i], others[i])))
				multiples = append(multiples, u(field.Scale(m, c, units[i])))
			}
			one, two := u(field.Combine(m, coef, units)), u(field.Combine(m, coef, others))
			if u(field.Combine(m, coef, sums)) != u(field.Xor(one, two)) {
				t.Fatalf("P5.7: Combine of sums for m = %d", m)
			}
			if u(field.Combine(m, coef, multiples)) != u(field.Scale(m, c, one)) {
				t.Fatalf("P5.7: Combine of multiples for m = %d", m)
			}
		}
	}
}

func FuzzCombine(f *testing.F) {
	f.Add(false, 1, 2, "\x03\x04", "\x01\x01")
	f.Add(true, 2, 0, "\x80\x00", "\x00\x01")
	f.Add(true, 65535, 65536, "odd", "odd")
	f.Add(false, -1, 256, "", "a")
	f.Fuzz(func(t *testing.T, large bool, c, d int, a, b string) {
		m := 8
		if large {
			m = 16
		}
		inside := func(c int) bool { return c >= 0 && c < 1<<m }
		coef, units := []int{c, d}, []string{a, b}
		got, e := field.Combine(m, coef, units)
		if inside(c) && inside(d) && len(a) == len(b) && len(a)*8%m == 0 {
			unit(t, "P5.6: Combine", got, e, combine(m, coef, units), api.OK)
		} else {
			unit(t, "P5.6: Combine", got, e, "", api.ErrArg)
		}
		sum, e := field.Combine(m, []int{1, 1}, units)
		if xor, e2 := field.Xor(a, b); e == api.OK && (xor != sum || e2 != api.OK) {
			t.Fatalf("P5.4: Xor = %x, %d, want %x", xor, e2, sum)
		}
		got, e = field.Scale(m, c, a)
		if inside(c) && len(a)*8%m == 0 {
			unit(t, "P5.5: Scale", got, e, combine(m, []int{c}, []string{a}), api.OK)
		} else {
			unit(t, "P5.5: Scale", got, e, "", api.ErrArg)
		}
	})
}
