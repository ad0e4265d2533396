package matrix_test

import (
	"math"
	"math/rand"
	"slices"
	"testing"

	"solvent/api"
	"solvent/field"
	"solvent/matrix"
)

// The references below do not eliminate: ranks are those of the greatest minors that are not 0, and larger matrices are built so
// that their ranks, inverses and solutions are known.

var sizes = []int{8, 16}

// table is a matrix as a list of rows, each with cols elements.
type table struct {
	m, cols int
	rows    [][]int
}

func (a table) matrix() api.Matrix {
	return api.Matrix{Field: a.m, Rows: len(a.rows), Cols: a.cols, Cell: slices.Concat(a.rows...)}
}

// tableOf returns the rows of a matrix.
func tableOf(a api.Matrix) table {
	l := table{m: a.Field, cols: a.Cols}
	for i := range a.Rows {
		l.rows = append(l.rows, slices.Clone(a.Cell[i*a.Cols:(i+1)*a.Cols]))
	}
	return l
}

func newTable(m, rows, cols int) table {
	a := table{m: m, cols: cols}
	for range rows {
		a.rows = append(a.rows, make([]int, cols))
	}
	return a
}

// mul returns the product of two elements.
func mul(m, a, b int) int {
	p, e := field.Mul(m, a, b)
	if e != api.OK {
		panic("an argument of a product")
	}
	return p
}

// times returns the product of two tables, element by element.
func (a table) times(b table) table {
	p := newTable(a.m, len(a.rows), b.cols)
	for i := range a.rows {
		for j := range b.cols {
			for k := range a.cols {
				p.rows[i][j] ^= mul(a.m, a.rows[i][k], b.rows[k][j])
			}
		}
	}
	return p
}

func (a table) transposed() table {
	p := newTable(a.m, a.cols, len(a.rows))
	for i := range a.rows {
		for j := range a.cols {
			p.rows[j][i] = a.rows[i][j]
		}
	}
	return p
}

// minor returns the determinant of the rows and columns with these indices, expanded by the first row. There are no signs,
// because every element is its own negative.
func (a table) minor(rows, cols []int) int {
	if len(rows) == 0 {
		return 1
	}
	sum := 0
	for k, col := range cols {
		rest := slices.Delete(slices.Clone(cols), k, k+1)
		sum ^= mul(a.m, a.rows[rows[0]][col], a.minor(rows[1:], rest))
	}
	return sum
}

// subsets returns the subsets of 0 to n-1 with size elements.
func subsets(n, size int) [][]int {
	var l [][]int
	for set := range 1 << n {
		var s []int
		for i := range n {
			if set>>i&1 == 1 {
				s = append(s, i)
			}
		}
		if len(s) == size {
			l = append(l, s)
		}
	}
	return l
}

// rank returns the size of the greatest minor that is not 0.
func (a table) rank() int {
	for size := min(len(a.rows), a.cols); size > 0; size-- {
		for _, rows := range subsets(len(a.rows), size) {
			for _, cols := range subsets(a.cols, size) {
				if a.minor(rows, cols) != 0 {
					return size
				}
			}
		}
	}
	return 0
}

// independent returns the rows that increase the rank.
func (a table) independent() []int {
	var l []int
	for i := range a.rows {
		if a.first(i+1).rank() > a.first(i).rank() {
			l = append(l, i)
		}
	}
	return l
}

// first returns the first n rows.
func (a table) first(n int) table { return table{a.m, a.cols, a.rows[:n]} }

// beside returns a table with the columns of both.
func (a table) beside(b table) table {
	l := newTable(a.m, len(a.rows), 0)
	l.cols = a.cols + b.cols
	for i := range l.rows {
		l.rows[i] = slices.Concat(a.rows[i], b.rows[i])
	}
	return l
}

// random returns a table, whose elements often are 0 or 1.
func random(r *rand.Rand, m, rows, cols int) table {
	a := newTable(m, rows, cols)
	values := []int{1, 2, 4, 1 << m}[r.Intn(4)]
	for i := range a.rows {
		for j := range a.rows[i] {
			a.rows[i][j] = r.Intn(values)
		}
	}
	return a
}

// invertible returns the product of two triangular tables without a 0 on the diagonal, with its rows shuffled.
func invertible(r *rand.Rand, m, n int) table {
	lower, upper := random(r, m, n, n), random(r, m, n, n)
	for i := range n {
		for j := range n {
			switch {
			case i < j:
				lower.rows[i][j] = 0
			case i > j:
				upper.rows[i][j] = 0
			default:
				lower.rows[i][i], upper.rows[i][i] = 1+r.Intn(1<<m-1), 1+r.Intn(1<<m-1)
			}
		}
	}
	a := lower.times(upper)
	r.Shuffle(n, func(i, j int) { a.rows[i], a.rows[j] = a.rows[j], a.rows[i] })
	return a
}

// withIndependent returns a table whose independent rows are these: each other row is a sum of multiples of the ones before it.
func withIndependent(r *rand.Rand, m, rows, cols int, independent []int) table {
	all := invertible(r, m, cols)
	a := newTable(m, rows, cols)
	used := 0
	for i := range a.rows {
		if slices.Contains(independent, i) {
			a.rows[i] = slices.Clone(all.rows[used])
			used++
			continue
		}
		if r.Intn(4) > 0 {
			a.rows[i] = random(r, m, 1, used).times(all.first(used)).rows[0]
		}
	}
	return a
}

// some returns n of the numbers 0 to limit-1, in increasing order.
func some(r *rand.Rand, n, limit int) []int {
	l := r.Perm(limit)[:n]
	slices.Sort(l)
	return l
}

// known returns a random table with its independent rows.
func known(r *rand.Rand, m int) (table, []int) {
	rows, cols := r.Intn(api.MaxWidth+1), r.Intn(api.MaxWidth+1)
	l := some(r, r.Intn(min(rows, cols)+1), rows)
	return withIndependent(r, m, rows, cols, l), l
}

// invalid returns matrices that are not valid, each for one reason.
func invalid() []api.Matrix {
	l := []api.Matrix{
		{},
		{Field: 8, Rows: -1, Cols: 0},
		{Field: 8, Rows: 0, Cols: -1},
		{Field: 8, Rows: -1, Cols: -1, Cell: []int{1}},
		{Field: 8, Rows: -2, Cols: -2, Cell: make([]int, 4)},
		{Field: 8, Rows: 33, Cols: 0},
		{Field: 8, Rows: 0, Cols: 33},
		{Field: 8, Rows: 33, Cols: 33, Cell: make([]int, 33*33)},
		{Field: 8, Rows: 33, Cols: 1, Cell: make([]int, 33)},
		{Field: 16, Rows: 1, Cols: 33, Cell: make([]int, 33)},
		{Field: 8, Rows: 1 << 32, Cols: 1 << 32},
		{Field: 8, Rows: 1 << 32, Cols: 1<<32 + 1},
		{Field: 8, Rows: math.MaxInt, Cols: math.MaxInt, Cell: []int{1}},
		{Field: 8, Rows: math.MinInt, Cols: 2},
		{Field: 8, Rows: 1, Cols: 1},
		{Field: 8, Rows: 0, Cols: 0, Cell: []int{0}},
		{Field: 8, Rows: 0, Cols: 3, Cell: []int{0, 0, 0}},
		{Field: 8, Rows: 2, Cols: 2, Cell: []int{1, 0, 0}},
		{Field: 8, Rows: 2, Cols: 2, Cell: []int{1, 0, 0, 1, 0}},
	}
	for _, m := range []int{0, 1, 2, 4, 7, 9, 12, 15, 17, 32, 64, -8, -16, 1<<32 + 8, math.MinInt + 8, math.MaxInt, math.MinInt} {
		for n := range 3 {
			l = append(l, api.Matrix{Field: m, Rows: n, Cols: n, Cell: make([]int, n*n)})
		}
	}
	for _, m := range sizes {
		for _, x := range []int{-1, 1 << m, 1<<m + 1, 1 << 32, math.MaxInt, math.MinInt} {
			for i := range 4 {
				a := api.Matrix{Field: m, Rows: 2, Cols: 2, Cell: []int{1, 0, 0, 1}}
				a.Cell[i] = x
				l = append(l, a)
			}
		}
	}
	return l
}

// valid returns matrices, with the smallest and greatest sizes and elements among them.
func valid(r *rand.Rand) []api.Matrix {
	var l []api.Matrix
	for _, m := range sizes {
		for _, rows := range []int{0, 1, 2, 31, 32} {
			for _, cols := range []int{0, 1, 2, 31, 32} {
				l = append(l, random(r, m, rows, cols).matrix())
				a := random(r, m, rows, cols).matrix()
				for i := range a.Cell {
					a.Cell[i] = 1<<m - 1
				}
				l = append(l, a)
			}
		}
		l = append(l, api.Matrix{Field: m}, api.Matrix{Field: m, Cell: []int{}}, api.Matrix{Field: m, Rows: 7, Cell: []int{}})
	}
	return l
}

func equal(a, b api.Matrix) bool {
	return a.Field == b.Field && a.Rows == b.Rows && a.Cols == b.Cols && slices.Equal(a.Cell, b.Cell)
}

// wanted checks a result that is a matrix.
func wanted(t *testing.T, what string, got api.Matrix, e api.Errno, want api.Matrix) {
	t.Helper()
	if e != api.OK || !equal(got, want) {
		t.Fatalf("%s = %v, %d, want %v", what, got, e, want)
	}
}

// refused checks a result that is an error.
func refused(t *testing.T, what string, got api.Matrix, e, want api.Errno) {
	t.Helper()
	if e != want || !equal(got, api.Matrix{}) || len(got.Cell) != 0 {
		t.Fatalf("%s = %v, %d, want the error %d", what, got, e, want)
	}
}

// of returns a matrix over the field with 2^8 elements.
func of(rows, cols int, cell ...int) api.Matrix {
	return api.Matrix{Field: 8, Rows: rows, Cols: cols, Cell: cell}
}

func TestExamples(t *testing.T) {
	if got := matrix.Rank(of(2, 2, 1, 2, 2, 4)); got != 1 {
		t.Errorf("P6.3: Rank = %d", got)
	}
	if got := matrix.Independent(of(4, 2, 0, 0, 1, 1, 2, 2, 0, 3)); !slices.Equal(got, []int{1, 3}) {
		t.Errorf("P6.3: Independent = %v", got)
	}
	got, e := matrix.Mul(of(2, 2, 1, 2, 3, 4), of(2, 1, 5, 6))
	wanted(t, "P6.2: Mul", got, e, of(2, 1, 9, 23))
	got, e = matrix.Inverse(of(2, 2, 1, 1, 1, 1))
	refused(t, "P6.4: Inverse", got, e, api.ErrSingular)
	got, e = matrix.Inverse(of(2, 2, 1, 1, 0, 1))
	wanted(t, "P6.4: Inverse", got, e, of(2, 2, 1, 1, 0, 1))
	got, e = matrix.Solve(of(1, 2, 1, 1), of(1, 1, 7))
	wanted(t, "P6.5: Solve", got, e, of(2, 1, 7, 0))
	got, e = matrix.Solve(of(2, 1, 1, 1), of(2, 1, 1, 2))
	refused(t, "P6.5: Solve", got, e, api.ErrNone)
}

func TestValid(t *testing.T) {
	for i, a := range valid(rand.New(rand.NewSource(1))) {
		if !matrix.Valid(a) {
			t.Errorf("P6.1: Valid is false for %d rows and %d columns, the field 2^%d (%d)", a.Rows, a.Cols, a.Field, i)
		}
	}
	for i, a := range invalid() {
		if matrix.Valid(a) {
			t.Errorf("P6.1: Valid is true for %d rows and %d columns, the field 2^%d (%d)", a.Rows, a.Cols, a.Field, i)
		}
	}
}

func TestIdentity(t *testing.T) {
	for _, m := range sizes {
		for n := range api.MaxWidth + 1 {
			want := newTable(m, n, n)
			for i := range n {
				want.rows[i][i] = 1
			}
			got, e := matrix.Identity(m, n)
			wanted(t, "P6.1: Identity", got, e, want.matrix())
		}
		for _, n := range []int{-1, -2, 33, 64, 1 << 32, math.MaxInt, math.MinInt} {
			got, e := matrix.Identity(m, n)
			refused(t, "P6.1: Identity", got, e, api.ErrArg)
		}
	}
	for _, m := range []int{0, 7, 9, 15, 17, -8, 1<<32 + 8, math.MaxInt, math.MinInt} {
		for _, n := range []int{0, 1, 32, 33, -1} {
			got, e := matrix.Identity(m, n)
			refused(t, "P6.1: Identity", got, e, api.ErrArg)
		}
	}
}

func TestAt(t *testing.T) {
	r := rand.New(rand.NewSource(2))
	outside := []int{-1, 32, 33, 1 << 32, math.MaxInt, math.MinInt}
	for _, m := range sizes {
		for range 20 {
			a := random(r, m, r.Intn(api.MaxWidth+1), r.Intn(api.MaxWidth+1))
			for i := -2; i < api.MaxWidth+2; i++ {
				for j := -2; j < api.MaxWidth+2; j++ {
					want := 0
					if i >= 0 && i < len(a.rows) && j >= 0 && j < a.cols {
						want = a.rows[i][j]
					}
					if got := matrix.At(a.matrix(), i, j); got != want {
						t.Fatalf("P6.1: At(%v, %d, %d) = %d, want %d", a, i, j, got, want)
					}
				}
			}
		}
	}
	full := of(2, 3, 1, 2, 3, 4, 5, 6)
	for _, n := range outside {
		for i := -1; i < 4; i++ {
			if matrix.At(full, n, i) != 0 || matrix.At(full, i, n) != 0 {
				t.Errorf("P6.1: At outside, at %d, %d", n, i)
			}
		}
	}
	for _, a := range invalid() {
		for _, n := range append(outside, 0, 1) {
			if matrix.At(a, n, 0) != 0 || matrix.At(a, 0, n) != 0 || matrix.At(a, n, 1) != 0 {
				t.Errorf("P6.1: At of a matrix that is not valid")
			}
		}
	}
}

func TestMul(t *testing.T) {
	r := rand.New(rand.NewSource(3))
	for _, m := range sizes {
		for range 300 {
			a := random(r, m, r.Intn(api.MaxWidth+1), r.Intn(api.MaxWidth+1))
			b := random(r, m, a.cols, r.Intn(api.MaxWidth+1))
			got, e := matrix.Mul(a.matrix(), b.matrix())
			wanted(t, "P6.2: Mul", got, e, a.times(b).matrix())
			wrong := random(r, m, (a.cols+1+r.Intn(api.MaxWidth))%(api.MaxWidth+1), b.cols)
			got, e = matrix.Mul(a.matrix(), wrong.matrix())
			refused(t, "P6.2: Mul of other sizes", got, e, api.ErrArg)
		}
	}
	got, e := matrix.Mul(of(2, 0), of(0, 3))
	wanted(t, "P6.2: Mul without columns", got, e, of(2, 3, 0, 0, 0, 0, 0, 0))
}

func TestTranspose(t *testing.T) {
	r := rand.New(rand.NewSource(4))
	for _, m := range sizes {
		for range 200 {
			a := random(r, m, r.Intn(api.MaxWidth+1), r.Intn(api.MaxWidth+1))
			got, e := matrix.Transpose(a.matrix())
			wanted(t, "P6.2: Transpose", got, e, a.transposed().matrix())
		}
	}
}

func TestPick(t *testing.T) {
	r := rand.New(rand.NewSource(5))
	for _, m := range sizes {
		for range 300 {
			a := random(r, m, 1+r.Intn(api.MaxWidth), r.Intn(api.MaxWidth+1))
			rows := make([]int, r.Intn(api.MaxWidth+1))
			want := table{m: m, cols: a.cols}
			for i := range rows {
				rows[i] = r.Intn(len(a.rows))
				want.rows = append(want.rows, a.rows[rows[i]])
			}
			got, e := matrix.Pick(a.matrix(), rows)
			wanted(t, "P6.2: Pick", got, e, want.matrix())
			if len(rows) == 0 {
				continue
			}
			for _, n := range []int{-1, len(a.rows), len(a.rows) + 1, math.MaxInt, math.MinInt} {
				wrong := slices.Clone(rows)
				wrong[r.Intn(len(rows))] = n
				got, e = matrix.Pick(a.matrix(), wrong)
				refused(t, "P6.2: Pick of no row", got, e, api.ErrArg)
			}
		}
	}
	for _, rows := range [][]int{nil, {}} {
		got, e := matrix.Pick(of(0, 3), rows)
		wanted(t, "P6.2: Pick of nothing", got, e, of(0, 3))
	}
	got, e := matrix.Pick(of(2, 0), []int{1, 1, 0})
	wanted(t, "P6.2: Pick without columns", got, e, of(3, 0))
	got, e = matrix.Pick(of(0, 3), []int{0})
	refused(t, "P6.2: Pick of no row", got, e, api.ErrArg)
	got, e = matrix.Pick(of(1, 1, 5), make([]int, 32))
	wanted(t, "P6.2: Pick of 32 rows", got, e, of(32, 1, slices.Repeat([]int{5}, 32)...))
	for _, n := range []int{33, 34, 1000} {
		got, e = matrix.Pick(of(1, 1, 5), make([]int, n))
		refused(t, "P6.2: Pick of too many rows", got, e, api.ErrArg)
		got, e = matrix.Pick(of(1, 0), make([]int, n))
		refused(t, "P6.2: Pick of too many rows", got, e, api.ErrArg)
	}
}

// ranked checks Rank and Independent.
func ranked(t *testing.T, a table, independent []int) {
	t.Helper()
	if got := matrix.Rank(a.matrix()); got != len(independent) {
		t.Fatalf("P6.3: Rank(%v) = %d, want %d", a, got, len(independent))
	}
	if got := matrix.Independent(a.matrix()); !slices.Equal(got, independent) {
		t.Fatalf("P6.3: Independent(%v) = %v, want %v", a, got, independent)
	}
}

func TestRankByMinors(t *testing.T) {
	r := rand.New(rand.NewSource(6))
	for _, m := range sizes {
		for range 1500 {
			a := random(r, m, r.Intn(5), r.Intn(5))
			independent := a.independent()
			ranked(t, a, independent)
			if len(independent) != a.rank() {
				t.Fatalf("P6.3: the rank of %v is not the number of its independent rows", a)
			}
		}
	}
	// All matrices with two rows and two columns and some elements.
	elements := []int{0, 1, 2, 3, 255}
	for i := range 625 {
		a := table{8, 2, [][]int{{elements[i%5], elements[i/5%5]}, {elements[i/25%5], elements[i/125]}}}
		ranked(t, a, a.independent())
	}
}

func TestKnownRank(t *testing.T) {
	r := rand.New(rand.NewSource(7))
	for _, m := range sizes {
		for range 300 {
			a, independent := known(r, m)
			ranked(t, a, independent)
		}
		for n := range api.MaxWidth + 1 {
			ranked(t, newTable(m, n, api.MaxWidth-n), nil)
			ranked(t, newTable(m, api.MaxWidth, n), nil)
			ranked(t, invertible(r, m, n), some(r, n, n))
		}
	}
}

func TestInverse(t *testing.T) {
	r := rand.New(rand.NewSource(8))
	for _, m := range sizes {
		for n := range api.MaxWidth + 1 {
			for range 5 {
				a := invertible(r, m, n)
				got, e := matrix.Inverse(a.matrix())
				one, _ := matrix.Identity(m, n)
				if e != api.OK || !matrix.Valid(got) || got.Field != m || got.Rows != n || got.Cols != n {
					t.Fatalf("P6.4: Inverse(%v) = %v, %d", a, got, e)
				}
				// An inverse from one side is one from both sides, and the only one.
				wanted(t, "P6.4: the product with the inverse", a.times(tableOf(got)).matrix(), api.OK, one)
				wanted(t, "P6.8: the product of the inverse", tableOf(got).times(a).matrix(), api.OK, one)
				if n == 0 {
					continue
				}
				less := withIndependent(r, m, n, n, some(r, r.Intn(n), n))
				got, e = matrix.Inverse(less.matrix())
				refused(t, "P6.4: Inverse", got, e, api.ErrSingular)
				got, e = matrix.Inverse(less.transposed().matrix())
				refused(t, "P6.4: Inverse", got, e, api.ErrSingular)
			}
		}
		got, e := matrix.Inverse(api.Matrix{Field: m})
		wanted(t, "P6.4: Inverse without rows", got, e, api.Matrix{Field: m})
		for range 100 {
			n := r.Intn(api.MaxWidth + 1)
			a := random(r, m, n, (n+1+r.Intn(api.MaxWidth))%(api.MaxWidth+1))
			got, e = matrix.Inverse(a.matrix())
			refused(t, "P6.4: Inverse of a matrix that is not square", got, e, api.ErrArg)
		}
	}
}

func TestInverseByMinors(t *testing.T) {
	r := rand.New(rand.NewSource(9))
	for _, m := range sizes {
		for range 1000 {
			n := 1 + r.Intn(4)
			a := random(r, m, n, n)
			all := some(r, n, n)
			determinant := a.minor(all, all)
			got, e := matrix.Inverse(a.matrix())
			if determinant == 0 {
				refused(t, "P6.4: Inverse", got, e, api.ErrSingular)
				continue
			}
			inverse, _ := field.Inv(m, determinant)
			want := newTable(m, n, n)
			for i := range n {
				for j := range n {
					rows, cols := slices.Delete(slices.Clone(all), j, j+1), slices.Delete(slices.Clone(all), i, i+1)
					want.rows[i][j] = mul(m, inverse, a.minor(rows, cols))
				}
			}
			wanted(t, "P6.4: Inverse", got, e, want.matrix())
		}
	}
}

// TestSolve tests matrices whose pivot columns are known, so that the solution is, and right sides that have none.
func TestSolve(t *testing.T) {
	r := rand.New(rand.NewSource(10))
	for _, m := range sizes {
		for range 400 {
			transposed, pivots := known(r, m)
			a := transposed.transposed()
			x := random(r, m, a.cols, r.Intn(api.MaxWidth+1))
			for i := range x.rows {
				if !slices.Contains(pivots, i) {
					clear(x.rows[i])
				}
			}
			b := a.times(x)
			got, e := matrix.Solve(a.matrix(), b.matrix())
			wanted(t, "P6.5: Solve", got, e, x.matrix())

			// A row that is a sum of multiples of earlier rows of a has to be so in b, too.
			independent := matrix.Independent(a.matrix())
			for i := range a.rows {
				if b.cols == 0 || slices.Contains(independent, i) {
					continue
				}
				wrong, change := &b.rows[i][r.Intn(b.cols)], 1+r.Intn(1<<m-1)
				*wrong ^= change
				got, e = matrix.Solve(a.matrix(), b.matrix())
				refused(t, "P6.5: Solve", got, e, api.ErrNone)
				*wrong ^= change
			}
		}
	}
}

// solveByMinors checks Solve by the ranks of small tables.
func solveByMinors(t *testing.T, a, b table) {
	t.Helper()
	got, e := matrix.Solve(a.matrix(), b.matrix())
	if a.beside(b).rank() > a.rank() {
		refused(t, "P6.5: Solve", got, e, api.ErrNone)
		return
	}
	if e != api.OK || !matrix.Valid(got) || got.Rows != a.cols || got.Cols != b.cols {
		t.Fatalf("P6.5: Solve(%v, %v) = %v, %d", a, b, got, e)
	}
	wanted(t, "P6.5: Mul of a and the solution", a.times(tableOf(got)).matrix(), api.OK, b.matrix())
	pivots := a.transposed().independent()
	for i, row := range tableOf(got).rows {
		if !slices.Contains(pivots, i) && slices.Max(append(row, 0)) > 0 {
			t.Fatalf("P6.5: Solve(%v, %v) = %v, row %d is not of a pivot column", a, b, got, i)
		}
	}
}

func TestSolveByMinors(t *testing.T) {
	r := rand.New(rand.NewSource(11))
	for _, m := range sizes {
		for range 1000 {
			a := random(r, m, r.Intn(4), r.Intn(4))
			b := random(r, m, len(a.rows), r.Intn(3))
			if r.Intn(2) == 0 {
				b = a.times(random(r, m, a.cols, b.cols))
			}
			solveByMinors(t, a, b)
		}
	}
}

func TestSolveSizes(t *testing.T) {
	got, e := matrix.Solve(of(0, 3), of(0, 2))
	wanted(t, "P6.5: Solve without rows", got, e, of(3, 2, 0, 0, 0, 0, 0, 0))
	got, e = matrix.Solve(of(2, 0), of(2, 3, 0, 0, 0, 0, 0, 0))
	wanted(t, "P6.5: Solve without columns", got, e, of(0, 3))
	got, e = matrix.Solve(of(2, 0), of(2, 3, 0, 0, 0, 0, 0, 1))
	refused(t, "P6.5: Solve without columns", got, e, api.ErrNone)
	got, e = matrix.Solve(of(2, 2, 1, 1, 1, 1), of(2, 0))
	wanted(t, "P6.5: Solve for no column", got, e, of(2, 0))
	got, e = matrix.Solve(of(2, 3, 0, 0, 2, 0, 0, 4), of(2, 1, 6, 12))
	wanted(t, "P6.5: Solve with columns of zeros", got, e, of(3, 1, 0, 0, 3))
	r := rand.New(rand.NewSource(12))
	for range 200 {
		a := random(r, 8, r.Intn(api.MaxWidth+1), r.Intn(api.MaxWidth+1))
		b := random(r, 8, (len(a.rows)+1+r.Intn(api.MaxWidth))%(api.MaxWidth+1), r.Intn(api.MaxWidth+1))
		got, e = matrix.Solve(a.matrix(), b.matrix())
		refused(t, "P6.5: Solve with other sizes", got, e, api.ErrArg)
	}
}

func TestInvalid(t *testing.T) {
	for _, a := range invalid() {
		for _, b := range append(invalid(), of(0, 0), of(1, 1, 1), of(2, 2, 1, 0, 0, 1)) {
			for _, f := range []func(a, b api.Matrix) (api.Matrix, api.Errno){matrix.Mul, matrix.Solve} {
				got, e := f(a, b)
				refused(t, "P6.2, P6.5: a first argument that is not valid", got, e, api.ErrArg)
				got, e = f(b, a)
				refused(t, "P6.2, P6.5: a second argument that is not valid", got, e, api.ErrArg)
			}
		}
		got, e := matrix.Transpose(a)
		refused(t, "P6.2: Transpose", got, e, api.ErrArg)
		got, e = matrix.Inverse(a)
		refused(t, "P6.4: Inverse", got, e, api.ErrArg)
		for _, rows := range [][]int{nil, {0}, {-1}, make([]int, 33)} {
			got, e = matrix.Pick(a, rows)
			refused(t, "P6.2: Pick", got, e, api.ErrArg)
		}
		if rank := matrix.Rank(a); rank != -1 {
			t.Errorf("P6.3: Rank = %d for a matrix that is not valid", rank)
		}
		if l := matrix.Independent(a); len(l) != 0 {
			t.Errorf("P6.3: Independent = %v for a matrix that is not valid", l)
		}
	}
}

func TestOtherFields(t *testing.T) {
	r := rand.New(rand.NewSource(13))
	for n := range api.MaxWidth + 1 {
		a, b := random(r, 8, n, n).matrix(), random(r, 8, n, n).matrix()
		b.Field = 16
		for _, f := range []func(a, b api.Matrix) (api.Matrix, api.Errno){matrix.Mul, matrix.Solve} {
			got, e := f(a, b)
			refused(t, "P6.2, P6.5: the fields 2^8 and 2^16", got, e, api.ErrArg)
			got, e = f(b, a)
			refused(t, "P6.2, P6.5: the fields 2^16 and 2^8", got, e, api.ErrArg)
		}
	}
}

// TestMemory tests that calls do not change their arguments, and that their results share no memory with them.
func TestMemory(t *testing.T) {
	r := rand.New(rand.NewSource(14))
	for _, m := range sizes {
		for n := range api.MaxWidth + 1 {
			a, b := invertible(r, m, n).matrix(), random(r, m, n, n).matrix()
			one, _ := matrix.Identity(m, n)
			before := slices.Concat(a.Cell, b.Cell, one.Cell)
			unchanged := func(call int) {
				if !slices.Equal(slices.Concat(a.Cell, b.Cell, one.Cell), before) {
					t.Fatalf("P6.6: call %d changed an argument, or its result shares memory with one", call)
				}
			}
			for i, f := range []func() (api.Matrix, api.Errno){
				func() (api.Matrix, api.Errno) { return matrix.Mul(a, b) },
				func() (api.Matrix, api.Errno) { return matrix.Mul(one, a) },
				func() (api.Matrix, api.Errno) { return matrix.Transpose(a) },
				func() (api.Matrix, api.Errno) { return matrix.Pick(a, some(r, n, n)) },
				func() (api.Matrix, api.Errno) { return matrix.Inverse(a) },
				func() (api.Matrix, api.Errno) { return matrix.Inverse(one) },
				func() (api.Matrix, api.Errno) { return matrix.Solve(a, b) },
				func() (api.Matrix, api.Errno) { return matrix.Solve(b, b) },
				func() (api.Matrix, api.Errno) { return matrix.Solve(one, a) },
				func() (api.Matrix, api.Errno) { return matrix.Identity(m, n) },
			} {
				got, e := f()
				if e != api.OK {
					t.Fatalf("P6.6: call %d returned the error %d", i, e)
				}
				unchanged(i)
				for j := range got.Cell {
					got.Cell[j] ^= 1
				}
				unchanged(i)
			}
			matrix.Rank(b)
			unchanged(10)
			matrix.Independent(b)
			unchanged(11)
		}
	}
	rows := []int{1, 0}
	if _, e := matrix.Pick(of(2, 1, 3, 4), rows); e != api.OK || !slices.Equal(rows, []int{1, 0}) {
		t.Error("P6.6: Pick changed its rows")
	}
}

// must returns the result of a call that has one.
func must(t *testing.T) func(a api.Matrix, e api.Errno) api.Matrix {
	return func(a api.Matrix, e api.Errno) api.Matrix {
		t.Helper()
		if e != api.OK {
			t.Fatalf("P6.7, P6.8: the error %d", e)
		}
		return a
	}
}

func TestProducts(t *testing.T) {
	r := rand.New(rand.NewSource(15))
	ok := must(t)
	for _, m := range sizes {
		for range 150 {
			one, _ := known(r, m)
			a, b := one.matrix(), random(r, m, one.cols, r.Intn(api.MaxWidth+1)).matrix()
			c := random(r, m, b.Cols, r.Intn(api.MaxWidth+1)).matrix()
			ab := ok(matrix.Mul(a, b))
			if !equal(ok(matrix.Mul(ab, c)), ok(matrix.Mul(a, ok(matrix.Mul(b, c))))) {
				t.Fatalf("P6.7: Mul of %v, %v and %v is not associative", a, b, c)
			}
			if !equal(ok(matrix.Transpose(ab)), ok(matrix.Mul(ok(matrix.Transpose(b)), ok(matrix.Transpose(a))))) {
				t.Fatalf("P6.7: the transposed product of %v and %v", a, b)
			}
			if matrix.Rank(a) != matrix.Rank(ok(matrix.Transpose(a))) {
				t.Fatalf("P6.7: the rank of the transpose of %v", a)
			}
			if matrix.Rank(ab) > min(matrix.Rank(a), matrix.Rank(b)) {
				t.Fatalf("P6.7: the rank of the product of %v and %v", a, b)
			}
		}
	}
}

func TestInverses(t *testing.T) {
	r := rand.New(rand.NewSource(16))
	ok := must(t)
	for _, m := range sizes {
		for range 300 {
			n := r.Intn(8)
			a := random(r, m, n, n).matrix()
			inverse, e := matrix.Inverse(a)
			if (e == api.OK) != (matrix.Rank(a) == n) {
				t.Fatalf("P6.8: the rank of %v is %d, and Inverse returns %d", a, matrix.Rank(a), e)
			}
			if e != api.OK {
				continue
			}
			one := ok(matrix.Identity(m, n))
			if !equal(ok(matrix.Mul(a, inverse)), one) || !equal(ok(matrix.Mul(inverse, a)), one) {
				t.Fatalf("P6.8: Inverse(%v) = %v", a, inverse)
			}
			if !equal(ok(matrix.Inverse(inverse)), a) {
				t.Fatalf("P6.8: the inverse of the inverse of %v", a)
			}
		}
	}
}

// fuzzed returns a valid matrix with these bytes as elements, repeated where there are too few.
func fuzzed(m int, rows, cols uint8, cell []byte) table {
	a := newTable(m, int(rows)%4, int(cols)%4)
	for i := range a.rows {
		for j := range a.rows[i] {
			if len(cell) > 0 {
				a.rows[i][j] = int(cell[(i*a.cols+j)%len(cell)]) << (m - 8) >> (i % 2 * (m - 8))
			}
		}
	}
	return a
}

func FuzzSolve(f *testing.F) {
	f.Add(false, uint8(1), uint8(2), uint8(1), []byte{1, 1}, []byte{7})
	f.Add(false, uint8(2), uint8(1), uint8(1), []byte{1, 1}, []byte{1, 2})
	f.Add(true, uint8(3), uint8(3), uint8(3), []byte{1, 2, 3, 2, 4, 6, 5, 5, 5}, []byte{0, 9, 9})
	f.Add(true, uint8(0), uint8(3), uint8(2), []byte{}, []byte{})
	f.Fuzz(func(t *testing.T, large bool, rows, cols, width uint8, x, y []byte) {
		m := 8
		if large {
			m = 16
		}
		a, b := fuzzed(m, rows, cols, x), fuzzed(m, rows, width, y)
		ranked(t, a, a.independent())
		solveByMinors(t, a, b)
	})
}
