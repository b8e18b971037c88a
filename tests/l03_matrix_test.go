package tests

import (
	"fmt"
	"math"
	"math/rand"
	"slices"
	"testing"

	"loop.example/g00020/impl"
)

// table is a matrix as a test writes it.
type table [][]int64

func (m table) matrix() impl.Matrix {
	return impl.Matrix{Rows: int64(len(m)), Cols: int64(len(m[0])), Cells: slices.Concat(m...)}
}

func (m table) turned() table {
	out := make(table, len(m[0]))
	for j := range out {
		for i := range m {
			out[j] = append(out[j], m[i][j])
		}
	}
	return out
}

// without leaves out a row and a column.
func (m table) without(row, col int) table {
	var out table
	for i := range m {
		if i != row {
			out = append(out, slices.Delete(slices.Clone(m[i]), col, col+1))
		}
	}
	return out
}

// matrices does over again what the program does, in the plainest ways, on products that promise 2 is tested by.
type matrices struct {
	products [256][256]byte
	chance   *rand.Rand
}

func newMatrices() *matrices {
	return &matrices{products: allProducts(), chance: rand.New(rand.NewSource(3))}
}

func (p *matrices) product(a, b table) table {
	out := make(table, len(a))
	for i := range a {
		for j := range b[0] {
			sum := byte(0)
			for k := range b {
				sum ^= p.products[a[i][k]][b[k][j]]
			}
			out[i] = append(out[i], int64(sum))
		}
	}
	return out
}

// determinant goes down the first row: it is 0 exactly where there is no inverse.
func (p *matrices) determinant(m table) int64 {
	if len(m) == 1 {
		return m[0][0]
	}
	sum := int64(0)
	for j, cell := range m[0] {
		if cell != 0 {
			sum ^= int64(p.products[cell][p.determinant(m.without(0, j))])
		}
	}
	return sum
}

// rank is the side of the greatest square piece with a determinant that is not 0.
func (p *matrices) rank(m table) int64 {
	for side := min(len(m), len(m[0])); side > 0; side-- {
		for _, rows := range choices(len(m), side) {
			for _, cols := range choices(len(m[0]), side) {
				if p.determinant(piece(m, rows, cols)) != 0 {
					return int64(side)
				}
			}
		}
	}
	return 0
}

// choices: all ways to take some of the numbers below count, rising.
func choices(count, take int) [][]int {
	if take == 0 {
		return [][]int{nil}
	}
	var out [][]int
	for last := take - 1; last < count; last++ {
		for _, before := range choices(last, take-1) {
			out = append(out, append(slices.Clone(before), last))
		}
	}
	return out
}

func piece(m table, rows, cols []int) table {
	out := make(table, len(rows))
	for i, r := range rows {
		for _, c := range cols {
			out[i] = append(out[i], m[r][c])
		}
	}
	return out
}

// drawn gives any cells; sparse ones are mostly 0, so that pivots are lacking here and there.
func (p *matrices) drawn(rows, cols int, sparse bool) table {
	out := make(table, rows)
	for i := range out {
		for range cols {
			cell := p.chance.Int63n(256)
			if sparse && p.chance.Intn(3) > 0 {
				cell = 0
			}
			out[i] = append(out[i], cell)
		}
	}
	return out
}

// full gives a matrix of full rank by the way it is made: triangles with no 0 on the edge that they share.
func (p *matrices) full(side int) table {
	low, high := p.drawn(side, side, false), p.drawn(side, side, false)
	for i := range side {
		low[i][i] = 1 + p.chance.Int63n(255)
		high[i][i] = 1 + p.chance.Int63n(255)
		for j := range i {
			low[j][i] = 0
			high[i][j] = 0
		}
	}
	out := p.product(low, high)
	p.chance.Shuffle(side, func(i, j int) { out[i], out[j] = out[j], out[i] })
	return out
}

// ofRank gives one of that rank by the way it is made, in which no row and no column needs to be 0.
func (p *matrices) ofRank(rows, cols, rank int) table {
	left, right := p.full(rows), p.full(cols)
	middle := make(table, rows)
	for i := range middle {
		middle[i] = make([]int64, cols)
		if i < rank {
			middle[i][i] = 1
		}
	}
	return p.product(p.product(left, middle), right)
}

func unitTable(side int) table {
	out := make(table, side)
	for i := range out {
		out[i] = make([]int64, side)
		out[i][i] = 1
	}
	return out
}

func sameMatrix(a, b impl.Matrix) bool {
	return a.Rows == b.Rows && a.Cols == b.Cols && slices.Equal(a.Cells, b.Cells)
}

// is tells whether the answer is just this matrix.
func is(got impl.MatrixResult, want impl.Matrix) bool {
	return got.Code == impl.OK && sameMatrix(got.Matrix, want)
}

// isOnly tells whether the answer is just this code, and nothing beside it.
func isOnly(got impl.MatrixResult, code int64) bool {
	return got.Code == code && sameMatrix(got.Matrix, impl.Matrix{}) && len(got.Matrix.Cells) == 0
}

var sidesToTry = []int{1, 2, 3, 4, 5, 7, 8, 9, 16, 31, 32, 33, 63, 64}

func TestP3ProductsAsKnown(t *testing.T) {
	for _, c := range []struct{ a, b, want table }{
		{table{{7}}, table{{186}}, table{{1}}},
		{table{{0}}, table{{255}}, table{{0}}},
		{table{{255}}, table{{255}}, table{{226}}},
		{table{{1, 2}, {3, 4}}, table{{1}, {1}}, table{{3}, {7}}},
		{table{{5, 250, 17}, {90, 3, 128}}, table{{2, 0, 255, 7}, {99, 1, 0, 4}, {255, 254, 253, 252}},
			table{{247, 95, 178, 83}, {115, 225, 77, 104}}},
	} {
		if got := impl.MatMul(c.a.matrix(), c.b.matrix()); !is(got, c.want.matrix()) {
			t.Errorf("%v times %v: %v", c.a, c.b, got)
		}
	}
}

func TestP3ProductsAreSumsOfProducts(t *testing.T) {
	p := newMatrices()
	for _, rows := range sidesToTry {
		for _, inner := range []int{1, 2, 5, 8, 64} {
			for _, cols := range []int{1, 3, 8, 17, 64} {
				a, b := p.drawn(rows, inner, false), p.drawn(inner, cols, rows%2 == 0)
				if got := impl.MatMul(a.matrix(), b.matrix()); !is(got, p.product(a, b).matrix()) {
					t.Fatalf("the product of %d by %d with %d by %d", rows, inner, inner, cols)
				}
			}
		}
	}
}

func TestP3InversesAsKnown(t *testing.T) {
	for _, c := range []struct{ m, want table }{
		{table{{1}}, table{{1}}},
		{table{{7}}, table{{186}}},
		{table{{255}}, table{{253}}},
		{table{{1, 2}, {3, 4}}, table{{2, 1}, {143, 142}}},
		{table{{0, 1}, {1, 0}}, table{{0, 1}, {1, 0}}},
		{table{{0, 1, 7}, {200, 0, 255}, {83, 140, 0}}, table{{29, 192, 249}, {145, 165, 171}, {48, 233, 235}}},
		{table{{0, 0, 0, 9}, {0, 0, 1, 0}, {255, 128, 0, 0}, {1, 2, 3, 4}},
			table{{109, 151, 182, 134}, {159, 74, 91, 205}, {0, 1, 0, 0}, {157, 0, 0, 0}}},
	} {
		if got := impl.MatInv(c.m.matrix()); !is(got, c.want.matrix()) {
			t.Errorf("the inverse of %v: %v", c.m, got)
		}
	}
}

// checkInverse asks for an inverse on both sides, by the program's products and by the test's own.
func (p *matrices) checkInverse(t *testing.T, m table) {
	t.Helper()
	unit := unitTable(len(m))
	got := impl.MatInv(m.matrix())
	if got.Code != impl.OK || impl.MatrixFault(got.Matrix) != impl.OK || got.Matrix.Rows != int64(len(m)) {
		t.Fatalf("the inverse of %v: %v", m, got)
	}
	if !is(impl.MatMul(m.matrix(), got.Matrix), unit.matrix()) || !is(impl.MatMul(got.Matrix, m.matrix()), unit.matrix()) {
		t.Fatalf("not the inverse of %v: %v", m, got)
	}
	var inverse table
	for row := range slices.Chunk(got.Matrix.Cells, len(m)) {
		inverse = append(inverse, row)
	}
	if !is(got, inverse.matrix()) || !sameMatrix(p.product(m, inverse).matrix(), unit.matrix()) {
		t.Fatalf("not the inverse of %v: %v", m, got)
	}
	if !is(impl.MatInv(got.Matrix), m.matrix()) {
		t.Fatalf("the inverse of the inverse of %v", m)
	}
}

func TestP3InversesOnBothSides(t *testing.T) {
	p := newMatrices()
	for side := 1; side <= impl.MaxSide; side++ {
		m := p.full(side)
		p.checkInverse(t, m)
		p.checkInverse(t, m.turned())
		if got := impl.MatRank(m.matrix()); got != int64(side) {
			t.Errorf("side %d: rank %d", side, got)
		}
	}
}

func TestP3InversesOfUnitsAndTheirLikes(t *testing.T) {
	p := newMatrices()
	for side := 1; side <= impl.MaxSide; side++ {
		unit := unitTable(side)
		if !is(impl.MatInv(unit.matrix()), unit.matrix()) {
			t.Errorf("the inverse of the unit of side %d", side)
		}
		// One cell beside the unit, last and first: what is nearly the unit is not taken for it.
		if side > 1 {
			for _, place := range [][2]int{{0, side - 1}, {side - 1, 0}, {side - 1, side - 2}, {side - 2, side - 1}} {
				m := unitTable(side)
				m[place[0]][place[1]] = 3
				if !is(impl.MatInv(m.matrix()), m.matrix()) {
					t.Errorf("side %d: a 3 at %v is not its own inverse", side, place)
				}
			}
		}
		last := unitTable(side)
		last[side-1][side-1] = 2
		p.checkInverse(t, last)
		last[side-1][side-1] = 0
		if got := impl.MatInv(last.matrix()); !isOnly(got, impl.ErrNone) {
			t.Errorf("side %d: a unit that lacks its last 1: %v", side, got)
		}
		// No 1 is in its place: every row is sought further down.
		p.checkInverse(t, append(unit[1:], unit[0]))
		back := unitTable(side)
		slices.Reverse(back)
		p.checkInverse(t, back)
	}
}

// All matrices of side 2 over some elements, and drawn ones of sides 3 to 6, held against their determinants.
func TestP3AnInverseExactlyIfTheRankIsFull(t *testing.T) {
	p := newMatrices()
	check := func(m table) {
		t.Helper()
		full := impl.MatRank(m.matrix()) == int64(len(m))
		if full != (p.determinant(m) != 0) {
			t.Fatalf("%v has rank %d", m, impl.MatRank(m.matrix()))
		}
		if full {
			p.checkInverse(t, m)
		} else if got := impl.MatInv(m.matrix()); !isOnly(got, impl.ErrNone) {
			t.Fatalf("%v has no full rank, but an inverse: %v", m, got)
		}
	}
	for a := range int64(256) {
		check(table{{a}})
	}
	some := []int64{0, 1, 2, 3, 4, 5, 6, 142, 255}
	for _, a := range some {
		for _, b := range some {
			for _, c := range some {
				for _, d := range some {
					check(table{{a, b}, {c, d}})
				}
			}
		}
	}
	for side := 3; side <= 6; side++ {
		for i := range 300 {
			check(p.drawn(side, side, i%3 > 0))
		}
	}
}

func TestP3NoInverseBelowFullRank(t *testing.T) {
	p := newMatrices()
	for _, side := range sidesToTry {
		for _, rank := range []int{0, 1, side / 2, side - 1} {
			if rank >= side {
				continue
			}
			m := p.ofRank(side, side, rank)
			if got := impl.MatInv(m.matrix()); !isOnly(got, impl.ErrNone) {
				t.Errorf("side %d, rank %d: %v", side, rank, got)
			}
			if got := impl.MatRank(m.matrix()); got != int64(rank) {
				t.Errorf("side %d, rank %d: %d", side, rank, got)
			}
		}
	}
}

func TestP3RanksAsKnown(t *testing.T) {
	for _, c := range []struct {
		m    table
		want int64
	}{
		{table{{0}}, 0},
		{table{{1}}, 1},
		{table{{255}}, 1},
		{table{{0, 0, 0}, {0, 0, 0}}, 0},
		{table{{0, 0, 7}}, 1},
		{table{{0}, {0}, {7}}, 1},
		{table{{1, 2}, {3, 4}}, 2},
		{table{{1, 2}, {2, 4}}, 1},
		{table{{1, 128}, {2, 29}}, 1},
		{table{{1, 2, 3}, {4, 5, 6}, {5, 7, 5}}, 2},
		{table{{1, 2, 3}, {4, 5, 6}, {5, 7, 9}}, 3},
		{table{{0, 0, 1}, {0, 0, 0}, {0, 1, 0}}, 2},
		{table{{9, 9}, {9, 9}, {9, 9}, {0, 9}}, 2},
		{table{{0, 0, 0, 1}, {0, 0, 1, 0}, {0, 0, 1, 1}}, 2},
	} {
		if got := impl.MatRank(c.m.matrix()); got != c.want {
			t.Errorf("the rank of %v is %d, not %d", c.m, got, c.want)
		}
	}
}

func TestP3RanksAreThoseOfTheGreatestPiece(t *testing.T) {
	p := newMatrices()
	for rows := 1; rows <= 4; rows++ {
		for cols := 1; cols <= 4; cols++ {
			for i := range 60 {
				m := p.drawn(rows, cols, i%3 > 0)
				if i%5 == 0 {
					m[p.chance.Intn(rows)] = slices.Clone(m[p.chance.Intn(rows)])
				}
				if got, want := impl.MatRank(m.matrix()), p.rank(m); got != want {
					t.Fatalf("the rank of %v is %d, not %d", m, got, want)
				}
			}
		}
	}
}

func TestP3RanksOfAllSides(t *testing.T) {
	p := newMatrices()
	for _, rows := range sidesToTry {
		for _, cols := range []int{1, 2, 5, 8, 9, 33, 64} {
			for _, rank := range []int{0, 1, min(rows, cols) / 2, min(rows, cols) - 1, min(rows, cols)} {
				m := p.ofRank(rows, cols, rank)
				if got := impl.MatRank(m.matrix()); got != int64(rank) {
					t.Errorf("%d by %d of rank %d: %d", rows, cols, rank, got)
				}
				if got := impl.MatRank(m.turned().matrix()); got != int64(rank) {
					t.Errorf("%d by %d of rank %d, turned: %d", rows, cols, rank, got)
				}
			}
		}
	}
}

func TestP3EmptyRowsPlayNoPart(t *testing.T) {
	p := newMatrices()
	for _, side := range []int{1, 2, 8, 20, 63} {
		m := p.full(side)
		for _, at := range []int{0, side / 2, side} {
			empty := slices.Insert(slices.Clone(m), at, make([]int64, side))
			if got := impl.MatRank(empty.matrix()); got != int64(side) {
				t.Errorf("side %d, an empty row at %d: rank %d", side, at, got)
			}
			if got := impl.MatRank(empty.turned().matrix()); got != int64(side) {
				t.Errorf("side %d, an empty column at %d: rank %d", side, at, got)
			}
		}
	}
}

func TestP3CauchyAsKnown(t *testing.T) {
	for _, c := range []struct{ rows, cols int64 }{{1, 1}, {1, 2}} {
		if got := impl.Cauchy(c.rows, c.cols); got.Code != impl.OK || got.Matrix.Cells[0] != impl.Inv8(c.cols) {
			t.Errorf("Cauchy(%d, %d): %v", c.rows, c.cols, got)
		}
	}
	for _, want := range []table{
		{{1}},
		{{142, 244}},
		{{1}, {142}, {244}},
		{{244, 142, 1}, {71, 167, 122}},
		{{142, 244}, {244, 142}, {71, 167}, {167, 71}, {122, 186}},
		{{167, 71, 186, 122, 1}, {122, 186, 71, 167, 142}, {186, 122, 167, 71, 244}},
	} {
		if got := impl.Cauchy(int64(len(want)), int64(len(want[0]))); !is(got, want.matrix()) {
			t.Errorf("Cauchy(%d, %d): %v", len(want), len(want[0]), got)
		}
	}
	got := impl.Cauchy(64, 64)
	if got.Code != impl.OK || len(got.Matrix.Cells) != 4096 {
		t.Fatal("Cauchy(64, 64)")
	}
	for at, want := range map[int]int64{0: 54, 63: 252, 63 * 64: 252, 63*64 + 63: 54, 10*64 + 20: 55} {
		if got.Matrix.Cells[at] != want {
			t.Errorf("Cauchy(64, 64): %d at %d, not %d", got.Matrix.Cells[at], at, want)
		}
	}
}

func TestP3CauchyCellByCell(t *testing.T) {
	for rows := int64(1); rows <= impl.MaxSide; rows++ {
		for cols := int64(1); cols <= impl.MaxSide; cols++ {
			got := impl.Cauchy(rows, cols)
			if got.Code != impl.OK || impl.MatrixFault(got.Matrix) != impl.OK || got.Matrix.Rows != rows || got.Matrix.Cols != cols {
				t.Fatalf("Cauchy(%d, %d): %v", rows, cols, got)
			}
			for i := range rows {
				for j := range cols {
					if impl.Mul8(got.Matrix.Cells[i*cols+j], (cols+i)^j) != 1 {
						t.Fatalf("Cauchy(%d, %d) at %d, %d: %d", rows, cols, i, j, got.Matrix.Cells[i*cols+j])
					}
				}
			}
		}
	}
}

func cauchyTable(t *testing.T, rows, cols int) table {
	t.Helper()
	var out table
	for row := range slices.Chunk(impl.Cauchy(int64(rows), int64(cols)).Matrix.Cells, cols) {
		out = append(out, row)
	}
	if len(out) != rows {
		t.Fatalf("Cauchy(%d, %d) has %d rows", rows, cols, len(out))
	}
	return out
}

func TestP3EachSquarePieceOfSmallCauchys(t *testing.T) {
	p := newMatrices()
	for _, sides := range [][2]int{{1, 1}, {1, 5}, {5, 1}, {2, 3}, {4, 4}, {3, 6}, {6, 3}, {5, 5}} {
		m := cauchyTable(t, sides[0], sides[1])
		for side := 1; side <= min(sides[0], sides[1]); side++ {
			for _, rows := range choices(sides[0], side) {
				for _, cols := range choices(sides[1], side) {
					part := piece(m, rows, cols)
					if p.determinant(part) == 0 {
						t.Fatalf("rows %v and columns %v of Cauchy(%d, %d) have the determinant 0", rows, cols, sides[0], sides[1])
					}
					p.checkInverse(t, part)
				}
			}
		}
	}
}

func TestP3SquarePiecesOfGreatCauchys(t *testing.T) {
	p := newMatrices()
	for _, sides := range [][2]int{{64, 64}, {16, 32}, {64, 3}, {3, 64}, {33, 64}, {64, 17}} {
		m := cauchyTable(t, sides[0], sides[1])
		for range 60 {
			side := 1 + p.chance.Intn(min(sides[0], sides[1]))
			rows := p.chance.Perm(sides[0])[:side]
			cols := p.chance.Perm(sides[1])[:side]
			part := piece(m, rows, cols)
			if impl.MatRank(part.matrix()) != int64(side) || impl.MatInv(part.matrix()).Code != impl.OK {
				t.Fatalf("rows %v and columns %v of Cauchy(%d, %d)", rows, cols, sides[0], sides[1])
			}
		}
	}
	p.checkInverse(t, cauchyTable(t, 64, 64))
}

// wrongMatrices: each has one fault, those among them whose sides multiply to the number of cells all the same.
func wrongMatrices() map[string]impl.Matrix {
	with := func(rows, cols int64, cells int, last int64) impl.Matrix {
		m := impl.Matrix{Rows: rows, Cols: cols, Cells: make([]int64, cells)}
		if cells > 0 {
			m.Cells[cells-1] = last
		}
		return m
	}
	return map[string]impl.Matrix{
		"zero value":          {},
		"rows 0":              with(0, 1, 0, 0),
		"cols 0":              with(1, 0, 0, 0),
		"rows 0 with a cell":  with(0, 1, 1, 0),
		"rows 65":             with(65, 1, 65, 1),
		"cols 65":             with(1, 65, 65, 1),
		"both 65":             with(65, 65, 65*65, 1),
		"rows below 0":        with(-1, 1, 1, 1),
		"cols below 0":        with(1, -1, 1, 1),
		"both below 0":        with(-1, -1, 1, 1),
		"both -2":             with(-2, -2, 4, 1),
		"wraps round to 0":    with(1<<32, 1<<32, 0, 0),
		"wraps round to 1":    with(math.MaxInt64, math.MaxInt64, 1, 1),
		"least rows":          with(math.MinInt64, math.MinInt64, 0, 0),
		"no cells":            with(1, 1, 0, 0),
		"one cell too few":    with(2, 2, 3, 1),
		"one cell too many":   with(2, 2, 5, 1),
		"many too many":       with(1, 1, 4096, 1),
		"one too few of all":  with(64, 64, 4095, 1),
		"one too many of all": with(64, 64, 4097, 1),
		"a cell below 0":      with(2, 2, 4, -1),
		"a cell of 256":       with(2, 2, 4, 256),
		"a cell of 257":       with(1, 1, 1, 257),
		"a cell of 2^32+1":    with(1, 1, 1, 1<<32+1),
		"the least cell":      with(1, 1, 1, math.MinInt64),
		"the greatest cell":   with(64, 64, 4096, math.MaxInt64),
		"a first cell of 256": {Rows: 1, Cols: 2, Cells: []int64{256, 1}},
		"a mid cell of -255":  {Rows: 3, Cols: 1, Cells: []int64{1, -255, 1}},
	}
}

func TestP3WrongMatrices(t *testing.T) {
	for what, m := range wrongMatrices() {
		noPanic(t, what, func() {
			if got := impl.MatrixFault(m); got != impl.ErrForm {
				t.Errorf("%s: MatrixFault %d", what, got)
			}
			if got := impl.MatRank(m); got != -1 {
				t.Errorf("%s: MatRank %d", what, got)
			}
			if got := impl.MatInv(m); !isOnly(got, impl.ErrForm) {
				t.Errorf("%s: MatInv %v", what, got)
			}
			for _, side := range []int{1, 2, 3, 64} {
				right := unitTable(side).matrix()
				if got := impl.MatMul(m, right); !isOnly(got, impl.ErrForm) {
					t.Errorf("%s: MatMul with the unit of side %d: %v", what, side, got)
				}
				if got := impl.MatMul(right, m); !isOnly(got, impl.ErrForm) {
					t.Errorf("%s: MatMul of the unit of side %d: %v", what, side, got)
				}
			}
			if got := impl.MatMul(m, m); !isOnly(got, impl.ErrForm) {
				t.Errorf("%s: MatMul with itself: %v", what, got)
			}
		})
	}
}

func TestP3RightMatrices(t *testing.T) {
	p := newMatrices()
	for _, rows := range sidesToTry {
		for _, cols := range sidesToTry {
			if got := impl.MatrixFault(p.drawn(rows, cols, false).matrix()); got != impl.OK {
				t.Errorf("%d by %d: %d", rows, cols, got)
			}
		}
	}
	for cell := range int64(256) {
		if got := impl.MatrixFault(table{{cell}}.matrix()); got != impl.OK {
			t.Errorf("a cell of %d: %d", cell, got)
		}
	}
}

func TestP3SidesThatDoNotFit(t *testing.T) {
	p := newMatrices()
	for _, rows := range sidesToTry {
		for _, cols := range sidesToTry {
			m := p.drawn(rows, cols, false).matrix()
			if got := impl.MatInv(m); rows != cols && !isOnly(got, impl.ErrForm) {
				t.Errorf("the inverse of %d by %d: %v", rows, cols, got)
			}
			for _, other := range []int{1, 2, 8, 63, 64} {
				got := impl.MatMul(m, p.drawn(other, rows, false).matrix())
				if other != cols && !isOnly(got, impl.ErrForm) {
					t.Errorf("%d by %d times %d by %d: %v", rows, cols, other, rows, got)
				}
				if other == cols && got.Code != impl.OK {
					t.Errorf("%d by %d times %d by %d: %d", rows, cols, other, rows, got.Code)
				}
			}
		}
	}
}

// One that is not square is not valid, whether or not its rows hang on one another.
func TestP3NotSquareComesAheadOfNoInverse(t *testing.T) {
	for _, m := range []table{{{0, 0}}, {{0}, {0}}, {{1, 0, 0}, {0, 1, 0}}} {
		if got := impl.MatInv(m.matrix()); !isOnly(got, impl.ErrForm) {
			t.Errorf("%v: %v", m, got)
		}
	}
}

func TestP3WrongSidesOfCauchy(t *testing.T) {
	wrong := []int64{0, -1, -64, 65, 66, 128, 256, 257, 1 << 32, 1<<32 + 1, math.MinInt64, math.MaxInt64}
	for _, bad := range wrong {
		for _, other := range append([]int64{1, 2, 64}, wrong...) {
			noPanic(t, fmt.Sprint("Cauchy with ", bad, " and ", other), func() {
				if got := impl.Cauchy(bad, other); !isOnly(got, impl.ErrForm) {
					t.Errorf("Cauchy(%d, %d): %v", bad, other, got)
				}
				if got := impl.Cauchy(other, bad); !isOnly(got, impl.ErrForm) {
					t.Errorf("Cauchy(%d, %d): %v", other, bad, got)
				}
			})
		}
	}
}

func TestP3NothingIsWrittenOrShared(t *testing.T) {
	p := newMatrices()
	for _, side := range []int{1, 2, 8, 9, 64} {
		for _, m := range []table{unitTable(side), p.full(side), p.ofRank(side, side, side/2)} {
			a, b := newListLoan(m.matrix().Cells), newListLoan(m.matrix().Cells)
			left := impl.Matrix{Rows: int64(side), Cols: int64(side), Cells: a.list()}
			right := impl.Matrix{Rows: int64(side), Cols: int64(side), Cells: b.list()}
			impl.MatrixFault(left)
			impl.MatRank(left)
			product, inverse := impl.MatMul(left, right), impl.MatInv(left)
			if !a.kept() || !b.kept() {
				t.Fatalf("side %d: an argument was written into", side)
			}
			spoil(product.Matrix.Cells)
			spoil(inverse.Matrix.Cells)
			if !a.kept() || !b.kept() {
				t.Fatalf("side %d: an answer shares memory with an argument", side)
			}
			again := impl.MatInv(left)
			spoil(again.Matrix.Cells)
			if !slices.Equal(again.Matrix.Cells, inverse.Matrix.Cells) || !is(impl.MatMul(left, right), p.product(m, m).matrix()) {
				t.Fatalf("side %d: one answer hangs on another", side)
			}
		}
		first := impl.Cauchy(int64(side), int64(side))
		want := slices.Clone(first.Matrix.Cells)
		spoil(first.Matrix.Cells)
		if got := impl.Cauchy(int64(side), int64(side)); !slices.Equal(got.Matrix.Cells, want) {
			t.Fatalf("side %d: one answer of Cauchy hangs on another", side)
		}
	}
}

func TestP3NoCallPanics(t *testing.T) {
	p := newMatrices()
	sides := []int64{-65, -1, 0, 1, 2, 3, 63, 64, 65, 4096, math.MinInt64, math.MaxInt64}
	lists := [][]int64{nil, {}, {1}, {0}, {-1}, {256}, make([]int64, 4), make([]int64, 64), make([]int64, 4096), make([]int64, 4097)}
	for _, rows := range sides {
		for _, cols := range sides {
			for _, cells := range lists {
				m := impl.Matrix{Rows: rows, Cols: cols, Cells: cells}
				noPanic(t, fmt.Sprint(rows, " by ", cols, " with ", len(cells), " cells"), func() {
					fault := impl.MatrixFault(m)
					if rank := impl.MatRank(m); (rank == -1) != (fault == impl.ErrForm) {
						t.Errorf("%d by %d with %d cells: fault %d, rank %d", rows, cols, len(cells), fault, rank)
					}
					impl.MatInv(m)
					impl.MatMul(m, m)
					impl.MatMul(m, p.drawn(2, 2, true).matrix())
					impl.Cauchy(rows, cols)
				})
			}
		}
	}
}
