package tests

import (
	"fmt"
	"math"
	"math/rand"
	"testing"

	"loop.example/g00020/impl"
)

// fieldFace is one of the two fields, as a test sees it.
type fieldFace struct {
	name       string
	polynomial uint64
	width      int
	mul        func(a, b int64) int64
	inv        func(a int64) int64
}

func (f fieldFace) size() int64 { return 1 << f.width }

func bothFields() []fieldFace {
	return []fieldFace{
		{"field of 256", 285, 8, impl.Mul8, impl.Inv8},
		{"field of 65536", 69643, 16, impl.Mul16, impl.Inv16},
	}
}

// longProduct multiplies as on paper: first the whole product, then the division, from its highest term down.
func (f fieldFace) longProduct(a, b int64) int64 {
	var whole uint64
	for k := range f.width {
		if b>>k&1 == 1 {
			whole ^= uint64(a) << k
		}
	}
	for k := 2*f.width - 2; k >= f.width; k-- {
		if whole>>k&1 == 1 {
			whole ^= f.polynomial << (k - f.width)
		}
	}
	return int64(whole)
}

// edges: the least and the greatest elements, each single bit, and numbers in between.
func (f fieldFace) edges() []int64 {
	list := []int64{0, f.size() - 1, f.size() - 2, f.size()/2 - 1, int64(f.polynomial) - f.size()}
	for k := range f.width {
		list = append(list, 1<<k, 1<<k|1)
	}
	return list
}

// drawn gives edges and elements in between, the same ones in each run.
func (f fieldFace) drawn(count int) []int64 {
	chance := rand.New(rand.NewSource(int64(f.width)))
	list := f.edges()
	for range count {
		list = append(list, chance.Int63n(f.size()))
	}
	return list
}

// outside: numbers that are no elements, those among them whose last bits would be one.
func (f fieldFace) outside() []int64 {
	return []int64{
		-1, -2, 1 - f.size(), -f.size(), f.size(), f.size() + 1, f.size() + 2, 2*f.size() - 1, int64(f.polynomial), 65536,
		1 << 32, 1<<32 + 1, 1 << 62, -1 << 32, 1 - 1<<32, math.MinInt64, math.MinInt64 + 1, math.MaxInt64, math.MaxInt64 - 1,
	}
}

func TestP2ProductsAsKnown(t *testing.T) {
	for _, c := range [][3]int64{
		{0, 0, 0}, {0, 255, 0}, {1, 1, 1}, {1, 255, 255}, {2, 127, 254}, {128, 2, 29}, {255, 255, 226}, {83, 202, 143},
		{200, 100, 79}, {254, 3, 31}, {170, 85, 159}, {2, 142, 1},
	} {
		if got := impl.Mul8(c[0], c[1]); got != c[2] {
			t.Errorf("Mul8(%d, %d) = %d, not %d", c[0], c[1], got, c[2])
		}
	}
	for _, c := range [][3]int64{
		{0, 0, 0}, {0, 65535, 0}, {1, 1, 1}, {1, 65535, 65535}, {2, 255, 510}, {32768, 2, 4107}, {256, 256, 4107},
		{65535, 65535, 1843}, {12345, 54321, 65200}, {40000, 3, 46283}, {65535, 2, 61429}, {2, 34821, 1},
	} {
		if got := impl.Mul16(c[0], c[1]); got != c[2] {
			t.Errorf("Mul16(%d, %d) = %d, not %d", c[0], c[1], got, c[2])
		}
	}
}

func TestP2ProductsAreThoseOfPolynomials(t *testing.T) {
	for _, f := range bothFields() {
		// Every element with the edges; in the small field these are joined by all others.
		with := f.edges()
		if f.width == 8 {
			for b := range f.size() {
				with = append(with, b)
			}
		}
		for a := range f.size() {
			for _, b := range with {
				if got, want := f.mul(a, b), f.longProduct(a, b); got != want {
					t.Fatalf("%s: %d times %d is %d, not %d", f.name, a, b, got, want)
				}
			}
		}
	}
}

// allProducts of the field of 256 are taken once, so that all triples can be gone through.
func allProducts() [256][256]byte {
	var all [256][256]byte
	for a := range int64(256) {
		for b := range int64(256) {
			all[a][b] = byte(impl.Mul8(a, b))
		}
	}
	return all
}

func TestP2AllProductsOf256InAnyOrderAndGrouping(t *testing.T) {
	all := allProducts()
	for a := range 256 {
		for b := range 256 {
			if all[a][b] != all[b][a] {
				t.Fatalf("%d and %d: %d and %d", a, b, all[a][b], all[b][a])
			}
			for c := range 256 {
				if all[all[a][b]][c] != all[a][all[b][c]] {
					t.Fatalf("grouping of %d, %d, %d", a, b, c)
				}
				if all[a][b^c] != all[a][b]^all[a][c] || all[b^c][a] != all[b][a]^all[c][a] {
					t.Fatalf("%d over the sum of %d and %d", a, b, c)
				}
			}
		}
	}
}

func TestP2ProductsInAnyOrderAndGrouping(t *testing.T) {
	for _, f := range bothFields() {
		list := f.drawn(40)
		for _, a := range list {
			for _, b := range list {
				if f.mul(a, b) != f.mul(b, a) {
					t.Errorf("%s: order of %d and %d", f.name, a, b)
				}
				for _, c := range list {
					if f.mul(f.mul(a, b), c) != f.mul(a, f.mul(b, c)) {
						t.Errorf("%s: grouping of %d, %d, %d", f.name, a, b, c)
					}
					if f.mul(a, b^c) != f.mul(a, b)^f.mul(a, c) || f.mul(b^c, a) != f.mul(b, a)^f.mul(c, a) {
						t.Errorf("%s: %d over the sum of %d and %d", f.name, a, b, c)
					}
				}
			}
		}
	}
}

func TestP2InversesAsKnown(t *testing.T) {
	for _, c := range [][2]int64{{0, 0}, {1, 1}, {2, 142}, {142, 2}, {3, 244}, {83, 140}, {255, 253}} {
		if got := impl.Inv8(c[0]); got != c[1] {
			t.Errorf("Inv8(%d) = %d, not %d", c[0], got, c[1])
		}
	}
	for _, c := range [][2]int64{
		{0, 0}, {1, 1}, {2, 34821}, {34821, 2}, {3, 61446}, {256, 40565}, {12345, 32125}, {32768, 13405}, {65535, 2196},
	} {
		if got := impl.Inv16(c[0]); got != c[1] {
			t.Errorf("Inv16(%d) = %d, not %d", c[0], got, c[1])
		}
	}
}

func TestP2EachNumberButZeroHasAnInverse(t *testing.T) {
	for _, f := range bothFields() {
		for a := int64(1); a < f.size(); a++ {
			i := f.inv(a)
			if i < 1 || i >= f.size() {
				t.Fatalf("%s: the inverse of %d is %d", f.name, a, i)
			}
			if f.mul(a, i) != 1 || f.mul(i, a) != 1 || f.longProduct(a, i) != 1 || f.inv(i) != a {
				t.Fatalf("%s: %d is no inverse of %d", f.name, i, a)
			}
		}
	}
}

func TestP2NoNumberHasTwoInverses(t *testing.T) {
	for _, f := range bothFields() {
		// All of the small field; of the great one a few, each against every element.
		list := f.edges()
		if f.width == 8 {
			for a := range f.size() {
				list = append(list, a)
			}
		}
		for _, a := range list {
			want := 1
			if a == 0 {
				want = 0
			}
			found := 0
			for b := range f.size() {
				if f.mul(a, b) == 1 {
					found++
				}
			}
			if found != want {
				t.Errorf("%s: %d has %d inverses", f.name, a, found)
			}
		}
	}
}

func TestP2PowersAsKnown(t *testing.T) {
	for _, c := range [][3]int64{
		{0, 0, 1}, {1, 0, 1}, {2, 0, 1}, {255, 0, 1}, {0, 1, 0}, {0, 2, 0}, {0, 255, 0}, {0, 256, 0}, {0, math.MaxInt64, 0},
		{1, 1, 1}, {1, math.MaxInt64, 1}, {255, 1, 255}, {2, 7, 128}, {2, 8, 29}, {2, 254, 142}, {2, 255, 1}, {2, 256, 2},
		{2, 1 << 32, 2}, {2, 1 << 62, 95}, {2, math.MaxInt64 - 1, 102}, {2, math.MaxInt64, 204}, {2, 1e18, 17},
		{3, 1 << 62, 94}, {3, math.MaxInt64 - 1, 223}, {3, math.MaxInt64, 124}, {3, 1e18, 167},
		{83, 1 << 62, 75}, {83, math.MaxInt64, 73}, {255, 1 << 32, 255}, {255, math.MaxInt64 - 1, 59},
		{255, math.MaxInt64, 106}, {255, 1e18, 230},
	} {
		if got := impl.Pow8(c[0], c[1]); got != c[2] {
			t.Errorf("Pow8(%d, %d) = %d, not %d", c[0], c[1], got, c[2])
		}
	}
}

func TestP2PowersAreProductsOfOneFactor(t *testing.T) {
	f := bothFields()[0]
	for a := range f.size() {
		want := int64(1)
		for n := range int64(1100) {
			if got := impl.Pow8(a, n); got != want {
				t.Fatalf("Pow8(%d, %d) = %d, not %d", a, n, got, want)
			}
			want = f.longProduct(want, a)
		}
	}
}

// a taken n times is a taken n/2 times, and the rest of the times: so each great n rests on smaller ones.
func TestP2PowersAtGreatN(t *testing.T) {
	f := bothFields()[0]
	great := []int64{math.MaxInt64, math.MaxInt64 - 1, math.MaxInt64 - 254, math.MaxInt64 - 255}
	for k := range 63 {
		great = append(great, 1<<k, 1<<k-1)
	}
	for a := range f.size() {
		for _, n := range great {
			if a > 0 && impl.Pow8(a, n) != impl.Pow8(a, n%255) {
				t.Errorf("Pow8(%d, %d) is not Pow8(%d, %d)", a, n, a, n%255)
			}
			if got, want := impl.Pow8(a, n), f.longProduct(impl.Pow8(a, n/2), impl.Pow8(a, n-n/2)); got != want {
				t.Errorf("Pow8(%d, %d) = %d, not %d", a, n, got, want)
			}
		}
	}
}

func TestP2NumbersOutsideTheField(t *testing.T) {
	for _, f := range bothFields() {
		for _, bad := range f.outside() {
			if got := f.inv(bad); got != -1 {
				t.Errorf("%s: the inverse of %d is %d", f.name, bad, got)
			}
			for _, other := range append(f.edges(), f.outside()...) {
				if got := f.mul(bad, other); got != -1 {
					t.Errorf("%s: %d times %d is %d", f.name, bad, other, got)
				}
				if got := f.mul(other, bad); got != -1 {
					t.Errorf("%s: %d times %d is %d", f.name, other, bad, got)
				}
			}
		}
	}
}

func TestP2PowersOfWrongNumbers(t *testing.T) {
	f := bothFields()[0]
	below := []int64{-1, -2, -254, -255, -256, -1 << 32, math.MinInt64 + 1, math.MinInt64}
	for _, n := range append([]int64{0, 1, 2, 254, 255, 1 << 32, math.MaxInt64}, below...) {
		for _, bad := range f.outside() {
			if got := impl.Pow8(bad, n); got != -1 {
				t.Errorf("Pow8(%d, %d) = %d", bad, n, got)
			}
		}
	}
	for a := range f.size() {
		for _, n := range below {
			if got := impl.Pow8(a, n); got != -1 {
				t.Errorf("Pow8(%d, %d) = %d", a, n, got)
			}
		}
	}
}

// The fields differ where they meet: a number of the great one is none of the small one.
func TestP2TheSmallFieldEndsAt255(t *testing.T) {
	for _, a := range []int64{256, 257, 40000, 65535} {
		if impl.Mul8(a, 1) != -1 || impl.Inv8(a) != -1 || impl.Pow8(a, 1) != -1 {
			t.Errorf("%d is an element of the field of 256", a)
		}
		if impl.Mul16(a, 1) != a || impl.Mul16(a, impl.Inv16(a)) != 1 {
			t.Errorf("%d is no element of the field of 65536", a)
		}
	}
}

func TestP2NoCallPanics(t *testing.T) {
	chance := rand.New(rand.NewSource(2))
	numbers := append(bothFields()[0].outside(), bothFields()[1].edges()...)
	for range 200 {
		numbers = append(numbers, int64(chance.Uint64())>>chance.Intn(64))
	}
	for _, a := range numbers {
		for _, b := range numbers {
			noPanic(t, fmt.Sprint("with ", a, " and ", b), func() {
				for _, got := range []int64{impl.Mul8(a, b), impl.Inv8(a), impl.Pow8(a, b)} {
					if got < -1 || got > 255 {
						t.Errorf("of %d and %d in the field of 256: %d", a, b, got)
					}
				}
				for _, got := range []int64{impl.Mul16(a, b), impl.Inv16(a)} {
					if got < -1 || got > 65535 {
						t.Errorf("of %d and %d in the field of 65536: %d", a, b, got)
					}
				}
			})
		}
	}
}
