package ints

import (
	"math/big"
	"math/rand/v2"
	"slices"
	"testing"
)

// plain answers what a call is to tell, worked out in numbers without bounds.
func plain(name string, a, b int) told {
	x, y := big.NewInt(int64(a)), big.NewInt(int64(b))
	if !plainFits(x) || !plainFits(y) {
		return no
	}
	z := new(big.Int)
	switch name {
	case "Add":
		z.Add(x, y)
	case "Sub":
		z.Sub(x, y)
	case "Mul":
		z.Mul(x, y)
	default:
		if y.Sign() == 0 {
			return no
		}
		z.Quo(x, y)
		if name == "Rem" {
			z.Sub(x, z.Mul(z, y))
		}
	}
	if !plainFits(z) {
		return no
	}
	return is(int(z.Int64()))
}

func plainFits(n *big.Int) bool {
	return n.Cmp(big.NewInt(-1<<31)) >= 0 && n.Cmp(big.NewInt(1<<31-1)) <= 0
}

// pairs answers each two of what stands at the edges, and pairs by chance: of numbers of all sizes, of a number and one
// near to it, of two whose product is near to a bound.
func pairs() [][2]int {
	var l [][2]int
	edges := slices.Concat(inside(), outside())
	for _, a := range edges {
		for _, b := range edges {
			l = append(l, [2]int{a, b})
		}
	}
	r := rand.New(rand.NewPCG(8, 1))
	for range 100000 {
		a, b, near := anySize(r), anySize(r), int(r.Int64N(5))-2
		l = append(l, [2]int{a, b}, [2]int{a, a + near}, [2]int{a, -a + near}, [2]int{a, hi - a + near}, [2]int{a, lo - a + near}, [2]int{a, a - lo + near})
		if a != 0 {
			l = append(l, [2]int{a, hi/a + near}, [2]int{lo/a + near, a})
		}
	}
	return l
}

// anySize answers a number of up to 33 bits, as many of each length.
func anySize(r *rand.Rand) int {
	n := r.Int64N(1 << r.Int64N(34))
	if r.Int64N(2) == 0 {
		n = -n
	}
	return int(n)
}

func TestAsInNumbersWithoutBounds(t *testing.T) {
	for _, p := range pairs() {
		a, b := p[0], p[1]
		for _, c := range calls() {
			want := plain(c.name, a, b)
			if n, ok := c.ask(a, b); n != want.n || ok != want.ok {
				t.Fatalf("%s of %d, %d: %d %v, not %d %v", c.name, a, b, n, ok, want.n, want.ok)
			}
		}
		want := plain("Sub", 0, a)
		if n, ok := Neg(a); n != want.n || ok != want.ok {
			t.Fatalf("Neg of %d: %d %v, not %d %v", a, n, ok, want.n, want.ok)
		}
		if Fits(a) != plainFits(big.NewInt(int64(a))) {
			t.Fatalf("Fits of %d", a)
		}
	}
}

// P8.2: the quotient times b, and what remains, are a. Where the quotient is refused, only Least by -1 may be meant.
func TestQuotientAndRestMakeTheWhole(t *testing.T) {
	seen := 0
	for _, p := range pairs() {
		a, b := p[0], p[1]
		if !Fits(a) || !Fits(b) || b == 0 {
			continue
		}
		seen++
		rest, ok := Rem(a, b)
		if !ok || size(rest) >= size(b) || rest < 0 && a >= 0 || rest > 0 && a <= 0 {
			t.Fatalf("of %d by %d remains %d %v", a, b, rest, ok)
		}
		quotient, ok := Div(a, b)
		if !ok {
			if a != lo || b != -1 || quotient != 0 || rest != 0 {
				t.Fatalf("%d by %d is refused", a, b)
			}
			continue
		}
		product, fits := Mul(quotient, b)
		whole, also := Add(product, rest)
		if !fits || !also || whole != a || quotient*b+rest != a {
			t.Fatalf("%d by %d: %d, and %d remains", a, b, quotient, rest)
		}
	}
	if seen < 100000 {
		t.Errorf("only %d pairs", seen)
	}
}

// size answers how far a number is from 0.
func size(n int) int {
	if n < 0 {
		return -n
	}
	return n
}

// answers answers what each call tells of each pair.
func answers(pairs [][2]int) [][]told {
	var l [][]told
	for _, p := range pairs {
		var row []told
		for _, c := range calls() {
			n, ok := c.ask(p[0], p[1])
			row = append(row, told{n, ok})
		}
		n, ok := Neg(p[0])
		row = append(row, told{n, ok}, told{0, Fits(p[0])})
		l = append(l, row)
	}
	return l
}

// R3: asked again, in the same order and from the last one on, the answers are the same.
func TestAskedAgainTheAnswersAreTheSame(t *testing.T) {
	asked := pairs()
	first := answers(asked)
	again := answers(asked)
	slices.Reverse(asked)
	back := answers(asked)
	slices.Reverse(back)
	for i := range first {
		if !slices.Equal(first[i], again[i]) || !slices.Equal(first[i], back[i]) {
			t.Fatalf("%v: %v, %v, %v", asked[len(asked)-1-i], first[i], again[i], back[i])
		}
	}
}

// R4: beside a false stands 0.
func TestBesideAFalseStandsZero(t *testing.T) {
	refused := 0
	for i, row := range answers(pairs()) {
		// Fits, the last one, tells no number.
		for _, a := range row[:len(row)-1] {
			if !a.ok {
				refused++
				if a.n != 0 {
					t.Fatalf("pair %d: %d beside a false", i, a.n)
				}
			}
		}
	}
	if refused < 1000 {
		t.Errorf("only %d are refused", refused)
	}
}
