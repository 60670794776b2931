package ints

import (
	"math"
	"slices"
	"testing"

	"delver/api"
)

const lo, hi = api.Least, api.Most

// told is what a call answers.
type told struct {
	n  int
	ok bool
}

var no = told{}

func is(n int) told { return told{n, true} }

// sample is a question, and what is to be told.
type sample struct {
	a, b int
	want told
}

// call is one of the calls, by its name.
type call struct {
	name string
	ask  func(a, b int) (int, bool)
}

// calls answers the calls of two numbers.
func calls() []call {
	return []call{{"Add", Add}, {"Sub", Sub}, {"Mul", Mul}, {"Div", Div}, {"Rem", Rem}}
}

// outside holds what does not fit: one beyond each bound, what is a number of 32 bits again when bits are cut off, and the
// ends of the machine's own numbers, whose sums and products wrap there.
func outside() []int {
	return []int{
		lo - 1, hi + 1, lo - 2, hi + 2, 1 << 32, -1 << 32, 1<<32 + 5, -1<<32 - 5, 1<<62 - 1, 1 << 62, -1 << 62,
		math.MaxInt, math.MaxInt - 1, math.MinInt, math.MinInt + 1,
	}
}

// inside holds what fits, from bound to bound.
func inside() []int {
	l := []int{46340, 46341, 1 << 15, 1 << 16, 65535, 1 << 30, 1<<30 + 1, hi / 2, hi / 3, hi - 2, hi - 1, hi}
	for n := range 12 {
		l = append(l, n)
	}
	for _, n := range slices.Clone(l) {
		l = append(l, -n)
	}
	return append(l, lo, lo+1, lo+2, lo/2, lo/3)
}

func check(t *testing.T, f func(a, b int) (int, bool), samples []sample) {
	t.Helper()
	for _, s := range samples {
		if n, ok := f(s.a, s.b); n != s.want.n || ok != s.want.ok {
			t.Errorf("%d and %d: %d %v, not %d %v", s.a, s.b, n, ok, s.want.n, s.want.ok)
		}
	}
}

func TestExampleOfTheChapter(t *testing.T) {
	check(t, Div, []sample{{lo, -1, no}})
	check(t, Rem, []sample{{lo, -1, is(0)}})
}

func TestFits(t *testing.T) {
	for _, n := range inside() {
		if !Fits(n) {
			t.Errorf("%d does not fit", n)
		}
	}
	for _, n := range outside() {
		if Fits(n) {
			t.Errorf("%d fits", n)
		}
	}
}

func TestAdd(t *testing.T) {
	check(t, Add, []sample{
		{7, 2, is(9)}, {-7, 2, is(-5)}, {7, -2, is(5)}, {-7, -2, is(-9)}, {0, 0, is(0)}, {0, 5, is(5)}, {5, 0, is(5)}, {5, -5, is(0)},
		{hi, 0, is(hi)}, {0, hi, is(hi)}, {hi - 1, 1, is(hi)}, {1, hi - 1, is(hi)}, {hi, 1, no}, {1, hi, no}, {hi, hi, no},
		{1 << 30, 1<<30 - 1, is(hi)}, {1 << 30, 1 << 30, no},
		{lo, 0, is(lo)}, {0, lo, is(lo)}, {lo + 1, -1, is(lo)}, {-1, lo + 1, is(lo)}, {lo, -1, no}, {-1, lo, no}, {lo, lo, no},
		{-1 << 30, -1 << 30, is(lo)}, {-1 << 30, -1<<30 - 1, no},
		{hi, lo, is(-1)}, {lo, hi, is(-1)}, {hi, -1, is(hi - 1)}, {lo, 1, is(lo + 1)},
	})
}

func TestSub(t *testing.T) {
	check(t, Sub, []sample{
		{7, 2, is(5)}, {-7, 2, is(-9)}, {7, -2, is(9)}, {-7, -2, is(-5)}, {0, 0, is(0)}, {0, 5, is(-5)}, {5, 0, is(5)}, {5, 5, is(0)},
		{hi, 0, is(hi)}, {0, hi, is(-hi)}, {hi - 1, -1, is(hi)}, {hi, -1, no}, {-1, hi, is(lo)}, {-2, hi, no}, {hi, hi, is(0)},
		{lo, 0, is(lo)}, {0, lo, no}, {-1, lo, is(hi)}, {0, lo + 1, is(hi)}, {1, lo + 1, no}, {lo + 1, 1, is(lo)}, {lo, 1, no}, {lo, lo, is(0)},
		{1 << 30, -1<<30 + 1, is(hi)}, {1 << 30, -1 << 30, no}, {-1 << 30, 1 << 30, is(lo)}, {-1 << 30, 1<<30 + 1, no},
		{hi, lo, no}, {lo, hi, no}, {lo, -1, is(lo + 1)}, {hi, 1, is(hi - 1)},
	})
}

func TestMul(t *testing.T) {
	check(t, Mul, []sample{
		{7, 2, is(14)}, {-7, 2, is(-14)}, {7, -2, is(-14)}, {-7, -2, is(14)}, {0, 0, is(0)}, {0, 5, is(0)}, {5, 0, is(0)},
		{hi, 1, is(hi)}, {1, hi, is(hi)}, {hi, -1, is(-hi)}, {-1, hi, is(-hi)}, {hi, 0, is(0)}, {hi, 2, no}, {2, hi, no}, {hi, hi, no},
		{lo, 1, is(lo)}, {1, lo, is(lo)}, {lo, -1, no}, {-1, lo, no}, {lo, 0, is(0)}, {0, lo, is(0)}, {lo, 2, no}, {lo, lo, no},
		{hi, lo, no}, {lo, hi, no}, {lo + 1, -1, is(hi)}, {-1, lo + 1, is(hi)},
		{46340, 46340, is(2147395600)}, {46341, 46341, no}, {46341, 46340, is(2147441940)}, {-46341, -46341, no}, {-46340, 46341, is(-2147441940)},
		{1 << 16, 1 << 15, no}, {1 << 16, 1<<15 - 1, is(2147418112)}, {1 << 16, -1 << 15, is(lo)}, {-1 << 15, 1 << 16, is(lo)}, {1 << 16, -1<<15 - 1, no},
		{1 << 16, 1 << 16, no}, {-1 << 16, 1 << 16, no}, {1 << 30, 2, no}, {-1 << 30, 2, is(lo)}, {2, -1 << 30, is(lo)}, {-1 << 30, -2, no},
		{3, 715827882, is(hi - 1)}, {3, 715827883, no}, {-3, 715827882, is(lo + 2)}, {-3, 715827883, no},
	})
}

func TestDiv(t *testing.T) {
	check(t, Div, []sample{
		{7, 2, is(3)}, {-7, 2, is(-3)}, {7, -2, is(-3)}, {-7, -2, is(3)}, {6, 2, is(3)}, {-6, 2, is(-3)}, {6, -2, is(-3)}, {-6, -2, is(3)},
		{1, 2, is(0)}, {-1, 2, is(0)}, {1, -2, is(0)}, {-1, -2, is(0)}, {0, 5, is(0)}, {0, -5, is(0)},
		{0, 0, no}, {5, 0, no}, {-5, 0, no}, {hi, 0, no}, {lo, 0, no},
		{hi, 1, is(hi)}, {hi, -1, is(-hi)}, {hi, 2, is(1<<30 - 1)}, {hi, -2, is(-1<<30 + 1)}, {hi, hi, is(1)}, {1, hi, is(0)}, {-1, hi, is(0)},
		{lo, 1, is(lo)}, {lo, -1, no}, {lo + 1, -1, is(hi)}, {lo, 2, is(-1 << 30)}, {lo, -2, is(1 << 30)}, {lo, lo, is(1)}, {1, lo, is(0)}, {-1, lo, is(0)},
		{lo, hi, is(-1)}, {hi, lo, is(0)}, {-hi, lo, is(0)}, {lo, -hi, is(1)},
	})
}

func TestRem(t *testing.T) {
	check(t, Rem, []sample{
		{7, 2, is(1)}, {-7, 2, is(-1)}, {7, -2, is(1)}, {-7, -2, is(-1)}, {6, 2, is(0)}, {-6, 2, is(0)}, {6, -2, is(0)}, {-6, -2, is(0)},
		{5, 3, is(2)}, {-5, 3, is(-2)}, {5, -3, is(2)}, {-5, -3, is(-2)}, {1, 2, is(1)}, {-1, 2, is(-1)}, {1, -2, is(1)}, {-1, -2, is(-1)}, {0, 5, is(0)}, {0, -5, is(0)},
		{0, 0, no}, {5, 0, no}, {-5, 0, no}, {hi, 0, no}, {lo, 0, no},
		{hi, 1, is(0)}, {hi, -1, is(0)}, {hi, 2, is(1)}, {hi, -2, is(1)}, {hi, hi, is(0)}, {1, hi, is(1)}, {-1, hi, is(-1)},
		{lo, 1, is(0)}, {lo, -1, is(0)}, {lo + 1, -1, is(0)}, {lo, 3, is(-2)}, {lo, -3, is(-2)}, {lo, lo, is(0)}, {1, lo, is(1)}, {-1, lo, is(-1)},
		{lo, hi, is(-1)}, {hi, lo, is(hi)}, {-hi, lo, is(-hi)}, {lo, -hi, is(-1)}, {lo, hi - 1, is(-2)},
	})
}

func TestNeg(t *testing.T) {
	neg := func(a, _ int) (int, bool) { return Neg(a) }
	samples := []sample{
		{a: 0, want: is(0)}, {a: 5, want: is(-5)}, {a: -5, want: is(5)}, {a: 1, want: is(-1)}, {a: -1, want: is(1)},
		{a: hi, want: is(lo + 1)}, {a: hi - 1, want: is(lo + 2)}, {a: lo + 1, want: is(hi)}, {a: lo + 2, want: is(hi - 1)}, {a: lo, want: no},
	}
	for _, n := range outside() {
		samples = append(samples, sample{a: n, want: no})
	}
	check(t, neg, samples)
}

// What is handed in and does not fit is refused on either side, though what comes of it might fit: with itself, with 0, with
// what leads back between the bounds.
func TestWhatDoesNotFitIsRefused(t *testing.T) {
	for _, c := range calls() {
		for _, x := range outside() {
			for _, y := range slices.Concat(inside(), outside(), []int{-x, x + 1, x - 1, -x - 1}) {
				check(t, c.ask, []sample{{x, y, no}, {y, x, no}})
			}
		}
	}
	check(t, Add, []sample{{hi + 1, -1, no}, {-1, hi + 1, no}, {lo - 1, 1, no}, {math.MaxInt, math.MinInt, no}, {math.MinInt, math.MinInt, no}, {1 << 62, 1 << 62, no}})
	check(t, Sub, []sample{{hi + 1, 1, no}, {1, hi + 1, no}, {0, hi + 1, no}, {lo - 1, -1, no}, {math.MinInt, math.MaxInt, no}, {math.MinInt, math.MinInt, no}})
	check(t, Mul, []sample{{hi + 1, 0, no}, {0, hi + 1, no}, {-1, hi + 1, no}, {1 << 32, 1 << 32, no}, {math.MinInt, -1, no}, {math.MaxInt, math.MaxInt, no}})
	check(t, Div, []sample{{hi + 1, 2, no}, {2, hi + 1, no}, {hi + 1, -1, no}, {lo - 1, 2, no}, {math.MinInt, -1, no}, {math.MaxInt, math.MaxInt, no}, {math.MaxInt, 0, no}})
	check(t, Rem, []sample{{hi + 1, 2, no}, {2, hi + 1, no}, {hi + 1, -1, no}, {lo - 1, 2, no}, {math.MinInt, -1, no}, {math.MaxInt, math.MaxInt, no}, {math.MinInt, 0, no}})
}
