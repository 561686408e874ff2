package poly_test

import (
	"math/big"
	"slices"
	"sync"
	"testing"

	"assayer/api"
	"assayer/pair"
	"assayer/poly"
)

const top = 1<<64 - 1

var (
	zero = api.Pair{}
	one  = api.Pair{A: 1}
	u    = api.Pair{B: 1}
)

func wide(a uint64) *big.Int { return new(big.Int).SetUint64(a) }

// left is what x leaves modulo P, worked out by another means than the program's.
func left(x *big.Int) uint64 { return new(big.Int).Mod(x, wide(api.P)).Uint64() }

// kept is x with both parts as they are kept.
func kept(x api.Pair) api.Pair { return api.Pair{A: x.A % api.P, B: x.B % api.P} }

// plus is x + y, by math/big.
func plus(x, y api.Pair) api.Pair {
	return api.Pair{A: left(new(big.Int).Add(wide(x.A), wide(y.A))), B: left(new(big.Int).Add(wide(x.B), wide(y.B)))}
}

// times is x times y, by math/big.
func times(x, y api.Pair) api.Pair {
	a := new(big.Int).Mul(wide(x.B), wide(y.B))
	a.Mul(a, big.NewInt(7)).Add(a, new(big.Int).Mul(wide(x.A), wide(y.A)))
	b := new(big.Int).Mul(wide(x.A), wide(y.B))
	b.Add(b, new(big.Int).Mul(wide(x.B), wide(y.A)))
	return api.Pair{A: left(a), B: left(b)}
}

// minus is 0 - x, by math/big.
func minus(x api.Pair) api.Pair { return times(x, api.Pair{A: api.P - 1}) }

// at is what l comes to at x: each coefficient times its power of x, by math/big.
func at(l []api.Pair, x api.Pair) api.Pair {
	out, power := zero, one
	for _, a := range l {
		out = plus(out, times(a, power))
		power = times(power, x)
	}
	return out
}

// trimmed is l as it is kept, without noughts at the end.
func trimmed(l []api.Pair) []api.Pair {
	var out []api.Pair
	for i, x := range l {
		if kept(x) != zero {
			for len(out) < i {
				out = append(out, zero)
			}
			out = append(out, kept(x))
		}
	}
	return out
}

// sum is a + b, by math/big.
func sum(a, b []api.Pair) []api.Pair {
	out := make([]api.Pair, max(len(a), len(b)))
	for i := range out {
		for _, l := range [][]api.Pair{a, b} {
			if i < len(l) {
				out[i] = plus(out[i], l[i])
			}
		}
	}
	return trimmed(out)
}

// product is a times b, by math/big.
func product(a, b []api.Pair) []api.Pair {
	out := make([]api.Pair, len(a)+len(b))
	for i, x := range a {
		for j, y := range b {
			out[i+j] = plus(out[i+j], times(x, y))
		}
	}
	return trimmed(out)
}

// spread is a rule that gives ordinary numbers over all 64 bits, by each seed others, always the same ones.
func spread(seed uint64) func() uint64 {
	x := 0x9e3779b97f4a7c15 ^ seed
	return func() uint64 {
		x ^= x << 13
		x ^= x >> 7
		x ^= x << 17
		return x
	}
}

// ordinary are n pairs.
func ordinary(seed uint64, n int) []api.Pair {
	next := spread(seed)
	l := make([]api.Pair, n)
	for i := range l {
		l[i] = api.Pair{A: next(), B: next()}
	}
	return l
}

// edges are pairs where parts are 0, or where words or the field begin and end, as they are kept and not.
func edges() []api.Pair {
	return []api.Pair{
		zero, one, u, {A: api.P - 1}, {B: api.P - 1}, {A: api.P}, {B: api.P}, {A: api.P, B: api.P}, {A: api.P + 1},
		{B: api.P + 1}, {A: api.P, B: 5}, {A: 5, B: api.P}, {A: top, B: top}, {A: api.P - 1, B: api.P - 1}, {A: 3, B: 1},
		{A: 1<<32 - 1, B: 1 << 48}, {A: 1 << 63, B: 1 << 32}, {A: 0x123456789abcdef0, B: 0xfedcba9876543210},
	}
}

// noughts are zero, however it is written.
func noughts() []api.Pair {
	return []api.Pair{zero, {A: api.P}, {B: api.P}, {A: api.P, B: api.P}}
}

// lists are polynomials: none, noughts alone, one coefficient, noughts at the end, at the beginning and within, ordinary ones.
func lists() [][]api.Pair {
	x, y := api.Pair{A: 3, B: 1}, api.Pair{A: top, B: api.P + 2}
	l := [][]api.Pair{
		nil, {}, {zero}, {zero, zero, zero}, noughts(), {one}, {u}, {y}, {{A: api.P - 1}}, {{B: top}},
		{x, zero}, {zero, x}, {zero, {A: api.P}, y, {B: api.P}, zero}, {x, {A: api.P, B: api.P}, y}, {x, y, {A: api.P}},
		{x, y, {B: api.P}}, {x, y, {A: api.P, B: api.P}}, {x, {A: api.P, B: 5}}, {x, {A: 5, B: api.P}}, {{A: 6}, {A: api.P - 5}, {A: 1}},
		{minus(x), minus(y)}, edges(),
	}
	for n := range 6 {
		l = append(l, ordinary(uint64(n), n+1))
	}
	return append(l, ordinary(9, 40))
}

// same holds an answer against the list that is asked.
func same(t *testing.T, what string, got, want []api.Pair, of ...any) {
	t.Helper()
	if !slices.Equal(got, want) {
		t.Errorf("%s of %v: %v, not %v", what, of, got, want)
	}
}

// is holds a pair against the one that is asked.
func is(t *testing.T, what string, got, want api.Pair, of ...any) {
	t.Helper()
	if got != want {
		t.Errorf("%s of %v: %v, not %v", what, of, got, want)
	}
}

// P5.1: coefficients as they are kept, without noughts at the end, and how many of them there are.
func TestTrim(t *testing.T) {
	for _, l := range lists() {
		want := trimmed(l)
		same(t, "Trim", poly.Trim(l), want, l)
		same(t, "Trim of Trim", poly.Trim(poly.Trim(l)), want, l)
		if got := poly.Degree(l); got != len(want)-1 {
			t.Errorf("Degree of %v: %d", l, got)
		}
		for _, x := range noughts() {
			for n := range 4 {
				longer := append(slices.Clone(l), slices.Repeat([]api.Pair{x}, n)...)
				same(t, "Trim", poly.Trim(longer), want, longer)
				if got := poly.Degree(longer); got != len(want)-1 {
					t.Errorf("Degree of %v: %d", longer, got)
				}
			}
		}
	}
}

// P5.1: noughts at the beginning and within stay; a coefficient with one part that is 0 is no nought.
func TestTrimWritten(t *testing.T) {
	same(t, "Trim", poly.Trim([]api.Pair{{A: api.P}, {A: api.P + 1}, zero, {B: api.P + 2}, {A: api.P}}), []api.Pair{zero, one, zero, {B: 2}})
	same(t, "Trim", poly.Trim([]api.Pair{zero, {A: api.P, B: 5}}), []api.Pair{zero, {B: 5}})
	same(t, "Trim", poly.Trim([]api.Pair{zero, {A: top, B: api.P}}), []api.Pair{zero, {A: 1<<32 - 2}})
	for _, l := range [][]api.Pair{nil, {}, {zero}, noughts()} {
		if got := poly.Trim(l); len(got) != 0 {
			t.Errorf("Trim of %v: %v", l, got)
		}
		if got := poly.Degree(l); got != -1 {
			t.Errorf("Degree of %v: %d", l, got)
		}
	}
	for _, l := range [][]api.Pair{{{A: 5}}, {{B: 5}}, {{A: api.P, B: 5}}, {{A: 5, B: api.P}}, {{A: 5}, zero}, {{A: 5}, {A: api.P}}} {
		if got := poly.Degree(l); got != 0 {
			t.Errorf("Degree of %v: %d", l, got)
		}
	}
	if got := poly.Degree([]api.Pair{one, one, zero, u, {B: api.P}}); got != 3 {
		t.Errorf("Degree of a polynomial of four coefficients: %d", got)
	}
}

// P5.1: what polynomials come to, at points that are as they are kept or not.
func TestAt(t *testing.T) {
	for _, l := range lists() {
		for _, x := range append(edges(), ordinary(3, 5)...) {
			is(t, "At", poly.At(l, x), at(l, x), l, x)
		}
		for _, x := range noughts() {
			first := zero
			if len(l) > 0 {
				first = kept(l[0])
			}
			is(t, "At", poly.At(l, x), first, l, x)
		}
	}
	for _, x := range edges() {
		is(t, "At", poly.At(nil, x), zero, x)
		is(t, "At", poly.At(noughts(), x), zero, x)
		is(t, "At", poly.At([]api.Pair{{A: top, B: api.P}}, x), api.Pair{A: 1<<32 - 2}, x)
		is(t, "At", poly.At([]api.Pair{zero, one}, x), kept(x), x)
	}
	l := []api.Pair{{A: 1}, {A: 2}, u}
	is(t, "1 + 2 X + u X squared", poly.At(l, api.Pair{A: 3}), api.Pair{A: 7, B: 9})
	is(t, "1 + 2 X + u X squared", poly.At(l, u), api.Pair{A: 1, B: 9})
	is(t, "1 + 2 X + u X squared", poly.At(l, api.Pair{A: api.P, B: api.P + 1}), api.Pair{A: 1, B: 9})
}

// P5.1: of each number its pair, as many as there are: noughts at the end stay.
func TestLift(t *testing.T) {
	numbers := []uint64{0, 1, api.P - 1, api.P, api.P + 1, 1 << 63, top, 5, api.P, 0}
	for n := range len(numbers) + 1 {
		want := make([]api.Pair, n)
		for i, a := range numbers[:n] {
			want[i] = api.Pair{A: a % api.P}
		}
		same(t, "Lift", poly.Lift(numbers[:n]), want, numbers[:n])
	}
	same(t, "Lift", poly.Lift(nil), nil)
	same(t, "Lift", poly.Lift([]uint64{}), nil)
	same(t, "Lift", poly.Lift([]uint64{0, api.P, 0}), []api.Pair{zero, zero, zero})
	same(t, "Lift", poly.Lift([]uint64{7, top, 0}), []api.Pair{{A: 7}, {A: 1<<32 - 2}, zero})
}

// P5.1: sums, of as many coefficients and of more on either side.
func TestAdd(t *testing.T) {
	for _, a := range lists() {
		for _, b := range lists() {
			same(t, "Add", poly.Add(a, b), sum(a, b), a, b)
		}
		same(t, "Add", poly.Add(a, nil), trimmed(a), a, "none")
		same(t, "Add", poly.Add([]api.Pair{}, a), trimmed(a), "none", a)
	}
	a, b := []api.Pair{{A: 1, B: 2}, {A: 3}}, []api.Pair{{A: 5}, {B: 7}, {A: api.P + 1}}
	same(t, "Add", poly.Add(a, b), []api.Pair{{A: 6, B: 2}, {A: 3, B: 7}, one}, a, b)
	same(t, "Add", poly.Add(b, a), []api.Pair{{A: 6, B: 2}, {A: 3, B: 7}, one}, b, a)
}

// P5.1: sums are trimmed, where the highest coefficients, or all, give 0 together.
func TestAddNought(t *testing.T) {
	for _, a := range lists() {
		opposite := make([]api.Pair, len(a))
		for i, x := range a {
			opposite[i] = minus(x)
		}
		same(t, "Add", poly.Add(a, opposite), nil, a, opposite)
		same(t, "Add", poly.Add(opposite, a), nil, opposite, a)
		if len(a) == 0 {
			continue
		}
		opposite[0] = plus(opposite[0], u)
		same(t, "Add", poly.Add(a, opposite), []api.Pair{u}, a, opposite)
		same(t, "Add", poly.Add(append(opposite, zero, api.Pair{A: api.P}), a), []api.Pair{u}, opposite, a)
	}
	same(t, "Add", poly.Add([]api.Pair{{A: 1}, {A: 2}}, []api.Pair{zero, {A: api.P - 2}}), []api.Pair{one})
	same(t, "Add", poly.Add([]api.Pair{u, zero, {A: top}}, []api.Pair{u, zero, {A: api.P + 2 - 1<<32}}), []api.Pair{{B: 2}})
	// One part alone that gives 0 doesn't do.
	same(t, "Add", poly.Add([]api.Pair{{A: 5, B: 5}}, []api.Pair{{A: api.P - 5, B: 5}}), []api.Pair{{B: 10}})
	same(t, "Add", poly.Add([]api.Pair{{A: 5, B: 5}}, []api.Pair{{A: 5, B: api.P - 5}}), []api.Pair{{A: 10}})
}

// P5.1: multiples, by 0 too, however it is written.
func TestScale(t *testing.T) {
	for _, a := range lists() {
		for _, x := range append(edges(), ordinary(5, 5)...) {
			same(t, "Scale", poly.Scale(a, x), product(a, []api.Pair{x}), a, x)
		}
		for _, x := range noughts() {
			if got := poly.Scale(a, x); len(got) != 0 {
				t.Errorf("Scale of %v by 0: %v", a, got)
			}
		}
		same(t, "Scale", poly.Scale(a, one), trimmed(a), a, 1)
		same(t, "Scale", poly.Scale(a, api.Pair{A: api.P + 1, B: api.P}), trimmed(a), a, 1)
	}
	same(t, "Scale", poly.Scale([]api.Pair{{A: 1}, {A: 2, B: 3}, zero}, u), []api.Pair{u, {A: 21, B: 2}})
}

// P5.1: products, of none, of noughts and of one coefficient too.
func TestMul(t *testing.T) {
	for _, a := range lists() {
		for _, b := range lists() {
			same(t, "Mul", poly.Mul(a, b), product(a, b), a, b)
		}
		for _, b := range [][]api.Pair{nil, {}, {zero}, noughts()} {
			if len(poly.Mul(a, b)) != 0 || len(poly.Mul(b, a)) != 0 {
				t.Errorf("Mul of %v and %v: %v, %v", a, b, poly.Mul(a, b), poly.Mul(b, a))
			}
		}
		same(t, "Mul", poly.Mul(a, []api.Pair{one, zero}), trimmed(a), a, 1)
		same(t, "Mul", poly.Mul([]api.Pair{{A: api.P + 1}}, a), trimmed(a), 1, a)
		same(t, "Mul", poly.Mul(a, a), product(a, a), a, a)
	}
	same(t, "Mul", poly.Mul([]api.Pair{{A: 1}, {A: 2}}, []api.Pair{{A: 3}, {A: 5}, u}), []api.Pair{{A: 3}, {A: 11}, {A: 10, B: 1}, {B: 2}})
	// (1 - X)(1 + X) has nothing within.
	same(t, "Mul", poly.Mul([]api.Pair{one, {A: api.P - 1}}, []api.Pair{one, one}), []api.Pair{one, zero, {A: api.P - 1}})
}

// lineOf is X - x.
func lineOf(x api.Pair) []api.Pair { return []api.Pair{minus(x), one} }

// divided holds what Divide answers against what it is asked: the quotient times X - x, and what is left, are l again.
func divided(t *testing.T, l []api.Pair, x api.Pair) {
	t.Helper()
	q, r := poly.Divide(l, x)
	is(t, "what is left", r, at(l, x), l, x)
	same(t, "the quotient", q, trimmed(q), l, x)
	same(t, "both together", sum(product(q, lineOf(x)), []api.Pair{r}), trimmed(l), l, x)
	if want := max(len(trimmed(l))-1, 0); len(q) != want {
		t.Errorf("the quotient of %v by %v has %d coefficients, not %d", l, x, len(q), want)
	}
}

// P5.1: quotients and what is left, by points that are roots or not, as they are kept or not.
func TestDivide(t *testing.T) {
	for _, l := range lists() {
		for _, x := range append(edges(), ordinary(7, 5)...) {
			divided(t, l, x)
			for _, y := range noughts() {
				divided(t, append(slices.Clone(l), y, y), x)
			}
			// By a root nothing is left.
			whole := product(l, lineOf(x))
			q, r := poly.Divide(whole, x)
			same(t, "the quotient", q, trimmed(l), whole, x)
			is(t, "what is left", r, zero, whole, x)
		}
	}
}

// P5.1: of none there is none, and 0 is left; of one coefficient that is left, as it is kept.
func TestDivideFew(t *testing.T) {
	for _, x := range edges() {
		for _, l := range [][]api.Pair{nil, {}, {zero}, noughts()} {
			if q, r := poly.Divide(l, x); len(q) != 0 || r != zero {
				t.Errorf("Divide of %v by %v: %v, %v", l, x, q, r)
			}
		}
		for _, y := range edges() {
			for _, l := range [][]api.Pair{{y}, {y, zero}, {y, {A: api.P}, {B: api.P}}} {
				if q, r := poly.Divide(l, x); len(q) != 0 || r != kept(y) {
					t.Errorf("Divide of %v by %v: %v, %v", l, x, q, r)
				}
			}
		}
	}
}

// P5.1, the chapter's example, and others that are written out.
func TestDivideWritten(t *testing.T) {
	for _, l := range [][]api.Pair{
		{{A: 6}, {A: api.P - 5}, {A: 1}},
		{{A: 6}, {A: api.P - 5}, {A: 1}, {}},
		{{A: api.P + 6, B: api.P}, {A: api.P - 5}, {A: api.P + 1}, {A: api.P, B: api.P}},
	} {
		for _, x := range []api.Pair{{A: 2}, {A: api.P + 2}, {A: 2, B: api.P}} {
			q, r := poly.Divide(l, x)
			same(t, "6 - 5 X + X squared, by X - 2", q, []api.Pair{{A: api.P - 3}, one})
			is(t, "6 - 5 X + X squared, by X - 2", r, zero)
		}
		q, r := poly.Divide(l, api.Pair{A: 4})
		same(t, "6 - 5 X + X squared, by X - 4", q, []api.Pair{{A: api.P - 1}, one})
		is(t, "6 - 5 X + X squared, by X - 4", r, api.Pair{A: 2})
	}
	// X squared less 7 has the roots u and -u.
	q, r := poly.Divide([]api.Pair{{A: api.P - 7}, zero, one}, u)
	same(t, "X squared less 7, by X - u", q, []api.Pair{u, one})
	is(t, "X squared less 7, by X - u", r, zero)
	q, r = poly.Divide([]api.Pair{{A: 5}, u, one}, api.Pair{A: api.P})
	same(t, "5 + u X + X squared, by X", q, []api.Pair{u, one})
	is(t, "5 + u X + X squared, by X", r, api.Pair{A: 5})
}

// points are n of which no two are the same, nor the same as they are kept: some aren't as they are kept, one is zero.
func points(n int) []api.Pair {
	l := []api.Pair{{A: api.P + 3}, u, {A: api.P, B: api.P}, {A: 3, B: api.P + 1}, one, {A: top, B: top}, {A: api.P - 1}, {B: top}, {A: 1, B: 1}}
	return append(l, ordinary(11, n)...)[:n]
}

// through holds that what Through answers comes to ys at xs, and that no polynomial of a lower degree can.
func through(t *testing.T, xs, ys []api.Pair) {
	t.Helper()
	got, ok := poly.Through(xs, ys)
	if !ok {
		t.Fatalf("Through of %v and %v: none", xs, ys)
	}
	same(t, "Through", got, trimmed(got), xs, ys)
	// Of so few coefficients there is one such polynomial alone, so that it is the one of the least degree.
	if len(got) > len(xs) {
		t.Errorf("Through of %d points: %d coefficients", len(xs), len(got))
	}
	for i, x := range xs {
		is(t, "what Through comes to", at(got, x), kept(ys[i]), xs, ys, i)
	}
}

// P5.1: polynomials through none, one and many points.
func TestThrough(t *testing.T) {
	for n := range 14 {
		through(t, points(n), ordinary(13, n))
		through(t, points(n), edges()[:n])
		through(t, ordinary(17, n), edges()[:n])
		through(t, points(n), points(n))
		// The order of the points is nothing to the polynomial.
		xs, ys := points(n), ordinary(13, n)
		want, _ := poly.Through(xs, ys)
		slices.Reverse(xs)
		slices.Reverse(ys)
		got, ok := poly.Through(xs, ys)
		if !ok {
			t.Errorf("Through of %v and %v: none", xs, ys)
		}
		same(t, "Through", got, want, xs, ys)
	}
	through(t, points(60), ordinary(19, 60))
}

// P5.1: where a polynomial has fewer coefficients than there are points, it is told as it is, trimmed.
func TestThroughLess(t *testing.T) {
	for _, l := range lists() {
		for n := len(trimmed(l)); n < len(trimmed(l))+5; n++ {
			xs := points(n)
			ys := make([]api.Pair, n)
			for i, x := range xs {
				ys[i] = at(l, x)
			}
			got, ok := poly.Through(xs, ys)
			if !ok {
				t.Errorf("Through of %v and %v: none", xs, ys)
			}
			same(t, "Through", got, trimmed(l), xs, ys)
		}
	}
	for n := range 9 {
		for _, y := range noughts() {
			if got, ok := poly.Through(points(n), slices.Repeat([]api.Pair{y}, n)); !ok || len(got) != 0 {
				t.Errorf("Through %d noughts: %v, %v", n, got, ok)
			}
		}
	}
}

// P5.1: none, one and two points, written out.
func TestThroughFew(t *testing.T) {
	for _, xs := range [][]api.Pair{nil, {}} {
		for _, ys := range [][]api.Pair{nil, {}} {
			if got, ok := poly.Through(xs, ys); !ok || len(got) != 0 {
				t.Errorf("Through of none: %v, %v", got, ok)
			}
		}
	}
	for _, x := range edges() {
		for _, y := range edges() {
			got, ok := poly.Through([]api.Pair{x}, []api.Pair{y})
			if !ok {
				t.Errorf("Through of %v and %v: none", x, y)
			}
			same(t, "Through", got, trimmed([]api.Pair{y}), x, y)
		}
	}
	got, ok := poly.Through([]api.Pair{{A: 1}, {A: api.P + 2}}, []api.Pair{{A: 3}, {A: 5, B: api.P}})
	same(t, "3 at 1, 5 at 2", got, []api.Pair{{A: 1}, {A: 2}})
	got, also := poly.Through([]api.Pair{u, {A: 1}}, []api.Pair{{A: 7}, u})
	same(t, "7 at u, u at 1", got, []api.Pair{zero, u})
	if !ok || !also {
		t.Error("Through of two: none")
	}
}

// refused holds that there is no polynomial, and none is told.
func refused(t *testing.T, xs, ys []api.Pair) {
	t.Helper()
	if got, ok := poly.Through(xs, ys); ok || len(got) != 0 {
		t.Errorf("Through of %v and %v: %v, %v", xs, ys, got, ok)
	}
}

// P5.1: there is none of more values than points, or of fewer.
func TestThroughUnlike(t *testing.T) {
	for n := range 6 {
		for m := range 6 {
			if n != m {
				refused(t, points(n), edges()[:m])
				refused(t, points(n), make([]api.Pair, m))
			}
		}
	}
	refused(t, nil, []api.Pair{zero})
	refused(t, []api.Pair{one}, nil)
	refused(t, []api.Pair{one, one}, []api.Pair{u})
}

// P5.1: there is none, if two points are the same, also where they are so only as they are kept, whatever the values.
func TestThroughTwice(t *testing.T) {
	for n := 2; n < 8; n++ {
		for i := range n {
			for j := range i {
				for _, by := range noughts() {
					xs := points(n)
					xs[i], xs[j] = api.Pair{A: 4, B: 6}, api.Pair{A: 4 + by.A, B: 6 + by.B}
					refused(t, xs, ordinary(23, n))
					refused(t, xs, make([]api.Pair, n))
					refused(t, xs, xs)
					xs[i], xs[j] = zero, by
					refused(t, xs, ordinary(23, n))
				}
			}
		}
	}
	refused(t, []api.Pair{one, one}, []api.Pair{{A: 3}, {A: 5}})
	refused(t, []api.Pair{one, {A: api.P + 1}}, []api.Pair{{A: 3}, {A: 3}})
	refused(t, []api.Pair{u, {A: api.P, B: api.P + 1}}, []api.Pair{zero, zero})
	// One part alone that is the same doesn't do.
	through(t, []api.Pair{{A: 4, B: 6}, {A: 4, B: 7}, {A: 5, B: 6}, {A: 6, B: 4}}, ordinary(29, 4))
}

// P5.2: a product with X - x, and what is added, come apart again; a quotient times X - x, and what is left, come together.
func TestTogether(t *testing.T) {
	for _, l := range lists() {
		for _, x := range append(edges(), ordinary(31, 5)...) {
			line := []api.Pair{pair.Neg(x), one}
			for _, y := range edges() {
				q, r := poly.Divide(poly.Add(poly.Mul(l, line), []api.Pair{y}), x)
				same(t, "the quotient of a product", q, poly.Trim(l), l, x, y)
				is(t, "what is left of a product", r, kept(y), l, x, y)
			}
			q, r := poly.Divide(l, x)
			same(t, "the product of a quotient", poly.Add(poly.Mul(q, line), []api.Pair{r}), poly.Trim(l), l, x)
			is(t, "what is left", r, poly.At(l, x), l, x)
		}
	}
}

// P5.2: sums, products and multiples come to what their parts come to together.
func TestLaws(t *testing.T) {
	for _, a := range lists() {
		for _, b := range lists() {
			for _, x := range []api.Pair{zero, one, u, {A: top, B: api.P + 5}} {
				p, q := poly.At(a, x), poly.At(b, x)
				is(t, "a sum", poly.At(poly.Add(a, b), x), pair.Add(p, q), a, b, x)
				is(t, "a product", poly.At(poly.Mul(a, b), x), pair.Mul(p, q), a, b, x)
				is(t, "a multiple", poly.At(poly.Scale(a, x), x), pair.Mul(p, x), a, x)
			}
			same(t, "a b", poly.Mul(a, b), poly.Mul(b, a), a, b)
			same(t, "a + b", poly.Add(a, b), poly.Add(b, a), a, b)
		}
	}
}

// overwrite fills a list and the room behind it.
func overwrite[T any](l []T, x T) {
	l = l[:cap(l)]
	for i := range l {
		l[i] = x
	}
}

// calls are all that answer lists, of two lists that are handed in.
func calls(a, b []api.Pair) [][]api.Pair {
	q, _ := poly.Divide(a, u)
	l, _ := poly.Through(a, b)
	return [][]api.Pair{poly.Trim(a), poly.Add(a, b), poly.Scale(a, u), poly.Scale(a, one), poly.Mul(a, b), q, l}
}

// P5.1: what is handed in stays as it is, the room behind it too, and no answer shares any of it.
func TestKept(t *testing.T) {
	numbers := []uint64{top, 0, api.P, 5, 6}
	for n := range 7 {
		for m := range 7 {
			a, b := append(points(n), ordinary(37, 4)...), append(edges()[:m], ordinary(41, 4)...)
			wasA, wasB := slices.Clone(a), slices.Clone(b)
			for _, l := range calls(a[:n], b[:m]) {
				overwrite(l, api.Pair{A: 99})
			}
			for _, l := range calls(a[:n], a[:n]) {
				overwrite(l, api.Pair{A: 98})
			}
			poly.At(a[:n], u)
			poly.Degree(a[:n])
			if !slices.Equal(a, wasA) || !slices.Equal(b, wasB) {
				t.Fatalf("of %d and %d: what was handed in is another list now", n, m)
			}
		}
		overwrite(poly.Lift(numbers[:min(n, 3)]), api.Pair{A: 99})
	}
	if !slices.Equal(numbers, []uint64{top, 0, api.P, 5, 6}) {
		t.Fatalf("the numbers are now %v", numbers)
	}
}

// P5.1: sums with none, and multiples by 1, are new lists too.
func TestNotShared(t *testing.T) {
	for _, l := range [][]api.Pair{ordinary(43, 5), {one}, {one, zero}, {{A: 3}, {A: 1}}} {
		was := slices.Clone(l)
		q, _ := poly.Divide(l, zero)
		p, _ := poly.Through([]api.Pair{u}, l[:1])
		for _, got := range [][]api.Pair{
			poly.Trim(l), poly.Add(l, nil), poly.Add(nil, l), poly.Scale(l, one), poly.Mul(l, []api.Pair{one}), poly.Mul([]api.Pair{one}, l), q, p,
		} {
			overwrite(got, api.Pair{A: 99})
			if !slices.Equal(l, was) {
				t.Fatalf("an answer of %v shares its memory", was)
			}
		}
	}
}

// A call hangs on its arguments alone: an answer that is written over is kept nowhere.
func TestAgain(t *testing.T) {
	a, b := points(12), ordinary(47, 12)
	was := calls(a, b)
	for _, l := range calls(a, b) {
		overwrite(l, api.Pair{A: 99})
	}
	if !slices.EqualFunc(calls(a, b), was, slices.Equal) {
		t.Error("another answer, asked again")
	}
}

// Many goroutines may ask at once, and get what one alone gets.
func TestAtOnce(t *testing.T) {
	a, b := points(12), ordinary(47, 12)
	was, value := calls(a, b), poly.At(a, u)
	var wg sync.WaitGroup
	for range 8 {
		wg.Go(func() {
			if !slices.EqualFunc(calls(a, b), was, slices.Equal) || poly.At(a, u) != value || poly.Degree(a) != 11 {
				t.Error("another answer at once")
			}
		})
	}
	wg.Wait()
}
