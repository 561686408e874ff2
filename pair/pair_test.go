package pair_test

import (
	"math/big"
	"slices"
	"sync"
	"testing"

	"assayer/api"
	"assayer/pair"
	"assayer/prime"
)

const top = 1<<64 - 1

var (
	zero = api.Pair{}
	one  = api.Pair{A: 1}
	u    = api.Pair{B: 1}
)

// edges are the parts where words or the field begin and end, as kept or not.
func edges() []uint64 {
	return []uint64{0, 1, 7, 1<<32 - 1, 1 << 32, 1 << 48, 1 << 63, api.P - 2, api.P - 1, api.P, api.P + 1, top - 1, top}
}

// some are all pairs of edges, and n ordinary pairs, spread over all bits by a fixed rule.
func some(n int) []api.Pair {
	var l []api.Pair
	for _, a := range edges() {
		for _, b := range edges() {
			l = append(l, api.Pair{A: a, B: b})
		}
	}
	x := uint64(0x9e3779b97f4a7c15)
	next := func() uint64 {
		x ^= x << 13
		x ^= x >> 7
		x ^= x << 17
		return x
	}
	for range n {
		l = append(l, api.Pair{A: next(), B: next()})
	}
	return l
}

// few are pairs enough for laws of three: zero, one, u, one part 0, parts that aren't as they are kept, ordinary ones.
func few() []api.Pair {
	return []api.Pair{
		zero, one, u, {A: 3, B: 1}, {A: api.P - 1}, {B: api.P - 1}, {A: api.P}, {B: api.P}, {A: api.P, B: api.P},
		{A: api.P + 1, B: 5}, {A: 5, B: api.P + 1}, {A: top, B: top}, {A: api.P - 1, B: api.P - 1},
		{A: 0x123456789abcdef0, B: 0xfedcba9876543210}, {A: 1 << 48, B: 1 << 32},
	}
}

func wide(a uint64) *big.Int { return new(big.Int).SetUint64(a) }

// left is what x leaves modulo P, worked out by another means than the package's.
func left(x *big.Int) uint64 { return new(big.Int).Mod(x, wide(api.P)).Uint64() }

// kept is x with both parts as they are kept.
func kept(x api.Pair) api.Pair { return api.Pair{A: x.A % api.P, B: x.B % api.P} }

// times is x times y, worked out by another means than the package's.
func times(x, y api.Pair) api.Pair {
	a := new(big.Int).Mul(wide(x.B), wide(y.B))
	a.Mul(a, big.NewInt(7)).Add(a, new(big.Int).Mul(wide(x.A), wide(y.A)))
	b := new(big.Int).Mul(wide(x.A), wide(y.B))
	b.Add(b, new(big.Int).Mul(wide(x.B), wide(y.A)))
	return api.Pair{A: left(a), B: left(b)}
}

// power is x to the n by times alone, n of any size.
func power(x api.Pair, n *big.Int) api.Pair {
	out := one
	for i := n.BitLen() - 1; i >= 0; i-- {
		out = times(out, out)
		if n.Bit(i) == 1 {
			out = times(out, x)
		}
	}
	return out
}

func same(t *testing.T, what string, got, want api.Pair, of ...any) {
	t.Helper()
	if got != want {
		t.Errorf("%s of %v: %v, not %v", what, of, got, want)
	}
	if got.A >= api.P || got.B >= api.P {
		t.Errorf("%s of %v: %v isn't as it is kept", what, of, got)
	}
}

// P2.1: just the pairs both parts of which are below P are as they are kept.
func TestRight(t *testing.T) {
	for _, x := range some(50) {
		want := x.A < api.P && x.B < api.P
		if pair.Right(x) != want {
			t.Errorf("Right of %v isn't %v", x, want)
		}
	}
	for _, x := range []api.Pair{zero, one, u, {A: api.P - 1, B: api.P - 1}} {
		if !pair.Right(x) {
			t.Errorf("%v is as it is kept", x)
		}
	}
	for _, x := range []api.Pair{{A: api.P}, {B: api.P}, {A: api.P, B: api.P}, {A: top, B: 1}, {A: 1, B: top}} {
		if pair.Right(x) {
			t.Errorf("%v isn't as it is kept", x)
		}
	}
}

// P2.1: numbers as pairs.
func TestLift(t *testing.T) {
	for _, a := range edges() {
		same(t, "Lift", pair.Lift(a), api.Pair{A: a % api.P}, a)
	}
	same(t, "Lift", pair.Lift(api.P), zero, api.P)
	same(t, "Lift", pair.Lift(top), api.Pair{A: 1<<32 - 2}, uint64(top))
}

// P2.1: opposites and turns, and the norm, which is what a pair gives with its turn.
func TestOne(t *testing.T) {
	for _, x := range some(200) {
		a, b := wide(x.A), wide(x.B)
		minus := left(new(big.Int).Neg(b))
		same(t, "Neg", pair.Neg(x), api.Pair{A: left(new(big.Int).Neg(a)), B: minus}, x)
		same(t, "Turn", pair.Turn(x), api.Pair{A: left(a), B: minus}, x)
		n := new(big.Int).Mul(b, b)
		n.Mul(n, big.NewInt(-7)).Add(n, new(big.Int).Mul(a, a))
		same(t, "Norm", api.Pair{A: pair.Norm(x)}, api.Pair{A: left(n)}, x)
		same(t, "Norm", pair.Lift(pair.Norm(x)), pair.Mul(x, pair.Turn(x)), x)
	}
}

// P2.1: sums, differences and products, of pairs that are as they are kept or not, in each argument.
func TestTwo(t *testing.T) {
	l := some(40)
	for _, x := range l {
		for _, y := range l {
			sum := api.Pair{A: left(new(big.Int).Add(wide(x.A), wide(y.A))), B: left(new(big.Int).Add(wide(x.B), wide(y.B)))}
			less := api.Pair{A: left(new(big.Int).Sub(wide(x.A), wide(y.A))), B: left(new(big.Int).Sub(wide(x.B), wide(y.B)))}
			same(t, "Add", pair.Add(x, y), sum, x, y)
			same(t, "Sub", pair.Sub(x, y), less, x, y)
			same(t, "Mul", pair.Mul(x, y), times(x, y), x, y)
		}
	}
}

// P2.1: a pair times a number is what it is times the number's pair.
func TestScale(t *testing.T) {
	for _, x := range some(50) {
		for _, a := range append(edges(), 5, 0x123456789abcdef0) {
			same(t, "Scale", pair.Scale(x, a), times(x, api.Pair{A: a}), x, a)
			same(t, "Scale", pair.Scale(x, a), pair.Mul(x, pair.Lift(a)), x, a)
		}
	}
	same(t, "Scale", pair.Scale(api.Pair{A: 2, B: 3}, 5), api.Pair{A: 10, B: 15})
	same(t, "Scale", pair.Scale(api.Pair{A: 2, B: 3}, api.P), zero)
	same(t, "Scale", pair.Scale(api.Pair{A: 2, B: 3}, api.P+1), api.Pair{A: 2, B: 3})
}

// P2.1: answers written out.
func TestWritten(t *testing.T) {
	x, y := api.Pair{A: 2, B: 3}, api.Pair{A: 5, B: api.P - 1}
	same(t, "Add", pair.Add(x, y), api.Pair{A: 7, B: 2}, x, y)
	same(t, "Sub", pair.Sub(x, y), api.Pair{A: api.P - 3, B: 4}, x, y)
	same(t, "Mul", pair.Mul(x, y), api.Pair{A: api.P - 11, B: 13}, x, y)
	same(t, "Neg", pair.Neg(y), api.Pair{A: api.P - 5, B: 1}, y)
	same(t, "Turn", pair.Turn(x), api.Pair{A: 2, B: api.P - 3}, x)
	same(t, "Neg", pair.Neg(api.Pair{A: api.P, B: api.P}), zero)
	same(t, "Turn", pair.Turn(api.Pair{A: top, B: api.P}), api.Pair{A: 1<<32 - 2})
	same(t, "Mul", pair.Mul(api.Pair{A: api.P + 1}, u), u)
	same(t, "Mul", pair.Mul(u, api.Pair{A: api.P, B: api.P + 1}), api.Pair{A: 7})
	if n := pair.Norm(x); n != api.P-59 {
		t.Errorf("the norm of %v: %d", x, n)
	}
	if n := pair.Norm(api.Pair{A: api.P, B: api.P}); n != 0 {
		t.Errorf("the norm of zero: %d", n)
	}
	if n := pair.Norm(u); n != api.P-7 {
		t.Errorf("the norm of u: %d", n)
	}
}

// P2.1, the chapter's examples.
func TestExamples(t *testing.T) {
	same(t, "Mul", pair.Mul(u, u), api.Pair{A: 7}, u, u)
	if n := pair.Norm(api.Pair{A: 3, B: 1}); n != 2 {
		t.Errorf("the norm of 3 + u: %d", n)
	}
}

// P2.1: what gives 1 with a pair, and nothing for zero however it is written.
func TestInv(t *testing.T) {
	// Pairs but zero are P^2 - 1, so that a pair to the P^2 - 2 gives 1 with it.
	n := new(big.Int).Mul(wide(api.P), wide(api.P))
	n.Sub(n, big.NewInt(2))
	for _, x := range some(100) {
		got, ok := pair.Inv(x)
		if kept(x) == zero {
			if ok {
				t.Errorf("Inv of %v: %v", x, got)
			}
			same(t, "Inv", got, zero, x)
			continue
		}
		if !ok {
			t.Errorf("Inv of %v: none", x)
		}
		same(t, "Inv", got, power(x, n), x)
		same(t, "Mul", pair.Mul(x, got), one, x)
	}
	for _, x := range []api.Pair{zero, {A: api.P}, {B: api.P}, {A: api.P, B: api.P}} {
		if got, ok := pair.Inv(x); ok || got != zero {
			t.Errorf("Inv of %v: %v, %v", x, got, ok)
		}
	}
	if got, ok := pair.Inv(api.Pair{A: 2}); !ok || got != (api.Pair{A: 9223372034707292161}) {
		t.Errorf("Inv of 2: %v, %v", got, ok)
	}
}

// P2.1: powers, also to the 0, of zero, and to what is P or more: that isn't taken modulo P.
func TestPow(t *testing.T) {
	for _, x := range some(10) {
		for _, n := range append(edges(), 2, 3, 10, 0xfedcba9876543210) {
			same(t, "Pow", pair.Pow(x, n), power(x, wide(n)), x, n)
		}
		same(t, "Pow", pair.Pow(x, 0), one, x, 0)
		same(t, "Pow", pair.Pow(x, 1), kept(x), x, 1)
		same(t, "Pow", pair.Pow(x, 2), pair.Mul(x, x), x, 2)
	}
	for _, x := range []api.Pair{zero, {A: api.P}, {B: api.P}, {A: api.P, B: api.P}} {
		same(t, "Pow", pair.Pow(x, 0), one, x, 0)
		same(t, "Pow", pair.Pow(x, 1), zero, x, 1)
		same(t, "Pow", pair.Pow(x, top), zero, x, uint64(top))
	}
	same(t, "Pow", pair.Pow(u, 2), api.Pair{A: 7}, u, 2)
	same(t, "Pow", pair.Pow(u, 3), api.Pair{B: 7}, u, 3)
	same(t, "Pow", pair.Pow(u, api.P-1), api.Pair{A: api.P - 1}, u, api.P-1)
	same(t, "Pow", pair.Pow(u, api.P), api.Pair{B: api.P - 1}, u, api.P)
	same(t, "Pow", pair.Pow(api.Pair{A: 2}, 96), api.Pair{A: api.P - 1}, 2, 96)
}

// P2.1: sums of many, of one and of none.
func TestSum(t *testing.T) {
	l := some(100)
	for n := range len(l) {
		a, b := new(big.Int), new(big.Int)
		for _, x := range l[len(l)-n:] {
			a.Add(a, wide(x.A))
			b.Add(b, wide(x.B))
		}
		same(t, "Sum", pair.Sum(l[len(l)-n:]...), api.Pair{A: left(a), B: left(b)}, n)
	}
	for _, x := range l {
		same(t, "Sum", pair.Sum(x), kept(x), x)
	}
	same(t, "Sum", pair.Sum(), zero)
	same(t, "Sum", pair.Sum([]api.Pair{}...), zero)
	same(t, "Sum", pair.Sum(u, u), api.Pair{B: 2}, u, u)
	same(t, "Sum", pair.Sum(one, u, api.Pair{A: top, B: api.P}), api.Pair{A: 1<<32 - 1, B: 1})
}

// P2.1: what is handed in stays as it is, and so does the room behind it.
func TestKept(t *testing.T) {
	whole := []api.Pair{{A: top, B: api.P}, {A: 5, B: 6}, {A: api.P + 1}, {B: 9}, {A: 7, B: top}}
	before := slices.Clone(whole)
	pair.Sum(whole[:3]...)
	if !slices.Equal(whole, before) {
		t.Errorf("the list is now %v", whole)
	}
}

// P2.2: the laws of a field of one and of two pairs.
func TestField(t *testing.T) {
	for _, x := range some(10) {
		same(t, "x + 0", pair.Add(x, zero), kept(x), x)
		same(t, "1 x", pair.Mul(one, x), kept(x), x)
		same(t, "x - x", pair.Add(x, pair.Neg(x)), zero, x)
		if y, ok := pair.Inv(x); ok {
			same(t, "x / x", pair.Mul(y, x), one, x)
			back, ok := pair.Inv(y)
			same(t, "Inv of Inv", back, kept(x), x)
			if !ok {
				t.Errorf("%v has no inverse", y)
			}
		} else if kept(x) != zero {
			t.Errorf("%v has no inverse", x)
		}
		for _, y := range few() {
			same(t, "y + x", pair.Add(y, x), pair.Add(x, y), x, y)
			same(t, "y x", pair.Mul(y, x), pair.Mul(x, y), x, y)
			same(t, "x - y + y", pair.Add(pair.Sub(x, y), y), kept(x), x, y)
			if (pair.Mul(x, y) == zero) != (kept(x) == zero || kept(y) == zero) {
				t.Errorf("%v times %v: %v", x, y, pair.Mul(x, y))
			}
		}
	}
}

// P2.2: the laws of a field of three pairs.
func TestThree(t *testing.T) {
	for _, x := range few() {
		for _, y := range few() {
			for _, z := range few() {
				same(t, "(x + y) + z", pair.Add(pair.Add(x, y), z), pair.Add(x, pair.Add(y, z)), x, y, z)
				same(t, "(x y) z", pair.Mul(pair.Mul(x, y), z), pair.Mul(x, pair.Mul(y, z)), x, y, z)
				same(t, "x (y + z)", pair.Mul(x, pair.Add(y, z)), pair.Add(pair.Mul(x, y), pair.Mul(x, z)), x, y, z)
			}
		}
	}
}

// P2.2: a turn is the power P, it goes through sums and products, and twice it is nothing.
func TestTurn(t *testing.T) {
	for _, x := range some(50) {
		same(t, "Pow", pair.Pow(x, api.P), pair.Turn(x), x, api.P)
		same(t, "Turn of Turn", pair.Turn(pair.Turn(x)), kept(x), x)
		for _, y := range few() {
			same(t, "Turn of x + y", pair.Turn(pair.Add(x, y)), pair.Add(pair.Turn(x), pair.Turn(y)), x, y)
			same(t, "Turn of x y", pair.Turn(pair.Mul(x, y)), pair.Mul(pair.Turn(x), pair.Turn(y)), x, y)
			same(t, "Norm of x y", pair.Lift(pair.Norm(pair.Mul(x, y))), pair.Lift(prime.Mul(pair.Norm(x), pair.Norm(y))), x, y)
		}
	}
}

// P2.2: the numbers are a field within: what is lifted goes with sums, products and inverses of layer 1.
func TestWithin(t *testing.T) {
	for _, a := range edges() {
		for _, b := range edges() {
			same(t, "a + b", pair.Add(pair.Lift(a), pair.Lift(b)), pair.Lift(prime.Add(a, b)), a, b)
			same(t, "a b", pair.Mul(pair.Lift(a), pair.Lift(b)), pair.Lift(prime.Mul(a, b)), a, b)
			same(t, "a to the b", pair.Pow(pair.Lift(a), b), pair.Lift(prime.Pow(a, b)), a, b)
		}
		n, has := prime.Inv(a)
		x, ok := pair.Inv(pair.Lift(a))
		same(t, "Inv", x, pair.Lift(n), a)
		if ok != has {
			t.Errorf("Inv of %d: %v", a, ok)
		}
	}
}

// Many goroutines may ask at once, and get what one alone gets.
func TestAtOnce(t *testing.T) {
	l := some(20)
	sum, pow := pair.Sum(l...), pair.Pow(l[len(l)-1], top)
	var wg sync.WaitGroup
	for range 8 {
		wg.Go(func() {
			if pair.Sum(l...) != sum || pair.Pow(l[len(l)-1], top) != pow {
				t.Error("another answer at once")
			}
		})
	}
	wg.Wait()
}
