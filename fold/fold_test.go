package fold_test

import (
	"math"
	"math/big"
	"slices"
	"sync"
	"testing"

	"assayer/api"
	"assayer/fold"
	"assayer/ntt"
	"assayer/pair"
	"assayer/poly"
	"assayer/prime"
)

const top = math.MaxUint64

func wide(a uint64) *big.Int { return new(big.Int).SetUint64(a) }

// modulo is the field's size as a number of no bound.
var modulo = wide(api.P)

// left is what x leaves modulo P, worked out by another means than the program's.
func left(x *big.Int) uint64 { return new(big.Int).Mod(x, modulo).Uint64() }

// kept is x with both parts as they are kept.
func kept(x api.Pair) api.Pair { return api.Pair{A: x.A % api.P, B: x.B % api.P} }

// whole is a pair with parts of no bound.
type whole struct{ a, b *big.Int }

func widened(x api.Pair) whole { return whole{wide(x.A), wide(x.B)} }

func (x whole) plus(y whole) whole {
	return whole{new(big.Int).Add(x.a, y.a), new(big.Int).Add(x.b, y.b)}
}

func (x whole) minus(y whole) whole {
	return whole{new(big.Int).Sub(x.a, y.a), new(big.Int).Sub(x.b, y.b)}
}

func (x whole) times(y whole) whole {
	a := new(big.Int).Mul(x.b, y.b)
	a.Mul(a, big.NewInt(7)).Add(a, new(big.Int).Mul(x.a, y.a))
	b := new(big.Int).Mul(x.a, y.b)
	return whole{a, b.Add(b, new(big.Int).Mul(x.b, y.a))}
}

// under is x divided by n, which doesn't leave 0.
func (x whole) under(n *big.Int) whole {
	per := new(big.Int).ModInverse(n, modulo)
	return whole{new(big.Int).Mul(x.a, per), new(big.Int).Mul(x.b, per)}
}

func (x whole) pair() api.Pair { return api.Pair{A: left(x.a), B: left(x.b)} }

// folded is what One is asked for, worked out by numbers of no bound.
func folded(a, b, by api.Pair, x uint64) api.Pair {
	p, q := widened(a), widened(b)
	odd := p.minus(q).under(new(big.Int).Lsh(wide(x), 1))
	return p.plus(q).under(big.NewInt(2)).plus(widened(by).times(odd)).pair()
}

// shift is what Shift is asked for: 7 to the 2^folds, as one power of a number of no bound.
func shift(folds int) uint64 {
	times := new(big.Int).Lsh(big.NewInt(1), uint(max(0, min(folds, 64))))
	return new(big.Int).Exp(big.NewInt(7), times, modulo).Uint64()
}

// order is the root of the order 2^m; 0, where there is none.
func order(m int) uint64 {
	if m < 0 || m > 32 {
		return 0
	}
	return new(big.Int).Exp(big.NewInt(7), new(big.Int).Rsh(wide(api.P-1), uint(m)), modulo).Uint64()
}

// point is what Point is asked for, by math/big; its 0 to the 0 is 1, as layer 1's is.
func point(m, folds, i int) uint64 {
	if i < 0 {
		return 0
	}
	power := new(big.Int).Exp(wide(order(m)), big.NewInt(int64(i)), modulo)
	return left(power.Mul(power, wide(shift(folds))))
}

// spread is a rule that gives ordinary numbers over all 64 bits, always the same ones.
func spread() func() uint64 {
	x := uint64(0x9e3779b97f4a7c15)
	return func() uint64 {
		x ^= x << 13
		x ^= x >> 7
		x ^= x << 17
		return x
	}
}

// edges are pairs where parts are 0, or where words or the field begin and end, as they are kept and not.
func edges() []api.Pair {
	return []api.Pair{
		{}, {A: 1}, {B: 1}, {A: top, B: api.P}, {A: api.P, B: top}, {A: api.P, B: api.P}, {A: api.P - 1}, {B: api.P - 1},
		{A: api.P - 1, B: api.P - 1}, {A: api.P + 1, B: api.P + 2}, {A: top, B: top}, {A: 7}, {A: 1<<32 - 1, B: 1 << 48}, {A: 1 << 63, B: 1 << 32},
	}
}

// pairs are n: edges first, then ordinary ones.
func pairs(n int) []api.Pair {
	l := edges()
	for next := spread(); len(l) < n; {
		l = append(l, api.Pair{A: next(), B: next()})
	}
	return l[:n]
}

// factors are some to fold by: of zeros, of one number alone, of both, as they are kept and not.
func factors() []api.Pair {
	return []api.Pair{
		{}, {A: api.P, B: api.P}, {A: 1}, {A: api.P + 1}, {A: 3}, {A: top, B: api.P}, {B: 1}, {B: top}, {A: api.P, B: 9},
		{A: 5, B: 6}, {A: api.P - 1, B: api.P + 4}, {A: top, B: top}, {A: 0x123456789abcdef, B: 0xfedcba9876543210},
	}
}

// xs are numbers that don't leave 0, as they are kept and not.
func xs() []uint64 {
	return []uint64{1, 2, 7, 49, 1<<32 - 1, 1 << 32, 1 << 48, 1 << 63, (api.P + 1) / 2, api.P - 2, api.P - 1, api.P + 1, api.P + 7, 0x123456789abcdef, top - 1, top}
}

// often are counts of folds: below 0, none, few, those about the most that count, and the ends.
func often() []int {
	return []int{math.MinInt, math.MinInt + 1, -1 << 32, -64, -2, -1, 0, 1, 2, 3, 4, 5, 6, 7, 16, 31, 32, 33, 47, 62, 63, 64, 65, 66, 96, 127, 128, 1 << 32, math.MaxInt - 1, math.MaxInt}
}

// one holds One against what it is asked.
func one(t *testing.T, a, b, by api.Pair, x uint64, want api.Pair) {
	t.Helper()
	if got, ok := fold.One(a, b, by, x); !ok || got != want {
		t.Errorf("One of %v and %v by %v at %d: %v, %v, not %v", a, b, by, x, got, ok, want)
	}
}

// P20.1: the chapter's example, and others that another program wrote.
func TestOneWritten(t *testing.T) {
	one(t, api.Pair{A: 5}, api.Pair{A: 1}, api.Pair{A: 3}, 2, api.Pair{A: 6})
	one(t, api.Pair{A: 5}, api.Pair{A: 1}, api.Pair{B: 3}, 2, api.Pair{A: 3, B: 3})
	one(t, api.Pair{A: 1, B: 2}, api.Pair{A: 3, B: 4}, api.Pair{A: 5, B: 6}, 7, api.Pair{A: 5270498305547024087, B: 7905747458320536139})
	one(t, api.Pair{A: top, B: api.P}, api.Pair{A: api.P, B: top}, api.Pair{A: api.P + 1, B: api.P + 2}, top, api.Pair{A: 9223372036854775801, B: 9223372036854775808})
	one(t, api.Pair{A: top, B: top}, api.Pair{A: top, B: top - 1}, api.Pair{A: top, B: top}, api.P+1, api.Pair{A: 19327352823, B: 9223372041149743101})
	one(t, api.Pair{B: 1}, api.Pair{B: api.P - 1}, api.Pair{B: 1}, api.P-1, api.Pair{A: api.P - 7})
	one(t, api.Pair{A: 1 << 63, B: 3}, api.Pair{A: 9, B: 1 << 48}, api.Pair{A: 0x123456789abcdef, B: 0xfedcba9876543210}, 0x0f1e2d3c4b5a6978, api.Pair{A: 11698547891793444329, B: 11976289763019598789})
}

// P20.1: of edges and ordinary values alike, by all kinds of pairs, at all kinds of numbers.
func TestOne(t *testing.T) {
	l := pairs(18)
	for _, a := range l {
		for _, b := range l {
			for _, by := range factors() {
				for _, x := range xs() {
					one(t, a, b, by, x, folded(a, b, by, x))
				}
			}
		}
	}
}

// P20.1: of an x that leaves 0 there is none, whatever else.
func TestOneNought(t *testing.T) {
	l := pairs(30)
	for i, a := range l {
		for _, b := range []api.Pair{a, l[len(l)-1-i], pair.Neg(a), {}} {
			for _, by := range factors() {
				for _, x := range []uint64{0, api.P} {
					if got, ok := fold.One(a, b, by, x); ok || got != (api.Pair{}) {
						t.Errorf("One of %v and %v by %v at %d: %v, %v", a, b, by, x, got, ok)
					}
				}
			}
		}
	}
}

// P20.1: values that are the same fold to that value, as it is kept, by whatever pair; by zero any fold to half of both.
func TestOneSame(t *testing.T) {
	l := pairs(30)
	for i, a := range l {
		b := l[len(l)-1-i]
		for _, x := range xs() {
			for _, by := range factors() {
				one(t, a, a, by, x, kept(a))
				one(t, a, kept(a), by, x, kept(a))
				one(t, kept(a), a, by, x, kept(a))
			}
			for _, by := range []api.Pair{{}, {A: api.P}, {B: api.P}, {A: api.P, B: api.P}} {
				one(t, a, b, by, x, widened(a).plus(widened(b)).under(big.NewInt(2)).pair())
			}
		}
	}
}

// P20.1: a value and its opposite fold to that value divided by x, as often as the pair says.
func TestOneOpposite(t *testing.T) {
	for _, a := range pairs(30) {
		for _, x := range xs() {
			for _, by := range factors() {
				want := widened(by).times(widened(a)).under(wide(x)).pair()
				one(t, a, pair.Neg(a), by, x, want)
				one(t, pair.Neg(a), a, by, x, pair.Neg(want))
				one(t, a, pair.Neg(a), pair.Neg(by), x, pair.Neg(want))
			}
		}
	}
}

// P20.1: it counts what all leave modulo P, however they are written; and at the opposite number, with both values put the other way round, it is the same.
func TestOneWays(t *testing.T) {
	l := pairs(30)
	for i, a := range l {
		b := l[len(l)-1-i]
		for _, x := range xs() {
			for _, by := range factors() {
				want, _ := fold.One(a, b, by, x)
				one(t, kept(a), b, by, x, want)
				one(t, a, kept(b), by, x, want)
				one(t, a, b, kept(by), x, want)
				one(t, a, b, by, x%api.P, want)
				one(t, b, a, by, api.P-x%api.P, want)
				if !pair.Right(want) {
					t.Errorf("One of %v and %v by %v at %d: %v isn't as it is kept", a, b, by, x, want)
				}
			}
		}
	}
}

// P20.1: shifts that another program wrote; 64 squarings at most, and none below 1.
func TestShiftWritten(t *testing.T) {
	for _, x := range []struct {
		folds int
		want  uint64
	}{
		{math.MinInt, 7}, {-1, 7}, {0, 7}, {1, 49}, {2, 2401}, {3, 5764801}, {4, 33232930569601}, {5, 3732854072722565977}, {6, 11250886851934520606},
		{31, 17380019310548783236}, {32, 12275445934081160404}, {33, 4756475762779100925}, {62, 8050641074587903850}, {63, 1066724758865801085},
		{64, 12275445934081160404}, {65, 12275445934081160404}, {66, 12275445934081160404}, {math.MaxInt, 12275445934081160404},
	} {
		if got := fold.Shift(x.folds); got != x.want {
			t.Errorf("Shift of %d: %d, not %d", x.folds, got, x.want)
		}
	}
}

// P20.1: shifts of each count about 0 and about 64, and of the ends of int.
func TestShift(t *testing.T) {
	counts := often()
	for folds := -70; folds <= 200; folds++ {
		counts = append(counts, folds)
	}
	for _, folds := range counts {
		got := fold.Shift(folds)
		if got != shift(folds) {
			t.Errorf("Shift of %d: %d, not %d", folds, got, shift(folds))
		}
		if folds < 1 && got != 7 || folds > 63 && got != fold.Shift(64) {
			t.Errorf("Shift of %d: %d", folds, got)
		}
		if folds >= 0 && folds < 64 && fold.Shift(folds+1) != prime.Mul(got, got) {
			t.Errorf("Shift of %d isn't that of %d squared", folds+1, folds)
		}
	}
}

// P20.1: places that another program wrote.
func TestPointWritten(t *testing.T) {
	for _, x := range []struct {
		m, folds, i int
		want        uint64
	}{
		{0, 0, 0, 7}, {0, 1, 5, 49}, {1, 0, 1, api.P - 7}, {1, 1, 1, api.P - 49}, {1, 0, -1, 0},
		{2, 0, 1, 7 << 48}, {2, 0, 2, api.P - 7}, {2, 0, 3, api.P - 7<<48}, {2, 0, 4, 7}, {2, 0, 5, 7 << 48},
		{20, 0, 1, 6131448164135949306}, {20, 0, 1 << 19, api.P - 7}, {20, 64, 1<<20 - 1, 4920786584468486139}, {20, 3, 1 << 20, 5764801},
		{32, 0, 1, 12275445934081160404}, {32, 1, 1 << 31, api.P - 49}, {32, 65, 1<<32 - 1, 7}, {32, 63, math.MaxInt, 15261824547117485976},
		{5, -1, math.MaxInt, 18446744069412749313}, {-1, 0, 1, 0}, {33, 0, 1, 0}, {-1, 0, 0, 7}, {33, 2, 0, 2401},
	} {
		if got := fold.Point(x.m, x.folds, x.i); got != x.want {
			t.Errorf("Point of 2^%d, folded %d times, at %d: %d, not %d", x.m, x.folds, x.i, got, x.want)
		}
	}
}

// places are some of 2^m, and some that are none: below 0, behind the last one, and the ends of int.
func places(m int) []int {
	n := 1 << min(62, max(0, m))
	return []int{
		math.MinInt, math.MinInt + 1, -1 << 32, -n - 1, -n, -2, -1,
		0, 1, 2, 3, n / 3, n/2 - 1, n / 2, n/2 + 1, n - n/7, n - 2, n - 1,
		n, n + 1, n + n/2, n + n/2 + 1, 1<<32 - 1, 1 << 32, 1<<32 + 1, 1 << 62, math.MaxInt - 1, math.MaxInt,
	}
}

// P20.1: places of each m, with those that there aren't, after each count of folds; the ends of int too.
func TestPoint(t *testing.T) {
	ms := []int{math.MinInt, math.MinInt + 1, -1 << 32, -64, -32, -2, 63, 64, 65, 96, 1 << 32, 1<<32 + 5, math.MaxInt - 1, math.MaxInt}
	for m := -1; m <= 34; m++ {
		ms = append(ms, m)
	}
	for _, m := range ms {
		for _, folds := range often() {
			for _, i := range places(m) {
				if got, want := fold.Point(m, folds, i), point(m, folds, i); got != want {
					t.Errorf("Point of 2^%d, folded %d times, at %d: %d, not %d", m, folds, i, got, want)
				}
			}
		}
	}
}

// P20.1: of an i below 0 there is 0, of an m without a root too, but at 0, where the power is 1.
func TestPointNone(t *testing.T) {
	for _, folds := range often() {
		for _, i := range []int{math.MinInt, -1 << 32, -2, -1} {
			for m := -2; m <= 35; m++ {
				if got := fold.Point(m, folds, i); got != 0 {
					t.Errorf("Point of 2^%d, folded %d times, at %d: %d", m, folds, i, got)
				}
			}
		}
		for _, m := range []int{math.MinInt, -1, 33, 64, math.MaxInt} {
			for _, i := range []int{1, 2, 1 << 32, math.MaxInt} {
				if got := fold.Point(m, folds, i); got != 0 {
					t.Errorf("Point of 2^%d, folded %d times, at %d: %d", m, folds, i, got)
				}
			}
			if got := fold.Point(m, folds, 0); got != shift(folds) {
				t.Errorf("Point of 2^%d, folded %d times, at 0: %d", m, folds, got)
			}
		}
	}
}

// What follows of P20.1: half way round is the opposite number, all the way round the same one, and squares are the places of the folded word.
func TestPointRound(t *testing.T) {
	for m := 1; m <= 32; m++ {
		for folds := range 64 {
			for _, i := range []int{0, 1, 2, 1<<m - 1, 1 << (m - 1), 1<<m - 1<<m/3} {
				x := fold.Point(m, folds, i)
				if x == 0 || !prime.Right(x) || fold.Point(m, folds, i+1<<(m-1)) != api.P-x || fold.Point(m, folds, i+1<<m) != x {
					t.Errorf("of 2^%d, folded %d times, at %d: %d", m, folds, i, x)
				}
				if got := fold.Point(m-1, folds+1, i); got != prime.Mul(x, x) {
					t.Errorf("of 2^%d, folded %d times, at %d: %d isn't %d squared", m-1, folds+1, i, got, x)
				}
			}
		}
	}
}

// same holds a word that was folded against the one that is asked.
func same(t *testing.T, what string, got []api.Pair, ok bool, want []api.Pair) {
	t.Helper()
	if !ok || len(got) != len(want) {
		t.Errorf("%s: %d values, %v, not %d values", what, len(got), ok, len(want))
		return
	}
	for i, x := range want {
		if got[i] != x {
			t.Errorf("%s, at %d: %v, not %v", what, i, got[i], x)
			return
		}
	}
}

// none holds that beside false there is nothing.
func none(t *testing.T, n, folds int, got []api.Pair, ok bool) {
	t.Helper()
	if ok || len(got) != 0 {
		t.Errorf("Word of %d values, folded %d times: %d values, %v", n, folds, len(got), ok)
	}
}

// P20.2: words that another program folded.
func TestWordWritten(t *testing.T) {
	few := []api.Pair{{A: 1, B: 2}, {A: 3, B: 4}, {A: 5, B: 6}, {A: 7, B: 8}}
	more := []api.Pair{{A: top, B: api.P}, {A: api.P, B: top}, {A: top, B: top}, {}, {A: api.P - 1, B: 1}, {A: 1, B: api.P - 1}, {A: api.P + 2, B: api.P + 3}, {A: 1 << 63, B: 1 << 32}}
	for _, x := range []struct {
		l     []api.Pair
		by    api.Pair
		folds int
		want  []api.Pair
	}{
		{[]api.Pair{{A: 4}, {A: 4}}, api.Pair{B: 9}, 0, []api.Pair{{A: 4}}},
		{[]api.Pair{{A: 1}, {A: 2}}, api.Pair{A: 3}, 0, []api.Pair{{A: 5270498305547024093}}},
		{few, api.Pair{A: 9, B: 10}, 0, []api.Pair{{A: 7905747458320536118, B: 10540996611094048182}, {A: 10547349903425517281, B: 7907275465336965419}}},
		{few, api.Pair{A: 9, B: 10}, 1, []api.Pair{{A: 11670389105139839060, B: 6776354964274745264}, {A: 9412511730238467182, B: 9035358239082959774}}},
		{few, api.Pair{A: 9, B: 10}, 64, []api.Pair{{A: 15103607114692452314, B: 3632513103533627775}, {A: 15385138212807037935, B: 16075886857244388483}}},
		{more, api.Pair{A: top, B: api.P + 5}, 2, []api.Pair{{A: 1640308148259819667, B: 8627944019142510674}, {A: 1102502189012516032, B: 11274717586348599530}, {A: 7321851947139359065, B: 16575948364751326174}, {A: 6385935456551552839, B: 2128152465301311541}}},
	} {
		got, ok := fold.Word(x.l, x.by, x.folds)
		same(t, "Word", got, ok, x.want)
	}
}

// P20.2: half as many values, each as it is asked, of small words, after each count of folds, by all kinds of pairs.
func TestWord(t *testing.T) {
	for m := 1; m <= 6; m++ {
		n := 1 << m
		l := pairs(n)
		for _, folds := range often() {
			for _, by := range factors() {
				want := make([]api.Pair, n/2)
				for i := range want {
					want[i] = folded(l[i], l[i+n/2], by, point(m, folds, i))
				}
				got, ok := fold.Word(l, by, folds)
				same(t, "Word", got, ok, want)
			}
		}
	}
}

// P20.2: each value is the one that One tells of both, at the place that Point tells.
func TestWordOnes(t *testing.T) {
	for m := 1; m <= 10; m++ {
		n := 1 << m
		l := pairs(n + 40)[40:]
		for _, folds := range often() {
			by := l[n/3]
			got, ok := fold.Word(l, by, folds)
			if !ok || len(got) != n/2 {
				t.Fatalf("Word of 2^%d values: %d, %v", m, len(got), ok)
			}
			for i, x := range got {
				one(t, l[i], l[i+n/2], by, fold.Point(m, folds, i), x)
			}
		}
	}
}

// P20.2: a word of one value all over folds to that, by zero to half of both.
func TestWordSame(t *testing.T) {
	for m := 1; m <= 8; m++ {
		for _, x := range pairs(20) {
			for _, by := range factors() {
				got, ok := fold.Word(slices.Repeat([]api.Pair{x}, 1<<m), by, m-2)
				same(t, "Word of the same", got, ok, slices.Repeat([]api.Pair{kept(x)}, 1<<(m-1)))
			}
		}
		l, want := pairs(1<<m), make([]api.Pair, 1<<(m-1))
		for i := range want {
			want[i] = widened(l[i]).plus(widened(l[i+len(want)])).under(big.NewInt(2)).pair()
		}
		for _, by := range []api.Pair{{}, {A: api.P, B: api.P}} {
			got, ok := fold.Word(l, by, m)
			same(t, "Word by zero", got, ok, want)
		}
	}
}

// P20.2: values and pairs count modulo P, however they are written.
func TestWordWays(t *testing.T) {
	for m := 1; m <= 5; m++ {
		l := pairs(1 << m)
		plain := make([]api.Pair, len(l))
		for i, x := range l {
			plain[i] = kept(x)
		}
		for _, by := range factors() {
			want, ok := fold.Word(plain, kept(by), 3)
			if !ok {
				t.Fatalf("Word of 2^%d values: none", m)
			}
			got, ok := fold.Word(l, by, 3)
			same(t, "Word", got, ok, want)
		}
	}
}

// P20.2: none and false of no values, of one, of as many as no power of two, of more than 2^20, whatever else.
func TestWordNone(t *testing.T) {
	all := make([]api.Pair, 1<<22)
	copy(all, pairs(1000))
	many := []int{0, 1, 63, 65, 1000, 1<<10 - 1, 1<<10 + 1, 1<<19 + 1, 3 << 18, 1<<20 - 1, 1<<20 + 1, 1<<20 + 1<<19, 1<<21 - 1, 1 << 21, 1<<21 + 1, 1 << 22}
	for n := range 40 {
		if n&(n-1) != 0 {
			many = append(many, n)
		}
	}
	for _, folds := range often() {
		for _, by := range []api.Pair{{}, {A: 3}, {A: top, B: top}} {
			for _, n := range many {
				got, ok := fold.Word(all[:n], by, folds)
				none(t, n, folds, got, ok)
			}
			for _, l := range [][]api.Pair{nil, {}} {
				got, ok := fold.Word(l, by, folds)
				none(t, 0, folds, got, ok)
			}
		}
	}
}

// P20.2: the most values that there may be, each of them as One tells it, and half as many.
func TestWordMost(t *testing.T) {
	l := pairs(1 << 20)
	for _, m := range []int{19, 20} {
		n, by, folds := 1<<m, api.Pair{A: 0x123456789abcdef, B: top}, 20-m
		got, ok := fold.Word(l[:n], by, folds)
		if !ok || len(got) != n/2 {
			t.Fatalf("Word of 2^%d values: %d, %v", m, len(got), ok)
		}
		for _, i := range []int{0, 1, 2, n / 3, n/2 - 2, n/2 - 1} {
			if want := folded(l[i], l[i+n/2], by, point(m, folds, i)); got[i] != want {
				t.Errorf("Word of 2^%d values, at %d: %v, not %v", m, i, got[i], want)
			}
		}
		x, step := point(m, folds, 0), order(m)
		for i, y := range got {
			// Twice x times what is told, so that no inverse is asked for here.
			sum := pair.Scale(pair.Add(l[i], l[i+n/2]), x)
			want := pair.Add(sum, pair.Mul(by, pair.Sub(l[i], l[i+n/2])))
			if pair.Scale(y, prime.Mul(2, x)) != want || !pair.Right(y) {
				t.Fatalf("Word of 2^%d values, at %d: %v", m, i, y)
			}
			x = prime.Mul(x, step)
		}
	}
}

// halves are a polynomial's even coefficients, and by times the odd ones, put together.
func halves(l []api.Pair, by api.Pair) []api.Pair {
	out := make([]api.Pair, (len(l)+1)/2)
	for i, x := range l {
		if i%2 == 1 {
			x = pair.Mul(by, x)
		}
		out[i/2] = pair.Add(out[i/2], x)
	}
	return out
}

// word is what a polynomial comes to at all places, one by one.
func word(l []api.Pair, m, folds int) []api.Pair {
	out := make([]api.Pair, 1<<m)
	for i := range out {
		out[i] = poly.At(l, pair.Lift(point(m, folds, i)))
	}
	return out
}

// P20.3: a polynomial's word folds to that of its even coefficients and by times the odd ones, of any length, once more coefficients than places too.
func TestPolynomial(t *testing.T) {
	for m := 1; m <= 5; m++ {
		for _, n := range []int{0, 1, 2, 3, 4, 7, 8, 1<<m - 1, 1 << m, 1<<m + 3} {
			l := pairs(n + 3)[3:]
			for _, folds := range []int{-1, 0, 1, 2, 5, 31, 32, 62, 63} {
				for _, by := range factors() {
					got, ok := fold.Word(word(l, m, folds), by, folds)
					same(t, "a polynomial's word", got, ok, word(halves(l, by), m-1, max(0, folds)+1))
				}
			}
		}
	}
}

// P20.3: likewise of great ones by layer 4, folded again and again, till one value is there.
func TestPolynomialDown(t *testing.T) {
	for _, k := range []int{1, 3, 8, 12, 16} {
		for blow := range 4 {
			l := pairs(1 << k)
			got, _ := ntt.ForthPairs(l, 7, k+blow)
			for folds := range k + blow {
				by, ok := pairs(100)[20+folds], false
				got, ok = fold.Word(got, by, folds)
				l = halves(l, by)
				want, _ := ntt.ForthPairs(l, shift(folds+1), k+blow-folds-1)
				same(t, "folded again", got, ok, want)
			}
			if len(got) != 1 || len(l) != 1 || got[0] != l[0] {
				t.Errorf("of 2^%d coefficients and 2^%d values: %v and %v in the end", k, k+blow, l, got)
			}
		}
	}
}

// P20.3: 1 + 2 X, by 3, is 7 everywhere; X alone folds to what it is folded by, X squared to X.
func TestPolynomialWritten(t *testing.T) {
	for m := 1; m <= 7; m++ {
		for folds := range 60 {
			got, ok := fold.Word(word([]api.Pair{{A: 1}, {A: 2}}, m, folds), api.Pair{A: 3}, folds)
			same(t, "1 + 2 X", got, ok, slices.Repeat([]api.Pair{{A: 7}}, 1<<(m-1)))
			got, ok = fold.Word(word([]api.Pair{{}, {A: 1}}, m, folds), api.Pair{A: 4, B: 5}, folds)
			same(t, "X", got, ok, slices.Repeat([]api.Pair{{A: 4, B: 5}}, 1<<(m-1)))
			got, ok = fold.Word(word([]api.Pair{{}, {}, {A: 1}}, m, folds), api.Pair{A: 4, B: 5}, folds)
			same(t, "X squared", got, ok, word([]api.Pair{{}, {A: 1}}, m-1, folds+1))
		}
	}
}

// overwrite fills a list and the room behind it.
func overwrite(l []api.Pair) {
	l = l[:cap(l)]
	for i := range l {
		l[i] = api.Pair{A: 99, B: 98}
	}
}

// P20.2: what is handed in stays as it is, the room behind it too, and the answer shares none of it.
func TestKept(t *testing.T) {
	l := pairs(200)
	was := slices.Clone(l)
	for n := range 130 {
		for _, folds := range []int{-1, 0, 1, 64} {
			for _, by := range []api.Pair{{}, {A: 3}, {A: top, B: api.P}} {
				got, ok := fold.Word(l[:n], by, folds)
				if !slices.Equal(l, was) {
					t.Fatalf("Word of %d values: what was handed in is another list now", n)
				}
				room, fine := fold.Word(slices.Clip(slices.Clone(l[:n])), by, folds)
				if ok != fine || !slices.Equal(got, room) {
					t.Fatalf("Word of %d values hangs on the room behind them", n)
				}
				overwrite(got)
				if !slices.Equal(l, was) {
					t.Fatalf("Word of %d values: the answer shares what was handed in", n)
				}
			}
		}
	}
}

// answers are some of each call.
func answers(l []api.Pair) ([]api.Pair, []uint64) {
	var out []api.Pair
	var numbers []uint64
	for m := range 7 {
		for _, folds := range []int{-1, 0, 3, 70} {
			x, _ := fold.One(l[m], l[m+1], l[m+2], uint64(m))
			w, _ := fold.Word(l[:1<<m], l[m+3], folds)
			out = append(append(out, x), w...)
			numbers = append(numbers, fold.Shift(folds+m), fold.Point(m, folds, m))
		}
	}
	return out, numbers
}

// A call hangs on its arguments alone: an answer that is written over is kept nowhere.
func TestAgain(t *testing.T) {
	l := pairs(64)
	first, _ := fold.Word(l, l[3], 1)
	was := slices.Clone(first)
	second, _ := fold.Word(pairs(65)[1:], l[5], 2)
	if !slices.Equal(first, was) {
		t.Error("a later call changed an answer")
	}
	overwrite(first)
	overwrite(second)
	again, _ := fold.Word(l, l[3], 1)
	if !slices.Equal(again, was) {
		t.Error("another answer, asked again")
	}
}

// Many goroutines may ask at once, of the same list, and get what one alone gets.
func TestAtOnce(t *testing.T) {
	l := pairs(64)
	want, wantNumbers := answers(l)
	var wg sync.WaitGroup
	for range 8 {
		wg.Go(func() {
			for range 20 {
				if got, numbers := answers(l); !slices.Equal(got, want) || !slices.Equal(numbers, wantNumbers) {
					t.Error("another answer at once")
				}
			}
		})
	}
	wg.Wait()
}
