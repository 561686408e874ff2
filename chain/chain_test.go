package chain_test

import (
	"math"
	"math/big"
	"slices"
	"sync"
	"testing"

	"assayer/api"
	"assayer/chain"
	"assayer/fold"
	"assayer/ntt"
	"assayer/pair"
	"assayer/poly"
)

const top = math.MaxUint64

func wide(a uint64) *big.Int { return new(big.Int).SetUint64(a) }

// modulo is the field's size as a number of no bound.
var modulo = wide(api.P)

// left is what x leaves modulo P, worked out by another means than the program's.
func left(x *big.Int) uint64 { return new(big.Int).Mod(x, modulo).Uint64() }

// kept is x with both parts as they are kept.
func kept(x api.Pair) api.Pair { return api.Pair{A: x.A % api.P, B: x.B % api.P} }

// keptAll is a list of pairs as they are kept.
func keptAll(l []api.Pair) []api.Pair {
	out := make([]api.Pair, len(l))
	for i, x := range l {
		out[i] = kept(x)
	}
	return out
}

// power is a to the n, modulo P.
func power(a, n *big.Int) *big.Int { return new(big.Int).Exp(a, n, modulo) }

// under is what gives 1 with x, modulo P.
func under(x *big.Int) *big.Int { return new(big.Int).ModInverse(x, modulo) }

// place is the place i of a word of 2^m values that was folded so often.
func place(m, folds, i int) *big.Int {
	squared := new(big.Int).Lsh(big.NewInt(1), uint(max(0, min(folds, 64))))
	order := power(big.NewInt(7), new(big.Int).Rsh(wide(api.P-1), uint(m)))
	x := power(order, big.NewInt(int64(i)))
	return x.Mul(x, power(big.NewInt(7), squared)).Mod(x, modulo)
}

// log is which power of two n is.
func log(n int) int {
	m := 0
	for 1<<m < n {
		m++
	}
	return m
}

// folded is what a and b, half way round, fold to by a pair, worked out by numbers of no bound.
func folded(a, b, by api.Pair, x *big.Int) api.Pair {
	part := func(p, q uint64) (*big.Int, *big.Int) {
		even := new(big.Int).Add(wide(p), wide(q))
		odd := new(big.Int).Sub(wide(p), wide(q))
		half := under(big.NewInt(2))
		return even.Mul(even, half), odd.Mul(odd, half).Mul(odd, under(x))
	}
	evenA, oddA := part(a.A, b.A)
	evenB, oddB := part(a.B, b.B)
	outA := new(big.Int).Mul(wide(by.B), oddB)
	outA.Mul(outA, big.NewInt(7)).Add(outA, new(big.Int).Mul(wide(by.A), oddA)).Add(outA, evenA)
	outB := new(big.Int).Mul(wide(by.A), oddB)
	outB.Add(outB, new(big.Int).Mul(wide(by.B), oddA)).Add(outB, evenB)
	return api.Pair{A: left(outA), B: left(outB)}
}

// half is the word of half as many values, worked out by numbers of no bound.
func half(l []api.Pair, by api.Pair, folds int) []api.Pair {
	out := make([]api.Pair, len(l)/2)
	for i := range out {
		out[i] = folded(l[i], l[i+len(out)], by, place(log(len(l)), folds, i))
	}
	return out
}

// down is l, and what it is folded to one by one.
func down(l, by []api.Pair) [][]api.Pair {
	out := [][]api.Pair{l}
	for folds, x := range by {
		out = append(out, half(out[folds], x, folds))
	}
	return out
}

// back are the coefficients that come to l, worked out as sums of numbers of no bound.
func back(l []api.Pair, folds int) []api.Pair {
	out := make([]api.Pair, len(l))
	m := log(len(l))
	for j := range out {
		a, b := new(big.Int), new(big.Int)
		for i, x := range l {
			per := under(power(place(m, folds, i), big.NewInt(int64(j))))
			a.Add(a, new(big.Int).Mul(wide(x.A), per))
			b.Add(b, new(big.Int).Mul(wide(x.B), per))
		}
		many := under(big.NewInt(int64(len(l))))
		out[j] = api.Pair{A: left(a.Mul(a, many)), B: left(b.Mul(b, many))}
	}
	return out
}

// word is what a polynomial comes to at all places, one by one.
func word(l []api.Pair, m, folds int) []api.Pair {
	out := make([]api.Pair, 1<<m)
	for i := range out {
		out[i] = poly.At(l, pair.Lift(place(m, folds, i).Uint64()))
	}
	return out
}

// halves are a polynomial's even coefficients, and by times the odd ones, put together.
func halves(l []api.Pair, by api.Pair) []api.Pair {
	out := make([]api.Pair, (len(l)+1)/2)
	for i, x := range l {
		if i%2 == 1 {
			x = pair.Mul(by, x)
		}
		out[i/2] = pair.Add(out[i/2], x)
	}
	return out
}

// spread is a rule that gives ordinary numbers over all 64 bits, always the same ones.
func spread() func() uint64 {
	x := uint64(0x9e3779b97f4a7c15)
	return func() uint64 {
		x ^= x << 13
		x ^= x >> 7
		x ^= x << 17
		return x
	}
}

// edges are pairs where parts are 0, or where words or the field begin and end, as they are kept and not.
func edges() []api.Pair {
	return []api.Pair{
		{}, {A: 1}, {B: 1}, {A: top, B: api.P}, {A: api.P, B: top}, {A: api.P, B: api.P}, {A: api.P - 1}, {B: api.P - 1},
		{A: api.P - 1, B: api.P - 1}, {A: api.P + 1, B: api.P + 2}, {A: top, B: top}, {A: 7}, {A: 1<<32 - 1, B: 1 << 48}, {A: 1 << 63, B: 1 << 32},
	}
}

// pairs are n: edges first, then ordinary ones.
func pairs(n int) []api.Pair {
	l := edges()
	for next := spread(); len(l) < n; {
		l = append(l, api.Pair{A: next(), B: next()})
	}
	return l[:n]
}

// factors are lists of n to fold by: ordinary ones, edges, zeros as they are kept and not, numbers that are not as they are kept.
func factors(n int) [][]api.Pair {
	out := [][]api.Pair{pairs(n + 20)[20:], pairs(n + 9)[9:], pairs(n)}
	for _, x := range []api.Pair{{}, {A: api.P, B: api.P}, {A: api.P, B: top}, {A: 3}, {B: 1}, {A: api.P + 3}, {A: top, B: top}, {A: top, B: api.P + 1}} {
		out = append(out, slices.Repeat([]api.Pair{x}, n))
	}
	return out
}

// often are counts of folds: below 0, none, few, those about the most that count, and the ends.
func often() []int {
	return []int{math.MinInt, math.MinInt + 1, -1 << 32, -64, -2, -1, 0, 1, 2, 3, 5, 16, 31, 32, 33, 62, 63, 64, 65, 66, 128, 1 << 32, math.MaxInt - 1, math.MaxInt}
}

// same holds a list against the one that is asked.
func same(t *testing.T, what string, got, want []api.Pair) {
	t.Helper()
	if len(got) != len(want) {
		t.Errorf("%s: %d pairs, not %d", what, len(got), len(want))
		return
	}
	for i, x := range want {
		if got[i] != x {
			t.Errorf("%s, at %d: %v, not %v", what, i, got[i], x)
			return
		}
	}
}

// words holds Words against what it is asked.
func words(t *testing.T, l, by []api.Pair, want [][]api.Pair) {
	t.Helper()
	got, ok := chain.Words(l, by)
	if !ok || len(got) != len(want) {
		t.Errorf("Words of %d values by %d: %d lists, %v, not %d", len(l), len(by), len(got), ok, len(want))
		return
	}
	for i, x := range want {
		same(t, "Words", got[i], x)
	}
}

// noWords holds that there are none.
func noWords(t *testing.T, l, by []api.Pair) {
	t.Helper()
	if got, ok := chain.Words(l, by); ok || len(got) != 0 {
		t.Errorf("Words of %d values by %d: %d lists, %v", len(l), len(by), len(got), ok)
	}
}

// final holds Final against what it is asked.
func final(t *testing.T, l []api.Pair, folds, size int, want []api.Pair) {
	t.Helper()
	got, ok := chain.Final(l, folds, size)
	if !ok {
		t.Errorf("Final of %d values, folded %d times, of size %d: none", len(l), folds, size)
		return
	}
	same(t, "Final", got, want)
}

// noFinal holds that there is none.
func noFinal(t *testing.T, l []api.Pair, folds, size int) {
	t.Helper()
	if got, ok := chain.Final(l, folds, size); ok || len(got) != 0 {
		t.Errorf("Final of %d values, folded %d times, of size %d: %v, %v", len(l), folds, size, got, ok)
	}
}

// P21.1: the chapter's example, 1 + 2 X folded by 3, of words of two values, four, and many more.
func TestExample(t *testing.T) {
	two := []api.Pair{{A: 15}, {A: api.P - 13}}
	words(t, two, []api.Pair{{A: 3}}, [][]api.Pair{two, {{A: 7}}})
	four := []api.Pair{{A: 15}, {A: 3940649673949185}, {A: 18446744069414584308}, {A: 18442803419740635138}}
	words(t, four, []api.Pair{{A: 3}}, [][]api.Pair{four, {{A: 7}, {A: 7}}})
	for m := 1; m <= 8; m++ {
		l := word([]api.Pair{{A: 1}, {A: 2}}, m, 0)
		seven := slices.Repeat([]api.Pair{{A: 7}}, 1<<(m-1))
		words(t, l, []api.Pair{{A: 3}}, [][]api.Pair{l, seven})
		final(t, seven, 1, 1, []api.Pair{{A: 7}})
		final(t, l, 0, 2, []api.Pair{{A: 1}, {A: 2}})
		noFinal(t, l, 0, 1)
		noFinal(t, seven, 1, 0)
	}
}

// P21.1: words that another program folded; the first list is told as it is, all others as they are kept.
func TestWordsWritten(t *testing.T) {
	few := []api.Pair{{A: 1, B: 2}, {A: 3, B: 4}, {A: 5, B: 6}, {A: 7, B: 8}}
	words(t, few, []api.Pair{{A: api.P + 1, B: top}, {B: 3}}, [][]api.Pair{
		few,
		{{A: 13176245755277625644, B: 2635249151546378537}, {A: 5270015777015389043, B: 7905747458320517419}},
		{{A: 14681861153771543412, B: 13982969458591029654}},
	})
	more := []api.Pair{{A: top, B: api.P}, {A: api.P, B: top}, {A: top, B: top}, {}, {A: api.P - 1, B: 1}, {A: 1, B: api.P - 1}, {A: api.P + 2, B: api.P + 3}, {A: 1 << 63, B: 1 << 32}}
	words(t, more, []api.Pair{{A: 9, B: 10}, {A: top, B: api.P + 5}, {A: api.P, B: api.P}}, [][]api.Pair{
		more,
		{{A: 7905747463229070183, B: 3067833782}, {A: 14493864135867273967, B: 11858619697433936054}, {A: 13182418110147568787, B: 17130446448637036838}, {A: 9498734984277973870, B: 15739437324756619850}},
		{{A: 11054571302518530594, B: 5082624429463982235}, {A: 2082649830535816787, B: 7900063074703160702}},
		{{A: 15791982601234465851, B: 15714715786790863629}},
	})
}

// P21.1: small words, by as many pairs as they can be folded by and by each count fewer, of all kinds.
func TestWords(t *testing.T) {
	for m := range 7 {
		for _, l := range [][]api.Pair{pairs(1 << m), pairs(1<<m + 30)[30:], make([]api.Pair, 1<<m)} {
			for _, by := range factors(m) {
				want := down(l, by)
				for n := range m + 1 {
					words(t, l, by[:n], want[:n+1])
				}
			}
		}
	}
}

// P21.1: each list behind the first is what layer 20's Word tells of the one ahead of it, that was folded once less.
func TestWordsEach(t *testing.T) {
	for m := range 13 {
		l := pairs(1<<m + 40)[40:]
		for _, by := range factors(m) {
			got, ok := chain.Words(l, by)
			if !ok || len(got) != m+1 {
				t.Fatalf("Words of 2^%d values: %d lists, %v", m, len(got), ok)
			}
			same(t, "the first list", got[0], l)
			for i, x := range by {
				want, fine := fold.Word(got[i], x, i)
				if !fine || len(got[i+1]) != 1<<(m-i-1) {
					t.Fatalf("of 2^%d values, folded %d times: %d, %v", m, i+1, len(got[i+1]), fine)
				}
				same(t, "a list behind the first", got[i+1], want)
			}
		}
	}
}

// P21.1: by no pairs there is l alone, as it is: of any count of values, none and more than can be folded too.
func TestWordsBare(t *testing.T) {
	all := make([]api.Pair, 1<<21+1)
	copy(all, pairs(1000))
	many := []int{63, 64, 65, 1000, 1<<19 + 1, 1 << 20, 1<<20 + 1, 1 << 21, 1<<21 + 1}
	for n := range 40 {
		many = append(many, n)
	}
	for _, by := range [][]api.Pair{nil, {}, all[:0]} {
		for _, n := range many {
			words(t, all[:n], by, [][]api.Pair{all[:n]})
		}
		words(t, nil, by, [][]api.Pair{nil})
		words(t, []api.Pair{}, by, [][]api.Pair{{}})
	}
}

// P21.1: the first list is told as it is, and folded as it counts modulo P; all behind it are as they are kept.
func TestWordsFirst(t *testing.T) {
	for m := range 8 {
		l := pairs(1 << m)
		plain := keptAll(l)
		for _, by := range factors(m) {
			want, ok := chain.Words(plain, keptAll(by))
			if !ok {
				t.Fatalf("Words of 2^%d values: none", m)
			}
			want[0] = l
			words(t, l, by, want)
			for _, x := range want[1:] {
				same(t, "as it is kept", x, keptAll(x))
			}
		}
	}
}

// P21.1: by more pairs than a word can be folded by there are none, one more and many more; nor of a number of values that is no power of two, by any pairs.
func TestWordsNone(t *testing.T) {
	l := pairs(70)
	for m := range 7 {
		for _, more := range []int{1, 2, 3, 63, 64, 65, 1000, 1 << 16} {
			noWords(t, l[:1<<m], make([]api.Pair, m+more))
			noWords(t, l[:1<<m], pairs(m+more))
		}
		for _, by := range factors(m + 1) {
			noWords(t, l[:1<<m], by)
		}
	}
	for n := range 70 {
		if n != 0 && n&(n-1) == 0 {
			continue
		}
		for _, many := range []int{1, 2, 3, 64, 1000} {
			noWords(t, l[:n], make([]api.Pair, many))
			noWords(t, l[:n], pairs(many))
		}
	}
	for _, none := range [][]api.Pair{nil, {}} {
		for _, many := range []int{1, 2, 3, 1 << 20} {
			noWords(t, none, make([]api.Pair, many))
		}
	}
}

// P21.1: 2^20 values are the most that are folded: down to one, by twenty pairs; more aren't, nor by one pair more.
func TestWordsMost(t *testing.T) {
	l := pairs(1 << 21)
	by := pairs(60)[39:]
	got, ok := chain.Words(l[:1<<20], by[:20])
	if !ok || len(got) != 21 || len(got[20]) != 1 {
		t.Fatalf("Words of 2^20 values: %d lists, %v", len(got), ok)
	}
	same(t, "the first list", got[0], l[:1<<20])
	for i, x := range by[:20] {
		want, _ := fold.Word(got[i], x, i)
		same(t, "a list behind the first", got[i+1], want)
	}
	noWords(t, l[:1<<20], by)
	for _, n := range []int{1<<20 - 1, 1<<20 + 1, 3 << 19, 1<<21 - 1, 1 << 21} {
		noWords(t, l[:n], by[:1])
		noWords(t, l[:n], by[:20])
	}
}

// P21.1: polynomials that another program went back to, of shifts of all kinds.
func TestFinalWritten(t *testing.T) {
	few := []api.Pair{{A: 1, B: 2}, {A: 3, B: 4}, {A: 5, B: 6}, {A: 7, B: 8}}
	for _, x := range []struct {
		folds []int
		want  []api.Pair
	}{
		{[]int{math.MinInt, -5, 0}, []api.Pair{{A: 4, B: 5}, {A: 40210710958665, B: 40210710958665}, {A: 12799781599185629937, B: 12799781599185629937}, {A: 2904151306919565139, B: 2904151306919565139}}},
		{[]int{1}, []api.Pair{{A: 4, B: 5}, {A: 5270504049934303901, B: 5270504049934303901}, {A: 5531718338183465519, B: 5531718338183465519}, {A: 922737027658797372, B: 922737027658797372}}},
		{[]int{3}, []api.Pair{{A: 4, B: 5}, {A: 12032629747256623938, B: 12032629747256623938}, {A: 7314744339536389197, B: 7314744339536389197}, {A: 17451402214144970526, B: 17451402214144970526}}},
		{[]int{64, 65, 70, math.MaxInt}, []api.Pair{{A: 4, B: 5}, {A: 7314810971910057809, B: 7314810971910057809}, {A: 12203095294597423904, B: 12203095294597423904}, {A: 4127422373889295508, B: 4127422373889295508}}},
	} {
		for _, folds := range x.folds {
			final(t, few, folds, 4, x.want)
			noFinal(t, few, folds, 3)
		}
	}
	two := []api.Pair{{A: top, B: api.P}, {A: api.P, B: top}}
	final(t, two, 0, 2, []api.Pair{{A: 2147483647, B: 2147483647}, {A: 2635249153080295424, B: 15811494916334288897}})
	final(t, two, 2, 2, []api.Pair{{A: 2147483647, B: 2147483647}, {A: 10225995983503939698, B: 8220748085910644623}})
	final(t, two[:1], 9, 1, []api.Pair{{A: 4294967294}})
	three := []api.Pair{{A: 5, B: 6}, {}, {A: api.P - 1, B: 4}}
	l := []api.Pair{{A: 18446744069408819525, B: 23059210}, {A: 5764806, B: 18446744069391525123}, {A: 18446744069408819525, B: 23059210}, {A: 5764806, B: 18446744069391525123}}
	final(t, l, 2, 3, three)
	final(t, l, 2, 4, append(three, api.Pair{}))
	noFinal(t, l, 2, 2)
}

// sizes are some of n coefficients, and some that there can't be: below 0, one more, and the ends of int.
func sizes(n int) []int {
	l := []int{math.MinInt, math.MinInt + 1, -1 << 32, -n - 1, -n, -2, -1, 0, 1, 2, 3, n / 2, n - 1, n, n + 1, n + 2, 2 * n, 1 << 32, 1<<32 + n, math.MaxInt - 1, math.MaxInt}
	slices.Sort(l)
	return slices.Compact(l)
}

// finals holds Final of l at each size against its coefficients: those up to the last that isn't 0 may not be left out.
func finals(t *testing.T, l []api.Pair, folds int, all []api.Pair) {
	t.Helper()
	least := len(all)
	for least > 0 && all[least-1] == (api.Pair{}) {
		least--
	}
	for _, size := range append(sizes(len(l)), least-1, least, least+1) {
		if size < least || size > len(l) {
			noFinal(t, l, folds, size)
		} else {
			final(t, l, folds, size, all[:size])
		}
	}
}

// P21.1: words of any values, after each count of folds, at each size.
func TestFinal(t *testing.T) {
	for m := range 5 {
		for _, folds := range often() {
			for _, l := range [][]api.Pair{pairs(1 << m), pairs(1<<m + 30)[30:], pairs(1<<m + 3)[3:]} {
				finals(t, l, folds, back(l, folds))
			}
		}
	}
}

// P21.1: words of polynomials of each count of coefficients, at each size: just as many, one fewer, one more, and all the others.
func TestFinalPolynomial(t *testing.T) {
	for m := range 7 {
		for _, folds := range []int{-1, 0, 1, 2, 5, 31, 32, 63, 64, math.MaxInt} {
			for n := range 1<<m + 1 {
				all := make([]api.Pair, 1<<m)
				copy(all, keptAll(pairs(n + 20)[20:]))
				finals(t, word(all, m, folds), folds, all)
			}
		}
	}
}

// P21.1: one coefficient alone isn't 0, of its A or of its B: it may not be left out, wherever it stands.
func TestFinalOne(t *testing.T) {
	for m := range 6 {
		for n := range 1 << m {
			for _, x := range []api.Pair{{A: 1}, {B: 1}, {A: api.P - 1}, {B: api.P - 1}, {A: 5, B: 6}} {
				all := make([]api.Pair, 1<<m)
				all[n] = x
				finals(t, word(all, m, 3), 3, all)
			}
		}
	}
}

// P21.1: a word of zeros is that of zeros, as many as are asked for, none too; zeros may be written in any way.
func TestFinalZeros(t *testing.T) {
	for m := range 7 {
		for _, x := range []api.Pair{{}, {A: api.P}, {B: api.P}, {A: api.P, B: api.P}} {
			for _, folds := range often() {
				finals(t, slices.Repeat([]api.Pair{x}, 1<<m), folds, make([]api.Pair, 1<<m))
			}
		}
	}
}

// P21.1: a word of one value all over has one coefficient, after any count of folds.
func TestFinalSame(t *testing.T) {
	for m := range 7 {
		for _, x := range edges() {
			for _, folds := range often() {
				all := make([]api.Pair, 1<<m)
				all[0] = kept(x)
				finals(t, slices.Repeat([]api.Pair{x}, 1<<m), folds, all)
			}
		}
	}
}

// P21.1: values count modulo P, and the answer is as it is kept.
func TestFinalWays(t *testing.T) {
	for m := range 7 {
		l := pairs(1 << m)
		for _, folds := range often() {
			want, ok := chain.Final(keptAll(l), folds, 1<<m)
			if !ok {
				t.Fatalf("Final of 2^%d values: none", m)
			}
			final(t, l, folds, 1<<m, want)
			same(t, "as it is kept", want, keptAll(want))
		}
	}
}

// P21.1: there is none of no values, nor of a number that is no power of two, nor of more than 2^20, at any size and after any count of folds.
func TestFinalNone(t *testing.T) {
	all := make([]api.Pair, 1<<21+1)
	many := []int{63, 65, 1000, 1<<20 - 1, 1<<20 + 1, 3 << 19, 1<<21 - 1, 1 << 21, 1<<21 + 1}
	for n := range 40 {
		if n == 0 || n&(n-1) != 0 {
			many = append(many, n)
		}
	}
	for _, folds := range often() {
		for _, n := range many {
			for _, size := range sizes(n) {
				noFinal(t, all[:n], folds, size)
			}
		}
		for _, size := range sizes(0) {
			noFinal(t, nil, folds, size)
			noFinal(t, []api.Pair{}, folds, size)
		}
	}
}

// P21.1: many values, and the most that there may be; the coefficients come to the word again at its places.
func TestFinalMost(t *testing.T) {
	for _, m := range []int{7, 10, 12, 20} {
		l, folds := pairs(1<<m), 23-m
		got, ok := chain.Final(l, folds, 1<<m)
		if !ok || len(got) != 1<<m {
			t.Fatalf("Final of 2^%d values: %d, %v", m, len(got), ok)
		}
		again, _ := ntt.ForthPairs(got, fold.Shift(folds), m)
		same(t, "at its places again", again, keptAll(l))
		noFinal(t, l, folds, 1<<m-1)
		few := keptAll(pairs(1 << (m - 2)))
		short, _ := ntt.ForthPairs(few, fold.Shift(2), m)
		final(t, short, 2, 1<<(m-2), few)
		noFinal(t, short, 2, 1<<(m-2)-1)
	}
}

// P21.1: the coefficients come to the word again at its places, each one by itself.
func TestFinalAgain(t *testing.T) {
	for m := range 6 {
		l := pairs(1 << m)
		for _, folds := range often() {
			got, ok := chain.Final(l, folds, 1<<m)
			if !ok {
				t.Fatalf("Final of 2^%d values: none", m)
			}
			same(t, "at its places again", word(got, m, folds), keptAll(l))
		}
	}
}

// P21.2: 2^k coefficients, folded r times, become 2^(k - r): even ones and by times the odd ones, put together each time.
func TestFolded(t *testing.T) {
	for _, k := range []int{0, 1, 2, 3, 5, 8, 11} {
		for blow := range 5 {
			coefficients := keptAll(pairs(1<<k + 14)[14:])
			l, _ := ntt.ForthPairs(coefficients, 7, k+blow)
			by := pairs(k + 60)[60:]
			got, ok := chain.Words(l, by)
			if !ok || len(got) != k+1 {
				t.Fatalf("of 2^%d coefficients and 2^%d values: %d lists, %v", k, k+blow, len(got), ok)
			}
			for r, x := range got {
				if len(coefficients) != 1<<(k-r) || len(x) != 1<<(k+blow-r) {
					t.Fatalf("folded %d times: %d coefficients, %d values", r, len(coefficients), len(x))
				}
				final(t, x, r, 1<<(k-r), coefficients)
				noFinal(t, x, r, 1<<(k-r)-1)
				if r < k {
					coefficients = halves(coefficients, by[r])
				}
			}
		}
	}
}

// P21.2: a word that isn't a polynomial's of so many coefficients isn't one after folds either, by pairs that nothing singles out.
func TestFoldedOther(t *testing.T) {
	for k := 1; k <= 5; k++ {
		l := word(pairs(1<<k), k+1, 0)
		for i := range l {
			other := slices.Clone(l)
			other[i].B++
			got, ok := chain.Words(other, pairs(k + 60)[60:])
			if !ok {
				t.Fatalf("of 2^%d values: none", k+1)
			}
			for r, x := range got {
				noFinal(t, x, r, 1<<(k-r))
			}
		}
	}
}

// P21.1: another count of folds tells another polynomial's coefficients.
func TestFinalShift(t *testing.T) {
	l := pairs(60)[44:]
	seen := map[api.Pair]int{}
	for folds := range 32 {
		got, ok := chain.Final(l, folds, 16)
		if before, twice := seen[got[1]]; !ok || twice {
			t.Errorf("folded %d times and %d times: the same, %v", folds, before, ok)
		}
		seen[got[1]] = folds
	}
}

// overwrite fills a list and the room behind it.
func overwrite(l []api.Pair) {
	l = l[:cap(l)]
	for i := range l {
		l[i] = api.Pair{A: 99, B: 98}
	}
}

// alike holds two lists of lists against each other.
func alike(a, b [][]api.Pair) bool {
	return slices.EqualFunc(a, b, func(x, y []api.Pair) bool { return slices.Equal(x, y) })
}

// copied is a list of lists that shares nothing with l.
func copied(l [][]api.Pair) [][]api.Pair {
	out := make([][]api.Pair, len(l))
	for i, x := range l {
		out[i] = slices.Clone(x)
	}
	return out
}

// P21.1: what Words is given stays as it is, the room behind it too; the answer shares none of it, and no two of its lists share any.
func TestWordsKept(t *testing.T) {
	l, by := pairs(80), pairs(30)[10:]
	wasL, wasBy := slices.Clone(l), slices.Clone(by)
	for n := range 70 {
		for many := range 9 {
			got, ok := chain.Words(l[:n], by[:many])
			room, fine := chain.Words(slices.Clip(slices.Clone(l[:n])), slices.Clip(slices.Clone(by[:many])))
			if ok != fine || !alike(got, room) {
				t.Fatalf("Words of %d values by %d hangs on the room behind them", n, many)
			}
			for i := range got {
				overwrite(got[i])
				copy(room[i], got[i])
				if !alike(got, room) {
					t.Fatalf("Words of %d values by %d: lists share", n, many)
				}
			}
			if !slices.Equal(l, wasL) || !slices.Equal(by, wasBy) {
				t.Fatalf("Words of %d values by %d: what was handed in is another list now", n, many)
			}
		}
	}
}

// P21.1: what Final is given stays as it is, the room behind it too, and the answer shares none of it.
func TestFinalKept(t *testing.T) {
	l := append(append(word([]api.Pair{{A: 5, B: 4}}, 3, 2), word(pairs(4), 3, 2)...), pairs(60)...)
	was := slices.Clone(l)
	for from := range 20 {
		for n := range 40 {
			for _, size := range []int{-1, 0, 1, 4, n - 1, n, n + 1} {
				got, ok := chain.Final(l[from:from+n], 2, size)
				room, fine := chain.Final(slices.Clip(slices.Clone(l[from:from+n])), 2, size)
				if ok != fine || !slices.Equal(got, room) {
					t.Fatalf("Final of %d values hangs on the room behind them", n)
				}
				overwrite(got)
				if !slices.Equal(l, was) {
					t.Fatalf("Final of %d values: what was handed in is another list now", n)
				}
			}
		}
	}
}

// answers are some of each call.
func answers(l []api.Pair) [][]api.Pair {
	var out [][]api.Pair
	for m := range 7 {
		w, _ := chain.Words(l[:1<<m], l[3:3+m])
		f, _ := chain.Final(l[:1<<m], m-1, 1<<m)
		out = append(append(out, w...), f)
	}
	return out
}

// A call hangs on its arguments alone: an answer that is written over is kept nowhere, and no later call changes one.
func TestAgain(t *testing.T) {
	l := pairs(64)
	first := answers(l)
	was := copied(first)
	second := answers(pairs(70)[6:])
	if !alike(first, was) {
		t.Error("a later call changed an answer")
	}
	for _, x := range append(first, second...) {
		overwrite(x)
	}
	if !alike(answers(l), was) {
		t.Error("another answer, asked again")
	}
}

// Many goroutines may ask at once, of the same lists, and get what one alone gets.
func TestAtOnce(t *testing.T) {
	l := pairs(64)
	want := answers(l)
	var wg sync.WaitGroup
	for range 8 {
		wg.Go(func() {
			for range 20 {
				if !alike(answers(l), want) {
					t.Error("another answer at once")
				}
			}
		})
	}
	wg.Wait()
}
