package ntt_test

import (
	"math"
	"math/big"
	"slices"
	"sync"
	"testing"

	"assayer/api"
	"assayer/ntt"
	"assayer/pair"
	"assayer/prime"
)

const top = 1<<64 - 1

func wide(a uint64) *big.Int { return new(big.Int).SetUint64(a) }

// left is what x leaves modulo P, worked out by another means than the program's.
func left(x *big.Int) uint64 { return new(big.Int).Mod(x, wide(api.P)).Uint64() }

// spread is a rule that gives ordinary numbers over all 64 bits, always the same ones.
func spread() func() uint64 {
	x := uint64(0x9e3779b97f4a7c15)
	return func() uint64 {
		x ^= x << 13
		x ^= x >> 7
		x ^= x << 17
		return x
	}
}

// numbers are n: edges first, as they are kept and not, then ordinary ones.
func numbers(n int) []uint64 {
	l := []uint64{top, api.P - 1, api.P, 3, api.P + 1, 0, 1, 1 << 63, 1<<32 - 1, 1 << 32, 1 << 48, top - 1, api.P + 7}
	for next := spread(); len(l) < n; {
		l = append(l, next())
	}
	return l[:n]
}

// pairs are n: edges first, as they are kept and not, then ordinary ones.
func pairs(n int) []api.Pair {
	l := []api.Pair{{A: top, B: api.P}, {A: api.P, B: top}, {A: 1, B: 2}, {}, {B: api.P + 1}, {A: api.P - 1, B: api.P - 1}, {A: api.P}}
	for next := spread(); len(l) < n; {
		l = append(l, api.Pair{A: next(), B: next()})
	}
	return l[:n]
}

// shifts are some that don't leave 0, as they are kept and not.
func shifts() []uint64 {
	return []uint64{1, 2, 7, 1 << 48, api.P - 1, api.P + 1, api.P + 7, 0x123456789abcdef, top}
}

// noughts are the shifts that leave 0.
func noughts() []uint64 { return []uint64{0, api.P} }

// outside are the k that are none of 0 to 20.
func outside() []int {
	return []int{math.MinInt, math.MinInt + 1, -1 << 32, -64, -44, -2, -1, 21, 22, 31, 32, 33, 62, 63, 64, 65, 84, 1 << 32, 1<<32 + 3, math.MaxInt - 1, math.MaxInt}
}

// points are worked out by math/big, one by one: the shift times 7 to the i times (P - 1) / 2^k.
func points(shift uint64, k int) []uint64 {
	order := new(big.Int).Rsh(wide(api.P-1), uint(k))
	power := new(big.Int).Exp(big.NewInt(7), order, wide(api.P))
	l, x := make([]uint64, 1<<k), wide(shift)
	for i := range l {
		l[i] = left(x)
		x.Mod(x.Mul(x, power), wide(api.P))
	}
	return l
}

// at is what the polynomial l comes to at x, by math/big.
func at(l []uint64, x uint64) uint64 {
	out := new(big.Int)
	for i := len(l) - 1; i >= 0; i-- {
		out.Mod(out.Add(out.Mul(out, wide(x)), wide(l[i])), wide(api.P))
	}
	return out.Uint64()
}

// parts are those of pairs: at numbers, a polynomial of pairs comes to what its parts come to.
func parts(l []api.Pair) (a, b []uint64) {
	for _, x := range l {
		a, b = append(a, x.A), append(b, x.B)
	}
	return a, b
}

// atPairs is what the polynomial l comes to at the number x, by math/big.
func atPairs(l []api.Pair, x uint64) api.Pair {
	a, b := parts(l)
	return api.Pair{A: at(a, x), B: at(b, x)}
}

// kept are the numbers as they are kept, filled up by noughts to n.
func kept(l []uint64, n int) []uint64 {
	out := make([]uint64, n)
	for i, a := range l {
		out[i] = a % api.P
	}
	return out
}

// keptPairs are the pairs as they are kept, filled up by zeros to n.
func keptPairs(l []api.Pair, n int) []api.Pair {
	out := make([]api.Pair, n)
	for i, x := range l {
		out[i] = api.Pair{A: x.A % api.P, B: x.B % api.P}
	}
	return out
}

// none holds that beside ErrArg there is nothing.
func none[T any](t *testing.T, what string, l []T, e api.Errno) {
	t.Helper()
	if e != api.ErrArg || len(l) != 0 {
		t.Errorf("%s: %d values, error %d", what, len(l), e)
	}
}

// same holds an answer against the list that is asked.
func same[T comparable](t *testing.T, what string, got []T, e api.Errno, want []T) {
	t.Helper()
	if e != api.OK || len(got) != len(want) {
		t.Errorf("%s: %d values, error %d, not %d values", what, len(got), e, len(want))
		return
	}
	for i := range want {
		if got[i] != want[i] {
			t.Errorf("%s, at %d: %v, not %v", what, i, got[i], want[i])
			return
		}
	}
}

// P4.1: the points, in order, of small orders and of the greatest, by shifts of all kinds.
func TestPoints(t *testing.T) {
	for k := range 9 {
		for _, shift := range append(shifts(), noughts()...) {
			same(t, "Points", ntt.Points(shift, k), api.OK, points(shift, k))
		}
	}
	for _, k := range []int{12, 19, 20} {
		same(t, "Points", ntt.Points(7, k), api.OK, points(7, k))
	}
	same(t, "Points", ntt.Points(5, 0), api.OK, []uint64{5})
	same(t, "Points", ntt.Points(top, 0), api.OK, []uint64{1<<32 - 2})
	same(t, "Points", ntt.Points(api.P, 0), api.OK, []uint64{0})
	same(t, "Points", ntt.Points(7, 1), api.OK, []uint64{7, api.P - 7})
	same(t, "Points", ntt.Points(1, 2), api.OK, []uint64{1, 1 << 48, api.P - 1, api.P - 1<<48})
}

// P1: of other k there is nothing to tell, but the call ends.
func TestPointsOutside(t *testing.T) {
	for _, k := range outside() {
		for _, shift := range []uint64{0, 1, 7, top} {
			if got := ntt.Points(shift, k); len(got) != 0 {
				t.Errorf("Points of %d: %d points", k, len(got))
			}
		}
	}
}

// lengths are of how many coefficients 2^k points are asked: none, one, few, as many as there are points.
func lengths(k int) []int {
	var l []int
	for n := 0; n <= 1<<k && n < 6; n++ {
		l = append(l, n)
	}
	for _, n := range []int{1<<k/2 + 1, 1<<k - 1, 1 << k} {
		if n >= 6 {
			l = append(l, n)
		}
	}
	return l
}

// P4.1: what polynomials come to at all points, in order, held against math/big; of shifts that leave 0 too.
func TestForth(t *testing.T) {
	for k := range 7 {
		for _, shift := range append(shifts(), noughts()...) {
			for _, n := range lengths(k) {
				l, m := numbers(n), pairs(n)
				want, wantPairs := make([]uint64, 1<<k), make([]api.Pair, 1<<k)
				for i, x := range points(shift, k) {
					want[i], wantPairs[i] = at(l, x), atPairs(m, x)
				}
				got, e := ntt.Forth(l, shift, k)
				same(t, "Forth", got, e, want)
				as, f := ntt.ForthPairs(m, shift, k)
				same(t, "ForthPairs", as, f, wantPairs)
			}
		}
	}
}

// P4.1: k of 0 is one point, the shift itself, where a polynomial of one coefficient comes to that.
func TestForthOne(t *testing.T) {
	for _, shift := range append(shifts(), noughts()...) {
		for _, a := range numbers(30) {
			got, e := ntt.Forth([]uint64{a}, shift, 0)
			same(t, "Forth of one", got, e, []uint64{a % api.P})
			got, e = ntt.Forth([]uint64{a}, shift, 3)
			same(t, "Forth of one", got, e, slices.Repeat([]uint64{a % api.P}, 8))
		}
		for _, x := range pairs(30) {
			want := keptPairs([]api.Pair{x}, 1)
			got, e := ntt.ForthPairs([]api.Pair{x}, shift, 0)
			same(t, "ForthPairs of one", got, e, want)
			got, e = ntt.ForthPairs([]api.Pair{x}, shift, 3)
			same(t, "ForthPairs of one", got, e, slices.Repeat(want, 8))
		}
	}
}

// P4.1: of no coefficients, handed in as nil or empty, there is 0 at all points.
func TestForthNone(t *testing.T) {
	for _, k := range []int{0, 1, 2, 5} {
		for _, shift := range []uint64{0, 1, 7, api.P} {
			for _, l := range [][]uint64{nil, {}} {
				got, e := ntt.Forth(l, shift, k)
				same(t, "Forth of none", got, e, make([]uint64, 1<<k))
			}
			for _, l := range [][]api.Pair{nil, {}} {
				got, e := ntt.ForthPairs(l, shift, k)
				same(t, "ForthPairs of none", got, e, make([]api.Pair, 1<<k))
			}
		}
	}
}

// P4.1: a shift that leaves 0 asks for the first coefficient, everywhere.
func TestForthNought(t *testing.T) {
	for _, shift := range noughts() {
		got, e := ntt.Forth([]uint64{top, 5, 6}, shift, 4)
		same(t, "Forth by 0", got, e, slices.Repeat([]uint64{1<<32 - 2}, 16))
		as, e := ntt.ForthPairs([]api.Pair{{A: 3, B: top}, {A: 1, B: 1}}, shift, 1)
		same(t, "ForthPairs by 0", as, e, []api.Pair{{A: 3, B: 1<<32 - 2}, {A: 3, B: 1<<32 - 2}})
	}
}

// P4.1, the chapter's example, and others that are written out.
func TestWritten(t *testing.T) {
	got, e := ntt.Forth([]uint64{1, 2}, 1, 1)
	same(t, "1 + 2 X", got, e, []uint64{3, api.P - 1})
	got, e = ntt.Back([]uint64{3, api.P - 1}, 1)
	same(t, "3 and -1", got, e, []uint64{1, 2})
	got, e = ntt.Back([]uint64{api.P + 3, api.P - 1}, api.P+1)
	same(t, "3 and -1", got, e, []uint64{1, 2})
	got, e = ntt.Forth([]uint64{0, 1}, 1, 2)
	same(t, "X", got, e, []uint64{1, 1 << 48, api.P - 1, api.P - 1<<48})
	got, e = ntt.Back([]uint64{7, api.P - 7}, 7)
	same(t, "7 and -7, by 7", got, e, []uint64{0, 1})
	got, e = ntt.Back([]uint64{5}, 9)
	same(t, "5", got, e, []uint64{5})
	as, e := ntt.ForthPairs([]api.Pair{{A: 1}, {B: 2}}, 1, 1)
	same(t, "1 + 2 u X", as, e, []api.Pair{{A: 1, B: 2}, {A: 1, B: api.P - 2}})
	as, e = ntt.BackPairs([]api.Pair{{A: 1, B: 2}, {A: 1, B: api.P - 2}}, 1)
	same(t, "1 + 2 u and 1 - 2 u", as, e, []api.Pair{{A: 1}, {B: 2}})
}

// P4.1: ErrArg of a k that is none of 0 to 20, whatever else.
func TestForthOutside(t *testing.T) {
	for _, k := range outside() {
		for _, shift := range []uint64{0, 1, 7, api.P} {
			for _, n := range []int{0, 1, 2, 5} {
				l, e := ntt.Forth(numbers(n), shift, k)
				none(t, "Forth", l, e)
				m, f := ntt.ForthPairs(pairs(n), shift, k)
				none(t, "ForthPairs", m, f)
			}
		}
	}
}

// P4.1: ErrArg of more coefficients than there are points, noughts at the end too.
func TestForthMore(t *testing.T) {
	for k := range 8 {
		for _, n := range []int{1<<k + 1, 1<<k + 2, 2 << k, 5 << k} {
			for _, shift := range []uint64{0, 1, 7} {
				l, e := ntt.Forth(make([]uint64, n), shift, k)
				none(t, "Forth", l, e)
				m, f := ntt.ForthPairs(pairs(n), shift, k)
				none(t, "ForthPairs", m, f)
			}
		}
	}
	l, e := ntt.Forth(make([]uint64, 1<<20+1), 1, 20)
	none(t, "Forth", l, e)
	m, f := ntt.ForthPairs(make([]api.Pair, 1<<20+1), 1, 20)
	none(t, "ForthPairs", m, f)
	l, e = ntt.Forth(make([]uint64, 1<<21), 1, 21)
	none(t, "Forth", l, e)
}

// P4.1: as many coefficients as values, and these come to the values, held against math/big.
func TestBack(t *testing.T) {
	for k := range 7 {
		for _, shift := range shifts() {
			values, as := numbers(1<<k), pairs(1<<k)
			l, e := ntt.Back(values, shift)
			m, f := ntt.BackPairs(as, shift)
			if e != api.OK || f != api.OK || len(l) != 1<<k || len(m) != 1<<k {
				t.Fatalf("Back of %d: %d and %d coefficients, errors %d and %d", 1<<k, len(l), len(m), e, f)
			}
			for i, x := range points(shift, k) {
				if got := at(l, x); got != values[i]%api.P {
					t.Errorf("Back of %d by %d comes to %d at %d, not %d", 1<<k, shift, got, x, values[i]%api.P)
				}
				if got := atPairs(m, x); got != keptPairs(as[i:i+1], 1)[0] {
					t.Errorf("BackPairs of %d by %d comes to %v at %d, not %v", 1<<k, shift, got, x, as[i])
				}
			}
			right(t, l, m)
		}
	}
}

// right holds that answers are as they are kept.
func right(t *testing.T, l []uint64, m []api.Pair) {
	t.Helper()
	for _, a := range l {
		if !prime.Right(a) {
			t.Errorf("%d isn't as it is kept", a)
		}
	}
	for _, x := range m {
		if !pair.Right(x) {
			t.Errorf("%v isn't as it is kept", x)
		}
	}
}

// P4.1: one value is the polynomial itself, by any shift but one that leaves 0.
func TestBackOne(t *testing.T) {
	for _, shift := range shifts() {
		for _, a := range numbers(30) {
			got, e := ntt.Back([]uint64{a}, shift)
			same(t, "Back of one", got, e, []uint64{a % api.P})
		}
		for _, x := range pairs(30) {
			got, e := ntt.BackPairs([]api.Pair{x}, shift)
			same(t, "BackPairs of one", got, e, keptPairs([]api.Pair{x}, 1))
		}
	}
}

// P4.1: ErrArg of as many values as no power of two, of none, of more than 2^20.
func TestBackMany(t *testing.T) {
	for _, n := range []int{0, 3, 5, 6, 7, 9, 12, 15, 17, 100, 1<<10 - 1, 1<<10 + 1, 1<<20 - 1, 1<<20 + 1, 1 << 21, 1 << 22} {
		for _, shift := range []uint64{0, 1, 7, api.P} {
			l, e := ntt.Back(make([]uint64, n), shift)
			none(t, "Back", l, e)
			m, f := ntt.BackPairs(make([]api.Pair, n), shift)
			none(t, "BackPairs", m, f)
		}
	}
	l, e := ntt.Back(nil, 1)
	none(t, "Back of nil", l, e)
	m, f := ntt.BackPairs(nil, 1)
	none(t, "BackPairs of nil", m, f)
}

// P4.1: ErrArg of a shift that leaves 0, of one value too.
func TestBackNought(t *testing.T) {
	for _, shift := range noughts() {
		for k := range 6 {
			l, e := ntt.Back(numbers(1<<k), shift)
			none(t, "Back by 0", l, e)
			m, f := ntt.BackPairs(pairs(1<<k), shift)
			none(t, "BackPairs by 0", m, f)
		}
	}
}

// P4.2: forth and back again, of all lengths; what isn't there is 0.
func TestForthBack(t *testing.T) {
	for k := range 12 {
		for _, shift := range shifts() {
			for _, n := range lengths(k) {
				l, m := numbers(n), pairs(n)
				there, _ := ntt.Forth(l, shift, k)
				back, e := ntt.Back(there, shift)
				same(t, "forth and back", back, e, kept(l, 1<<k))
				as, _ := ntt.ForthPairs(m, shift, k)
				again, f := ntt.BackPairs(as, shift)
				same(t, "forth and back, of pairs", again, f, keptPairs(m, 1<<k))
			}
		}
	}
}

// P4.2: back and forth again.
func TestBackForth(t *testing.T) {
	for k := range 12 {
		for _, shift := range shifts() {
			l, m := numbers(1<<k), pairs(1<<k)
			there, _ := ntt.Back(l, shift)
			back, e := ntt.Forth(there, shift, k)
			same(t, "back and forth", back, e, kept(l, 1<<k))
			as, _ := ntt.BackPairs(m, shift)
			again, f := ntt.ForthPairs(as, shift, k)
			same(t, "back and forth, of pairs", again, f, keptPairs(m, 1<<k))
		}
	}
}

// P4.1, P4.2: the most points that there may be, at a few of them, and back again.
func TestMost(t *testing.T) {
	l, at20 := numbers(1<<20), points(7, 20)
	there, e := ntt.Forth(l, 7, 20)
	if e != api.OK || len(there) != 1<<20 {
		t.Fatalf("Forth: %d values, error %d", len(there), e)
	}
	for _, i := range []int{1, 1 << 19, 1<<20 - 1} {
		if there[i] != at(l, at20[i]) {
			t.Errorf("Forth, at %d: %d", i, there[i])
		}
	}
	back, e := ntt.Back(there, 7)
	same(t, "forth and back", back, e, kept(l, 1<<20))
	m := pairs(1 << 20)
	as, _ := ntt.ForthPairs(m, 7, 20)
	again, e := ntt.BackPairs(as, 7)
	same(t, "forth and back, of pairs", again, e, keptPairs(m, 1<<20))
}

// P4.1: few coefficients at the most points.
func TestFewAtMost(t *testing.T) {
	got, e := ntt.Forth([]uint64{5, 3}, 7, 20)
	as, f := ntt.ForthPairs([]api.Pair{{B: 5}, {B: 3}}, 7, 20)
	if e != api.OK || f != api.OK || len(got) != 1<<20 || len(as) != 1<<20 {
		t.Fatalf("%d and %d values, errors %d and %d", len(got), len(as), e, f)
	}
	for i, x := range points(7, 20) {
		want := prime.Add(5, prime.Mul(3, x))
		if got[i] != want || as[i] != (api.Pair{B: want}) {
			t.Fatalf("at %d: %d and %v, not %d", i, got[i], as[i], want)
		}
	}
}

// P4.1: numbers go with the pairs that they are lifted to.
func TestLifted(t *testing.T) {
	l := numbers(32)
	lifted := make([]api.Pair, len(l))
	for i, a := range l {
		lifted[i] = pair.Lift(a)
	}
	for _, shift := range shifts() {
		forth, _ := ntt.Forth(l, shift, 6)
		forthPairs, _ := ntt.ForthPairs(lifted, shift, 6)
		back, _ := ntt.Back(l, shift)
		backPairs, _ := ntt.BackPairs(lifted, shift)
		a, b := parts(forthPairs)
		same(t, "ForthPairs", a, api.OK, forth)
		same(t, "ForthPairs", b, api.OK, make([]uint64, 64))
		a, b = parts(backPairs)
		same(t, "BackPairs", a, api.OK, back)
		same(t, "BackPairs", b, api.OK, make([]uint64, 32))
	}
}

// overwrite fills a list and the room behind it.
func overwrite[T any](l []T, x T) {
	l = l[:cap(l)]
	for i := range l {
		l[i] = x
	}
}

// P4.1: what is handed in stays as it is, the room behind it too, and the answer shares none of it.
func TestKept(t *testing.T) {
	whole, wholePairs := numbers(40), pairs(40)
	was, wasPairs := slices.Clone(whole), slices.Clone(wholePairs)
	for _, n := range []int{0, 1, 2, 3, 4, 8, 16} {
		for _, k := range []int{-1, 0, 1, 4, 5} {
			for _, shift := range []uint64{0, 1, 7} {
				l, _ := ntt.Forth(whole[:n], shift, k)
				overwrite(l, 99)
				l, _ = ntt.Back(whole[:n], shift)
				overwrite(l, 99)
				m, _ := ntt.ForthPairs(wholePairs[:n], shift, k)
				overwrite(m, api.Pair{A: 99})
				m, _ = ntt.BackPairs(wholePairs[:n], shift)
				overwrite(m, api.Pair{A: 99})
				if !slices.Equal(whole, was) || !slices.Equal(wholePairs, wasPairs) {
					t.Fatalf("of %d by %d with %d: what was handed in is another list now", n, shift, k)
				}
			}
		}
	}
}

// answers are one of each call.
func answers() ([][]uint64, [][]api.Pair) {
	forth, _ := ntt.Forth(numbers(20), 7, 6)
	back, _ := ntt.Back(numbers(64), 7)
	forthPairs, _ := ntt.ForthPairs(pairs(20), 7, 6)
	backPairs, _ := ntt.BackPairs(pairs(64), 7)
	return [][]uint64{ntt.Points(7, 6), forth, back}, [][]api.Pair{forthPairs, backPairs}
}

// sameAnswers tells whether all lists are the same.
func sameAnswers(a, b [][]uint64, x, y [][]api.Pair) bool {
	return slices.EqualFunc(a, b, slices.Equal) && slices.EqualFunc(x, y, slices.Equal)
}

// A call hangs on its arguments alone: an answer that is written over is kept nowhere.
func TestAgain(t *testing.T) {
	was, wasPairs := answers()
	spoilt, spoiltPairs := answers()
	for _, l := range spoilt {
		overwrite(l, 99)
	}
	for _, l := range spoiltPairs {
		overwrite(l, api.Pair{A: 99})
	}
	if l, m := answers(); !sameAnswers(l, was, m, wasPairs) {
		t.Error("another answer, asked again")
	}
}

// Many goroutines may ask at once, and get what one alone gets.
func TestAtOnce(t *testing.T) {
	was, wasPairs := answers()
	l, m := numbers(64), pairs(64)
	forth, _ := ntt.Forth(l, 3, 6)
	back, _ := ntt.BackPairs(m, 3)
	var wg sync.WaitGroup
	for range 8 {
		wg.Go(func() {
			a, x := answers()
			b, _ := ntt.Forth(l, 3, 6)
			y, _ := ntt.BackPairs(m, 3)
			if !sameAnswers(a, was, x, wasPairs) || !slices.Equal(b, forth) || !slices.Equal(y, back) {
				t.Error("another answer at once")
			}
		})
	}
	wg.Wait()
}
