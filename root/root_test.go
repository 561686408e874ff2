package root_test

import (
	"math"
	"math/big"
	"slices"
	"sync"
	"testing"

	"assayer/api"
	"assayer/pair"
	"assayer/prime"
	"assayer/root"
)

const top = 1<<64 - 1

var one = api.Pair{A: 1}

func wide(a uint64) *big.Int { return new(big.Int).SetUint64(a) }

// spread is a rule that gives ordinary numbers over all 64 bits, always the same ones.
func spread() func() uint64 {
	x := uint64(0x9e3779b97f4a7c15)
	return func() uint64 {
		x ^= x << 13
		x ^= x >> 7
		x ^= x << 17
		return x
	}
}

// numbers are n of which none leaves 0: edges first, as they are kept and not, then ordinary ones.
func numbers(n int) []uint64 {
	l := []uint64{1, 2, 7, api.P - 1, api.P + 1, top, 1<<32 - 1, 1 << 32, 1 << 48, 1 << 63, api.P - 2, api.P + 7, top - 1, 1, top}
	for next := spread(); len(l) < n; {
		l = append(l, next())
	}
	return l[:n]
}

// pairs are n of which none is zero: edges first, as they are kept and not, then ordinary ones.
func pairs(n int) []api.Pair {
	l := []api.Pair{
		{B: 1}, {A: 1}, {A: 2}, {A: 3, B: 1}, {A: api.P, B: 1}, {A: 1, B: api.P}, {A: api.P + 1, B: api.P + 2},
		{A: top, B: top}, {B: top}, {A: top}, {A: api.P - 1, B: api.P - 1}, {B: api.P - 1}, {B: 1}, {A: top, B: api.P},
	}
	for next := spread(); len(l) < n; {
		l = append(l, api.Pair{A: next(), B: next()})
	}
	return l[:n]
}

// noughts are the numbers that leave 0.
func noughts() []uint64 { return []uint64{0, api.P} }

// zeros are the pairs that are zero.
func zeros() []api.Pair { return []api.Pair{{}, {A: api.P}, {B: api.P}, {A: api.P, B: api.P}} }

// P3.1: of each k of 0 to 32 the power of 7, and 0 of all others, the ends of int too.
func TestOf(t *testing.T) {
	for k := -70; k <= 200; k++ {
		want := uint64(0)
		if k >= 0 && k <= 32 {
			n := new(big.Int).Rsh(wide(api.P-1), uint(k))
			want = n.Exp(big.NewInt(7), n, wide(api.P)).Uint64()
		}
		if got := root.Of(k); got != want {
			t.Errorf("Of of %d: %d, not %d", k, got, want)
		}
	}
	for _, k := range []int{math.MinInt, math.MinInt + 1, -1 << 32, -64, -1, 33, 34, 63, 64, 65, 96, 1<<32 - 1, 1 << 32, 1<<32 + 1, math.MaxInt - 1, math.MaxInt} {
		if got := root.Of(k); got != 0 {
			t.Errorf("Of of %d: %d, not 0", k, got)
		}
	}
}

// P3.1, the chapter's example, and roots that are written out.
func TestOfWritten(t *testing.T) {
	for k, want := range map[int]uint64{0: 1, 1: api.P - 1, 2: 1 << 48, 3: 18446744069397807105, 4: 17293822564807737345, 16: 6115771955107415310, 31: 4614640910117430873, 32: 1753635133440165772} {
		if got := root.Of(k); got != want {
			t.Errorf("Of of %d: %d, not %d", k, got, want)
		}
	}
}

// P3.3: the square of each root is the one of the next lower order, and each has its order and no lower one.
func TestOrders(t *testing.T) {
	for k := 1; k <= 32; k++ {
		r := root.Of(k)
		if !prime.Right(r) {
			t.Errorf("the root of %d isn't as it is kept", k)
		}
		if got := prime.Mul(r, r); got != root.Of(k-1) {
			t.Errorf("the square of the root of %d: %d", k, got)
		}
		if got := prime.Pow(r, 1<<(k-1)); got != api.P-1 {
			t.Errorf("half way round of %d: %d", k, got)
		}
		if got := prime.Pow(r, 1<<k); got != 1 {
			t.Errorf("all the way round of %d: %d", k, got)
		}
	}
	if root.Of(0) != 1 {
		t.Errorf("the root of 0: %d", root.Of(0))
	}
}

// P3.3: all powers of a root up to its order are unlike.
func TestUnlike(t *testing.T) {
	for k := range 13 {
		seen, x := map[uint64]int{}, uint64(1)
		for i := range 1 << k {
			if j, ok := seen[x]; ok {
				t.Fatalf("the root of %d to the %d and to the %d are the same", k, j, i)
			}
			seen[x] = i
			x = prime.Mul(x, root.Of(k))
		}
		if x != 1 {
			t.Errorf("the root of %d to the 2^%d: %d", k, k, x)
		}
	}
}

// P3.1: of powers of two which one it is, and -1 of all others.
func TestLog(t *testing.T) {
	want := func(n, k int) {
		t.Helper()
		if got := root.Log(n); got != k {
			t.Errorf("Log of %d: %d, not %d", n, got, k)
		}
	}
	for n := -100; n <= 1<<12; n++ {
		k := 0
		for 1<<k < n {
			k++
		}
		if n < 1 || 1<<k != n {
			k = -1
		}
		want(n, k)
	}
	for k := range 63 {
		want(1<<k, k)
		want(-1<<k, -1)
		if k > 1 {
			want(1<<k-1, -1)
			want(1<<k+1, -1)
			want(1<<k+1<<(k-1), -1)
		}
	}
	for _, n := range []int{math.MinInt, math.MinInt + 1, -1 << 62, -8, -2, -1, 0, 3, 5, 6, 7, 9, 12, 3 << 61, math.MaxInt - 1, math.MaxInt} {
		want(n, -1)
	}
	want(1, 0)
	want(2, 1)
	want(8, 3)
}

// turned is what Turn answers, bit by bit, of a number that was put behind 2^64.
func turned(n, k int) int {
	x := big.NewInt(int64(n))
	if n < 0 {
		x.Add(x, new(big.Int).Lsh(big.NewInt(1), 64))
	}
	out := 0
	for i := range min(k, 62) {
		out = 2*out + int(x.Bit(i))
	}
	return out
}

// turns are the numbers that are turned: small ones, powers of two and their neighbours, below 0 too, the ends, ordinary ones.
func turns() []int {
	l := []int{math.MinInt, math.MinInt + 1, math.MaxInt - 1, math.MaxInt, 0x123456789abcdef, -0x123456789abcdef}
	for n := -20; n <= 300; n++ {
		l = append(l, n)
	}
	for k := range 63 {
		l = append(l, 1<<k-1, 1<<k, 1<<k+1, -1<<k-1, -1<<k, -1<<k+1)
	}
	next := spread()
	for range 50 {
		l = append(l, int(next()))
	}
	return l
}

// P3.1: the lowest bits, the other way round, of each n and k, the ends of int too.
func TestTurn(t *testing.T) {
	ks := []int{math.MinInt, math.MinInt + 1, -64, -2, -1, 127, 128, 1 << 32, 1<<32 + 1, math.MaxInt - 1, math.MaxInt}
	for k := range 70 {
		ks = append(ks, k)
	}
	for _, n := range turns() {
		for _, k := range ks {
			got := root.Turn(n, k)
			if got != turned(n, k) {
				t.Errorf("Turn of %d by %d: %d, not %d", n, k, got, turned(n, k))
			}
			if k < 1 && got != 0 {
				t.Errorf("Turn of %d by %d: %d, not 0", n, k, got)
			}
			if k > 62 && got != root.Turn(n, 62) {
				t.Errorf("Turn of %d by %d isn't that by 62", n, k)
			}
		}
	}
}

// P3.1: turns that are written out.
func TestTurnWritten(t *testing.T) {
	for _, x := range []struct{ n, k, want int }{
		{6, 3, 3}, {1, 4, 8}, {5, 0, 0}, {5, -1, 0}, {5, 1, 1}, {4, 1, 0}, {5, 2, 2}, {13, 3, 5}, {11, 4, 13}, {8, 3, 0}, {0, 62, 0},
		{-1, 1, 1}, {-1, 5, 31}, {-2, 3, 3}, {-1, 62, 1<<62 - 1}, {-1, 63, 1<<62 - 1}, {-1, 64, 1<<62 - 1},
		{1, 62, 1 << 61}, {1, 63, 1 << 61}, {1, 64, 1 << 61}, {1, math.MaxInt, 1 << 61}, {2, 65, 1 << 60},
		{1 << 61, 62, 1}, {1 << 62, 62, 0}, {1 << 62, 64, 0}, {math.MinInt, 64, 0}, {math.MinInt, 1, 0},
		{math.MinInt + 1, 62, 1 << 61}, {math.MaxInt, 62, 1<<62 - 1}, {math.MaxInt, math.MinInt, 0}, {math.MaxInt, math.MaxInt, 1<<62 - 1},
	} {
		if got := root.Turn(x.n, x.k); got != x.want {
			t.Errorf("Turn of %d by %d: %d, not %d", x.n, x.k, got, x.want)
		}
	}
}

// P3.1: turned twice, the lowest bits are as they were, and each number below 2^k comes once.
func TestTurnTwice(t *testing.T) {
	for _, n := range turns() {
		for k := range 63 {
			if got := root.Turn(root.Turn(n, k), k); got != n&(1<<k-1) {
				t.Errorf("%d, turned twice by %d: %d", n, k, got)
			}
		}
	}
	for k := range 11 {
		l := make([]bool, 1<<k)
		for n := range l {
			l[root.Turn(n, k)] = true
		}
		if slices.Contains(l, false) {
			t.Errorf("not all numbers come of %d bits", k)
		}
	}
}

// inverted holds Invert against math/big, number by number.
func inverted(t *testing.T, l []uint64) {
	t.Helper()
	got, ok := root.Invert(l)
	if !ok || len(got) != len(l) {
		t.Errorf("Invert of %d numbers: %d, %v", len(l), len(got), ok)
		return
	}
	for i, a := range l {
		if want := new(big.Int).ModInverse(wide(a), wide(api.P)).Uint64(); got[i] != want {
			t.Errorf("Invert of %d numbers, at %d, of %d: %d, not %d", len(l), i, a, got[i], want)
		}
	}
}

// invertedPairs holds InvertPairs against layer 2, pair by pair.
func invertedPairs(t *testing.T, l []api.Pair) {
	t.Helper()
	got, ok := root.InvertPairs(l)
	if !ok || len(got) != len(l) {
		t.Errorf("InvertPairs of %d pairs: %d, %v", len(l), len(got), ok)
		return
	}
	for i, x := range l {
		if want, _ := pair.Inv(x); got[i] != want {
			t.Errorf("InvertPairs of %d pairs, at %d, of %v: %v, not %v", len(l), i, x, got[i], want)
		}
		if !pair.Right(got[i]) || pair.Mul(got[i], x) != one {
			t.Errorf("InvertPairs of %d pairs, at %d: %v doesn't give 1 with %v", len(l), i, got[i], x)
		}
	}
}

// P3.2: of none, of each one alone, of few and of many what gives 1 with it.
func TestInvert(t *testing.T) {
	for _, l := range [][]uint64{nil, {}} {
		if got, ok := root.Invert(l); !ok || len(got) != 0 {
			t.Errorf("Invert of none: %d, %v", got, ok)
		}
	}
	for n := range 40 {
		inverted(t, numbers(n))
	}
	for _, a := range numbers(60) {
		inverted(t, []uint64{a})
		inverted(t, []uint64{a, a})
		inverted(t, []uint64{2, a})
	}
	inverted(t, numbers(2000))
	if got, ok := root.Invert([]uint64{2, api.P - 1, api.P + 1}); !ok || !slices.Equal(got, []uint64{9223372034707292161, api.P - 1, 1}) {
		t.Errorf("Invert of 2, P - 1 and P + 1: %d, %v", got, ok)
	}
}

// P3.2: likewise of pairs.
func TestInvertPairs(t *testing.T) {
	for _, l := range [][]api.Pair{nil, {}} {
		if got, ok := root.InvertPairs(l); !ok || len(got) != 0 {
			t.Errorf("InvertPairs of none: %v, %v", got, ok)
		}
	}
	for n := range 40 {
		invertedPairs(t, pairs(n))
	}
	for _, x := range pairs(60) {
		invertedPairs(t, []api.Pair{x})
		invertedPairs(t, []api.Pair{x, x})
		invertedPairs(t, []api.Pair{{B: 2}, x})
	}
	invertedPairs(t, pairs(2000))
	// u squared is 7, so that u and u divided by 7 give 1.
	seventh, _ := prime.Inv(7)
	if got, ok := root.InvertPairs([]api.Pair{{B: 1}, {A: api.P + 1, B: api.P}}); !ok || !slices.Equal(got, []api.Pair{{B: seventh}, one}) {
		t.Errorf("InvertPairs of u and 1: %v, %v", got, ok)
	}
}

// P3.2: numbers go with the pairs that they are lifted to.
func TestLifted(t *testing.T) {
	l := numbers(100)
	lifted := make([]api.Pair, len(l))
	for i, a := range l {
		lifted[i] = pair.Lift(a)
	}
	got, _ := root.Invert(l)
	as, ok := root.InvertPairs(lifted)
	if !ok || len(as) != len(got) {
		t.Fatalf("InvertPairs of %d pairs: %d, %v", len(l), len(as), ok)
	}
	for i := range got {
		if as[i] != pair.Lift(got[i]) {
			t.Errorf("at %d: %v, not %d", i, as[i], got[i])
		}
	}
}

// P3.2: none and false, wherever a number leaves 0, and where all do.
func TestInvertZero(t *testing.T) {
	for _, nought := range noughts() {
		for _, n := range []int{1, 2, 3, 10, 100} {
			for i := range n {
				l := numbers(n)
				l[i] = nought
				if got, ok := root.Invert(l); ok || len(got) != 0 {
					t.Errorf("Invert of %d numbers with %d at %d: %d, %v", n, nought, i, got, ok)
				}
			}
			if got, ok := root.Invert(slices.Repeat([]uint64{nought}, n)); ok || len(got) != 0 {
				t.Errorf("Invert of %d times %d: %d, %v", n, nought, got, ok)
			}
		}
	}
}

// P3.2: likewise of pairs; one part that is 0 makes no zero.
func TestInvertPairsZero(t *testing.T) {
	for _, nought := range zeros() {
		for _, n := range []int{1, 2, 3, 10, 100} {
			for i := range n {
				l := pairs(n)
				l[i] = nought
				if got, ok := root.InvertPairs(l); ok || len(got) != 0 {
					t.Errorf("InvertPairs of %d pairs with %v at %d: %v, %v", n, nought, i, got, ok)
				}
			}
			if got, ok := root.InvertPairs(slices.Repeat([]api.Pair{nought}, n)); ok || len(got) != 0 {
				t.Errorf("InvertPairs of %d times %v: %v, %v", n, nought, got, ok)
			}
		}
	}
	invertedPairs(t, []api.Pair{{A: 5}, {B: 5}, {A: api.P, B: 5}, {A: 5, B: api.P}})
}

// P3.2: what is handed in stays as it is, the room behind it too, and the answer shares none of it.
func TestKept(t *testing.T) {
	for n := range 6 {
		for _, nought := range []bool{false, true} {
			l, m := numbers(10), pairs(10)
			if nought {
				l[0], m[0] = api.P, api.Pair{B: api.P}
			}
			wasL, wasM := slices.Clone(l), slices.Clone(m)
			got, _ := root.Invert(l[:n])
			as, _ := root.InvertPairs(m[:n])
			if !slices.Equal(l, wasL) || !slices.Equal(m, wasM) {
				t.Errorf("the lists are now %d and %v", l, m)
			}
			overwrite(got, as)
			if !slices.Equal(l, wasL) || !slices.Equal(m, wasM) {
				t.Errorf("answers share what was handed in: %d and %v", l, m)
			}
		}
	}
}

// overwrite fills two lists and the room behind them.
func overwrite(l []uint64, m []api.Pair) {
	for i := range l[:cap(l)] {
		l[:cap(l)][i] = 99
	}
	for i := range m[:cap(m)] {
		m[:cap(m)][i] = api.Pair{A: 99, B: 99}
	}
}

// P3.2: answers are as they were when another call is made, and nothing is kept of one that was written over.
func TestAgain(t *testing.T) {
	first, _ := root.Invert(numbers(20))
	firstPairs, _ := root.InvertPairs(pairs(20))
	was, wasPairs := slices.Clone(first), slices.Clone(firstPairs)
	root.Invert([]uint64{3, 4, 5})
	root.InvertPairs([]api.Pair{{A: 3}, {B: 4}})
	if !slices.Equal(first, was) || !slices.Equal(firstPairs, wasPairs) {
		t.Error("a later call changed an answer")
	}
	overwrite(first, firstPairs)
	again, _ := root.Invert(numbers(20))
	againPairs, _ := root.InvertPairs(pairs(20))
	if !slices.Equal(again, was) || !slices.Equal(againPairs, wasPairs) {
		t.Error("an answer that was written over changed a later one")
	}
}

// Many goroutines may ask at once, of the same lists, and get what one alone gets.
func TestAtOnce(t *testing.T) {
	l, m := numbers(200), pairs(200)
	want, _ := root.Invert(l)
	wantPairs, _ := root.InvertPairs(m)
	var wg sync.WaitGroup
	for range 8 {
		wg.Go(func() {
			got, ok := root.Invert(l)
			as, fine := root.InvertPairs(m)
			if !ok || !fine || !slices.Equal(got, want) || !slices.Equal(as, wantPairs) {
				t.Error("another answer at once")
			}
			if root.Of(32) != 1753635133440165772 || root.Log(8) != 3 || root.Turn(6, 3) != 3 {
				t.Error("another answer at once")
			}
		})
	}
	wg.Wait()
}
