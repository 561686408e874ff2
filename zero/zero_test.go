package zero_test

import (
	"math"
	"math/big"
	"sync"
	"testing"

	"assayer/api"
	"assayer/zero"
)

const top = 1<<64 - 1

var (
	nought = api.Pair{}
	one    = api.Pair{A: 1}
)

func wide(a uint64) *big.Int { return new(big.Int).SetUint64(a) }

// left is what x leaves modulo P, worked out by another means than the program's.
func left(x *big.Int) uint64 { return new(big.Int).Mod(x, wide(api.P)).Uint64() }

// kept is x with both parts as they are kept.
func kept(x api.Pair) api.Pair { return api.Pair{A: x.A % api.P, B: x.B % api.P} }

// minus is x - y, by math/big.
func minus(x, y api.Pair) api.Pair {
	return api.Pair{A: left(new(big.Int).Sub(wide(x.A), wide(y.A))), B: left(new(big.Int).Sub(wide(x.B), wide(y.B)))}
}

// times is x times y, by math/big.
func times(x, y api.Pair) api.Pair {
	a := new(big.Int).Mul(wide(x.B), wide(y.B))
	a.Mul(a, big.NewInt(7)).Add(a, new(big.Int).Mul(wide(x.A), wide(y.A)))
	b := new(big.Int).Mul(wide(x.A), wide(y.B))
	b.Add(b, new(big.Int).Mul(wide(x.B), wide(y.A)))
	return api.Pair{A: left(a), B: left(b)}
}

// number is base to the n, by math/big.
func number(base uint64, n *big.Int) uint64 {
	return new(big.Int).Exp(wide(base), n, wide(api.P)).Uint64()
}

// order is the root of the order 2^k, of which all points are powers.
func order(k int) uint64 { return number(7, new(big.Int).Rsh(wide(api.P-1), uint(k))) }

// point is the point of row i of 2^k, by math/big; 0 of an i below 0.
func point(k, i int) uint64 {
	if i < 0 {
		return 0
	}
	return number(order(k), big.NewInt(int64(i)))
}

// by is a times b, by math/big.
func by(a, b uint64) uint64 { return left(new(big.Int).Mul(wide(a), wide(b))) }

// under is a with which b gives 1, by math/big.
func under(b uint64) uint64 { return new(big.Int).ModInverse(wide(b), wide(api.P)).Uint64() }

// spread are n ordinary pairs over all bits, always the same ones.
func spread(n int) []api.Pair {
	x := uint64(0x9e3779b97f4a7c15)
	next := func() uint64 {
		x ^= x << 13
		x ^= x >> 7
		x ^= x << 17
		return x
	}
	l := make([]api.Pair, n)
	for i := range l {
		l[i] = api.Pair{A: next(), B: next()}
	}
	return l
}

// pairs are pairs where parts are 0, or where words or the field begin and end, as they are kept and not, then ordinary ones.
func pairs() []api.Pair {
	return append([]api.Pair{
		nought, one, {B: 1}, {A: 2}, {A: 7}, {B: 7}, {A: api.P - 1}, {B: api.P - 1}, {A: api.P}, {B: api.P}, {A: api.P, B: api.P},
		{A: api.P + 1}, {A: api.P + 1, B: api.P}, {B: api.P + 1}, {A: api.P + 7}, {A: api.P + 2, B: api.P + 1}, {A: api.P, B: 5},
		{A: 5, B: api.P}, {A: top}, {B: top}, {A: top, B: top}, {A: api.P - 1, B: api.P - 1}, {A: 3, B: 1}, {A: 1, B: 1},
		{A: 1<<32 - 1, B: 1 << 48}, {A: 1 << 48}, {A: 1 << 63, B: 1 << 32}, {A: 8}, {A: api.P + 8, B: api.P},
	}, spread(10)...)
}

// written are all ways in which x, which is as it is kept, may be written.
func written(x api.Pair) []api.Pair {
	l := []api.Pair{x}
	if x.A <= top-api.P {
		l = append(l, api.Pair{A: x.A + api.P, B: x.B})
	}
	for _, y := range l {
		if y.B <= top-api.P {
			l = append(l, api.Pair{A: y.A, B: y.B + api.P})
		}
	}
	return l
}

// rows are numbers of rows: all of few, and of many the first and the last ones, those half way round and beside, and ordinary ones.
func rows(k int) []int {
	n := 1 << k
	if n <= 64 {
		l := make([]int, n)
		for i := range l {
			l[i] = i
		}
		return l
	}
	return []int{0, 1, 2, 3, 5, n/4 - 1, n / 4, n/2 - 1, n / 2, n/2 + 1, n / 3, n - n/7, n - 3, n - 2, n - 1}
}

// beyond are numbers of rows that aren't among 2^k: below 0, behind the last one, and the ends of int.
func beyond(k int) []int {
	n := 1 << k
	return []int{
		math.MinInt, math.MinInt + 1, -1 << 62, -1 << 32, -2 * n, -n - 1, -n, -3, -2, -1,
		n, n + 1, n + n/2, 2*n - 1, 2 * n, 2*n + 1, 5*n + 3, 1<<32 - 1, 1 << 32, 1<<32 + 1,
		1<<62 - 1, 1 << 62, 1<<62 + 1, math.MaxInt - n, math.MaxInt - 1, math.MaxInt,
	}
}

// at holds Row and Place against what they are asked.
func at(t *testing.T, k, i int, row uint64) {
	t.Helper()
	if got := zero.Row(k, i); got != row {
		t.Errorf("row %d of 2^%d: %d, not %d", i, k, got, row)
	}
	if got, want := zero.Place(k, i), by(7, row); got != want {
		t.Errorf("place %d of 2^%d: %d, not %d", i, k, got, want)
	}
}

// P6.1: points of rows and places, of each k: 0 of an i below 0, the root to the i of all others, of those behind the last row too.
func TestPoints(t *testing.T) {
	for k := range 31 {
		for _, i := range append(rows(k), beyond(k)...) {
			at(t, k, i, point(k, i))
			if i < 0 {
				at(t, k, i, 0)
			}
		}
		for _, i := range rows(k) {
			// All the way round, it is the same point again.
			at(t, k, i+1<<k, point(k, i))
			at(t, k, i+7<<k, point(k, i))
		}
		at(t, k, 0, 1)
		at(t, k, 1<<k, 1)
		at(t, k, 1<<k-1, under(order(k)))
		at(t, k, 2<<k-1, under(order(k)))
		at(t, k, math.MaxInt, under(order(k)))
	}
}

// P6.1, the chapter's example, and points that are written out.
func TestPointsWritten(t *testing.T) {
	for _, x := range []struct {
		k, i       int
		row, place uint64
	}{
		{1, 1, api.P - 1, api.P - 7}, {1, 0, 1, 7}, {1, 2, 1, 7}, {1, 3, api.P - 1, api.P - 7}, {1, -1, 0, 0}, {1, math.MinInt, 0, 0},
		{0, 0, 1, 7}, {0, 1, 1, 7}, {0, 5, 1, 7}, {0, math.MaxInt, 1, 7}, {0, -1, 0, 0},
		{2, 1, 1 << 48, 7 << 48}, {2, 2, api.P - 1, api.P - 7}, {2, 3, api.P - 1<<48, api.P - 7<<48},
		{6, 5, 8, 56}, {6, 10, 64, 448}, {6, 69, 8, 56},
		{30, 1, 9123114210336311365, by(7, 9123114210336311365)}, {30, 1 << 29, api.P - 1, api.P - 7}, {30, 1 << 30, 1, 7}, {30, 1 << 24 * 5, 8, 56},
		{30, -1, 0, 0}, {3, -1, 0, 0}, {3, -8, 0, 0},
	} {
		if got := zero.Row(x.k, x.i); got != x.row {
			t.Errorf("row %d of 2^%d: %d, not %d", x.i, x.k, got, x.row)
		}
		if got := zero.Place(x.k, x.i); got != x.place {
			t.Errorf("place %d of 2^%d: %d, not %d", x.i, x.k, got, x.place)
		}
	}
}

// P6.1: no two rows, no two places, and no row and place are at one point.
func TestPointsUnlike(t *testing.T) {
	for k := range 10 {
		seen := map[uint64]int{0: -1}
		for i := range 1 << k {
			for _, x := range []uint64{zero.Row(k, i), zero.Place(k, i)} {
				if j, ok := seen[x]; ok {
					t.Errorf("of 2^%d: %d and %d are both at %d", k, i, j, x)
				}
				seen[x] = i
			}
		}
	}
}

// gap holds Gap against what it is asked.
func gap(t *testing.T, x api.Pair, k int, want api.Pair, ok bool) {
	t.Helper()
	got, is := zero.Gap(x, k)
	if got != want || is != ok {
		t.Errorf("Gap of %v and 2^%d: %v, %v, not %v, %v", x, k, got, is, want, ok)
	}
}

// last tells whether x is the last row's point.
func last(x api.Pair, k int) bool { return kept(x) == api.Pair{A: point(k, 1<<k-1)} }

// P6.1: of few rows, the gap is the product of what is 0 at each of them but the last.
func TestGap(t *testing.T) {
	for k := range 8 {
		for _, x := range append(pairs(), points(k)...) {
			want := one
			for i := range 1<<k - 1 {
				want = times(want, minus(x, api.Pair{A: point(k, i)}))
			}
			if last(x, k) {
				gap(t, x, k, nought, false)
			} else {
				gap(t, x, k, want, true)
			}
		}
	}
}

// points are those of rows and places of 2^k, in all ways in which they may be written, and each with a second part.
func points(k int) []api.Pair {
	var l []api.Pair
	for _, i := range rows(k) {
		for _, a := range []uint64{point(k, i), by(7, point(k, i))} {
			l = append(append(l, written(api.Pair{A: a})...), written(api.Pair{A: a, B: 1})...)
		}
	}
	return l
}

// P6.1: of any number of rows, the gap times x less the last row's point is x to the 2^k, less 1.
func TestGapMany(t *testing.T) {
	for k := range 31 {
		for _, x := range pairs() {
			if last(x, k) {
				gap(t, x, k, nought, false)
				continue
			}
			all := x
			for range k {
				all = times(all, all)
			}
			got, ok := zero.Gap(x, k)
			if !ok || got != kept(got) || times(got, minus(x, api.Pair{A: point(k, 1<<k-1)})) != minus(all, one) {
				t.Errorf("Gap of %v and 2^%d: %v, %v", x, k, got, ok)
			}
		}
	}
}

// P6.2: the gap is 0 at all rows but the last; there is none at the last one; it isn't 0 at places and at what has a second part.
func TestGapRows(t *testing.T) {
	for k := range 31 {
		for _, i := range rows(k) {
			for _, x := range written(api.Pair{A: zero.Row(k, i)}) {
				gap(t, x, k, nought, i != 1<<k-1)
			}
			for _, x := range []api.Pair{{A: zero.Place(k, i)}, {A: zero.Row(k, i), B: 1}, {A: zero.Row(k, i), B: api.P - 1}, {B: zero.Row(k, i)}} {
				if got, ok := zero.Gap(x, k); !ok || got == nought {
					t.Errorf("Gap of %v and 2^%d: %v, %v", x, k, got, ok)
				}
			}
		}
	}
}

// P6.1: none and false at the last row's point, also where it is that only as it is kept.
func TestGapLast(t *testing.T) {
	for k := range 31 {
		x := under(order(k))
		for _, y := range []api.Pair{{A: x}, {A: x, B: api.P}} {
			gap(t, y, k, nought, false)
		}
		if got, ok := zero.Gap(api.Pair{A: x, B: api.P + 1}, k); !ok || got == nought {
			t.Errorf("Gap beside the last row's point of 2^%d: %v, %v", k, got, ok)
		}
	}
	gap(t, api.Pair{A: api.P + 1}, 0, nought, false)
	gap(t, api.Pair{A: api.P + 1, B: api.P}, 0, nought, false)
}

// P6.1: gaps that are written out; of one row it is 1.
func TestGapWritten(t *testing.T) {
	for _, x := range pairs() {
		if last(x, 0) {
			gap(t, x, 0, nought, false)
		} else {
			gap(t, x, 0, one, true)
		}
	}
	gap(t, one, 0, nought, false)
	gap(t, one, 1, nought, true)
	gap(t, api.Pair{A: api.P - 1}, 1, nought, false)
	gap(t, api.Pair{A: 2}, 1, one, true)
	gap(t, api.Pair{A: 5, B: 3}, 1, api.Pair{A: 4, B: 3}, true)
	gap(t, api.Pair{A: api.P + 5, B: api.P + 3}, 1, api.Pair{A: 4, B: 3}, true)
	gap(t, api.Pair{A: api.P}, 1, api.Pair{A: api.P - 1}, true)
	// u to the 4, less 1, is 48.
	gap(t, api.Pair{B: 1}, 2, times(api.Pair{A: 48}, inverse(api.Pair{A: 1 << 48, B: 1})), true)
}

// inverse is what gives 1 with x: its turn, divided by its norm.
func inverse(x api.Pair) api.Pair {
	turn := api.Pair{A: x.A, B: api.P - x.B}
	return times(turn, api.Pair{A: under(times(x, turn).A)})
}

// P6.1: x less the row's point, of any row, behind the last one and below 0 too.
func TestSpot(t *testing.T) {
	for k := range 31 {
		for _, i := range append(rows(k), beyond(k)...) {
			want := api.Pair{A: point(k, i)}
			for _, x := range append(pairs(), written(want)...) {
				if got := zero.Spot(x, k, i); got != minus(x, want) {
					t.Errorf("Spot of %v and row %d of 2^%d: %v", x, i, k, got)
				}
			}
			if i < 0 && zero.Spot(api.Pair{A: top, B: api.P + 5}, k, i) != (api.Pair{A: 1<<32 - 2, B: 5}) {
				t.Errorf("Spot of row %d of 2^%d is not that of 0", i, k)
			}
		}
	}
}

// P6.1: a spot is 0 at its own row alone.
func TestSpotRows(t *testing.T) {
	for k := range 31 {
		for _, i := range rows(k) {
			for _, j := range rows(k) {
				if got := zero.Spot(api.Pair{A: zero.Row(k, j)}, k, i); (got == nought) != (i == j) {
					t.Errorf("Spot of row %d of 2^%d at row %d: %v", i, k, j, got)
				}
			}
			for _, x := range []api.Pair{{A: zero.Place(k, i)}, {A: zero.Row(k, i), B: 1}, {B: zero.Row(k, i)}} {
				if zero.Spot(x, k, i) == nought {
					t.Errorf("Spot of row %d of 2^%d is 0 at %v", i, k, x)
				}
			}
		}
	}
	if got := zero.Spot(api.Pair{A: 5}, 1, 1); got != (api.Pair{A: 6}) {
		t.Errorf("Spot of 5 and the second row of two: %v", got)
	}
	if got := zero.Spot(api.Pair{A: 5, B: 2}, 0, 0); got != (api.Pair{A: 4, B: 2}) {
		t.Errorf("Spot of 5 + 2 u and one row: %v", got)
	}
}

// out holds Out against what it is asked, however x is written.
func out(t *testing.T, x api.Pair, k, m int, want bool) {
	t.Helper()
	for _, y := range written(x) {
		if got := zero.Out(y, k, m); got != want {
			t.Errorf("Out of %v, 2^%d rows and 2^%d places: %v", y, k, m, got)
		}
	}
}

// P6.1: of few rows and places, out is just what is none of them and not 0.
func TestOut(t *testing.T) {
	for k := range 6 {
		for m := range 6 {
			within := map[api.Pair]int{nought: 1}
			for i := range 1 << k {
				within[api.Pair{A: point(k, i)}] = 1
			}
			for i := range 1 << m {
				within[api.Pair{A: by(7, point(m, i))}] = 1
			}
			for _, x := range append(append(pairs(), points(6)...), shifted(6)...) {
				out(t, kept(x), k, m, within[kept(x)] == 0)
				if got := zero.Out(x, k, m); got != (within[kept(x)] == 0) {
					t.Errorf("Out of %v, 2^%d rows and 2^%d places: %v", x, k, m, got)
				}
			}
		}
	}
}

// shifted are points of 2^k rows by shifts that are no place's, and times u.
func shifted(k int) []api.Pair {
	var l []api.Pair
	for _, i := range rows(k) {
		x := point(k, i)
		l = append(l, api.Pair{A: by(49, x)}, api.Pair{A: by(under(7), x)}, api.Pair{A: by(6, x)}, api.Pair{B: x}, api.Pair{B: by(7, x)}, api.Pair{A: x, B: x})
	}
	return l
}

// sizes are the k and m that are asked of many rows and places: m less than k, the same, and greater, the ends too.
func sizes() [][2]int {
	return [][2]int{{0, 0}, {0, 1}, {1, 0}, {0, 30}, {30, 0}, {30, 30}, {29, 30}, {30, 29}, {10, 14}, {14, 10}, {10, 10}, {1, 2}, {2, 1}, {3, 7}, {17, 16}, {16, 17}}
}

// P6.1: neither a row's point nor a place's is out, of any number of them; those of twice as many are, but for the ones that are of as many.
func TestOutMany(t *testing.T) {
	for _, s := range sizes() {
		k, m := s[0], s[1]
		out(t, nought, k, m, false)
		for _, i := range rows(k) {
			out(t, api.Pair{A: point(k, i)}, k, m, false)
			out(t, api.Pair{A: point(k+1, 2*i)}, k, m, false)
			out(t, api.Pair{A: point(k+1, 2*i+1)}, k, m, true)
			out(t, api.Pair{A: point(k, i), B: 1}, k, m, true)
			out(t, api.Pair{B: point(k, i)}, k, m, true)
		}
		for _, i := range rows(m) {
			out(t, api.Pair{A: by(7, point(m, i))}, k, m, false)
			out(t, api.Pair{A: by(7, point(m+1, 2*i))}, k, m, false)
			out(t, api.Pair{A: by(7, point(m+1, 2*i+1))}, k, m, true)
			out(t, api.Pair{A: by(7, point(m, i)), B: api.P - 1}, k, m, true)
			out(t, api.Pair{B: by(7, point(m, i))}, k, m, true)
		}
		for _, i := range []int{0, 1, 1<<30 - 1} {
			for _, shift := range []uint64{2, 3, 5, 6, 14, 49, under(7), api.P - 49} {
				out(t, api.Pair{A: by(shift, point(30, i))}, k, m, !power(shift, point(30, i), k, m))
			}
		}
		for _, x := range spread(10) {
			out(t, kept(x), k, m, true)
		}
	}
}

// power tells whether shift times x, or that divided by 7, gives 1 by so many squares.
func power(shift, x uint64, k, m int) bool {
	row, place := by(shift, x), by(by(shift, x), under(7))
	return number(row, new(big.Int).Lsh(big.NewInt(1), uint(k))) == 1 || number(place, new(big.Int).Lsh(big.NewInt(1), uint(m))) == 1
}

// P6.1: what is out, written out; rows hang on k alone, and places on m.
func TestOutWritten(t *testing.T) {
	for _, x := range []struct {
		x    api.Pair
		k, m int
		want bool
	}{
		{api.Pair{A: 2}, 1, 2, true}, {api.Pair{A: 7}, 1, 2, false}, {one, 1, 2, false}, {nought, 1, 2, false}, {api.Pair{A: 1, B: 1}, 3, 5, true},
		{nought, 0, 0, false}, {one, 0, 0, false}, {api.Pair{A: 7}, 0, 0, false}, {api.Pair{A: 2}, 0, 0, true}, {api.Pair{A: api.P - 1}, 0, 0, true},
		{api.Pair{A: api.P - 7}, 0, 0, true}, {api.Pair{A: api.P - 1}, 1, 0, false}, {api.Pair{A: api.P - 7}, 1, 0, true},
		{api.Pair{A: api.P - 1}, 0, 1, true}, {api.Pair{A: api.P - 7}, 0, 1, false}, {api.Pair{B: 1}, 1, 1, true}, {api.Pair{B: 7}, 30, 30, true},
		{api.Pair{A: 1 << 48}, 2, 0, false}, {api.Pair{A: 1 << 48}, 1, 4, true}, {api.Pair{A: 7 << 48}, 0, 2, false}, {api.Pair{A: 7 << 48}, 4, 1, true},
		{api.Pair{A: 8}, 6, 0, false}, {api.Pair{A: 8}, 5, 30, true}, {api.Pair{A: 56}, 0, 6, false}, {api.Pair{A: 56}, 30, 5, true},
		{api.Pair{A: 49}, 30, 30, true}, {api.Pair{A: 8, B: 1}, 30, 30, true}, {api.Pair{A: 2}, 30, 30, true}, {api.Pair{A: 3, B: 1}, 30, 30, true},
	} {
		out(t, x.x, x.k, x.m, x.want)
	}
	for _, x := range []api.Pair{{A: api.P}, {B: api.P}, {A: api.P, B: api.P}, {A: api.P + 1}, {A: api.P + 1, B: api.P}, {A: api.P + 7}, {A: 7, B: api.P}} {
		if zero.Out(x, 3, 5) {
			t.Errorf("%v is out", x)
		}
	}
	for _, x := range []api.Pair{{A: api.P, B: 1}, {B: api.P + 1}, {A: api.P + 2}, {A: 1, B: api.P + 1}, {A: top, B: top}} {
		if !zero.Out(x, 3, 5) {
			t.Errorf("%v isn't out", x)
		}
	}
}

// P1: no call panics; of what isn't asked, nothing else is held.
func TestEnds(t *testing.T) {
	ks := []int{math.MinInt, -64, -2, -1, 31, 32, 33, 62, 63, 64, 65, 1 << 32, math.MaxInt}
	for _, k := range append(ks, 0, 30) {
		for _, i := range []int{math.MinInt, -1, 0, 1, 1 << 32, math.MaxInt} {
			zero.Row(k, i)
			zero.Place(k, i)
			for _, x := range pairs() {
				zero.Gap(x, k)
				zero.Spot(x, k, i)
				zero.Out(x, k, i)
				zero.Out(x, i, k)
			}
		}
	}
}

// Many goroutines may ask at once, and get what one alone gets.
func TestAtOnce(t *testing.T) {
	x := api.Pair{A: 3, B: 1}
	want, _ := zero.Gap(x, 30)
	var wg sync.WaitGroup
	for range 8 {
		wg.Go(func() {
			for range 100 {
				got, ok := zero.Gap(x, 30)
				if got != want || !ok || zero.Row(1, 1) != api.P-1 || zero.Place(1, 1) != api.P-7 {
					t.Error("another answer at once")
				}
				if zero.Spot(x, 1, 1) != (api.Pair{A: 4, B: 1}) || !zero.Out(x, 30, 30) || zero.Out(api.Pair{A: 8}, 30, 30) {
					t.Error("another answer at once")
				}
			}
		})
	}
	wg.Wait()
}
