package judge_test

import (
	"math"
	"math/big"
	"slices"
	"sync"
	"testing"

	"assayer/api"
	"assayer/chain"
	"assayer/fold"
	"assayer/judge"
	"assayer/ntt"
	"assayer/pair"
)

const top = math.MaxUint64

func wide(a uint64) *big.Int { return new(big.Int).SetUint64(a) }

// modulo is the field's size as a number of no bound.
var modulo = wide(api.P)

// left is what x leaves modulo P, worked out by another means than the program's.
func left(x *big.Int) uint64 { return new(big.Int).Mod(x, modulo).Uint64() }

// power is a to the n, modulo P.
func power(a, n *big.Int) *big.Int { return new(big.Int).Exp(a, n, modulo) }

// under is what gives 1 with x, modulo P.
func under(x *big.Int) *big.Int { return new(big.Int).ModInverse(x, modulo) }

// point is the place i of a word of 2^m values that was folded so often.
func point(m, folds, i int) *big.Int {
	squared := new(big.Int).Lsh(big.NewInt(1), uint(folds))
	order := power(big.NewInt(7), new(big.Int).Rsh(wide(api.P-1), uint(m)))
	x := power(order, big.NewInt(int64(i)))
	return x.Mul(x, power(big.NewInt(7), squared)).Mod(x, modulo)
}

// more is x + y, and less is x - y, worked out by numbers of no bound.
func more(x, y api.Pair) api.Pair {
	return api.Pair{A: left(new(big.Int).Add(wide(x.A), wide(y.A))), B: left(new(big.Int).Add(wide(x.B), wide(y.B)))}
}

func less(x, y api.Pair) api.Pair {
	return api.Pair{A: left(new(big.Int).Sub(wide(x.A), wide(y.A))), B: left(new(big.Int).Sub(wide(x.B), wide(y.B)))}
}

// times is x times y, where u squared is 7.
func times(x, y api.Pair) api.Pair {
	a := new(big.Int).Mul(wide(x.B), wide(y.B))
	a.Mul(a, big.NewInt(7)).Add(a, new(big.Int).Mul(wide(x.A), wide(y.A)))
	b := new(big.Int).Mul(wide(x.A), wide(y.B))
	return api.Pair{A: left(a), B: left(b.Add(b, new(big.Int).Mul(wide(x.B), wide(y.A))))}
}

// over is x times a number.
func over(x api.Pair, n *big.Int) api.Pair {
	return api.Pair{A: left(new(big.Int).Mul(wide(x.A), n)), B: left(new(big.Int).Mul(wide(x.B), n))}
}

// folded is what a and b, half way round, fold to by a pair.
func folded(a, b, by api.Pair, x *big.Int) api.Pair {
	odd := over(less(a, b), under(x))
	return over(more(more(a, b), times(by, odd)), under(big.NewInt(2)))
}

// comes is what a polynomial comes to, as a sum of its coefficients times powers.
func comes(l []api.Pair, x *big.Int) api.Pair {
	out := api.Pair{}
	for i, c := range l {
		out = more(out, over(c, power(x, big.NewInt(int64(i)))))
	}
	return out
}

// spread is a rule that gives ordinary numbers over all 64 bits, always the same ones.
func spread() func() uint64 {
	x := uint64(0x9e3779b97f4a7c15)
	return func() uint64 {
		x ^= x << 13
		x ^= x >> 7
		x ^= x << 17
		return x
	}
}

// edges are pairs where parts are 0, or where words or the field begin and end, as they are kept and not.
func edges() []api.Pair {
	return []api.Pair{
		{}, {A: 1}, {B: 1}, {A: top, B: api.P}, {A: api.P, B: top}, {A: api.P, B: api.P}, {A: api.P - 1}, {B: api.P - 1},
		{A: api.P - 1, B: api.P - 1}, {A: api.P + 1, B: api.P + 2}, {A: top, B: top}, {A: 7}, {A: 1<<32 - 1, B: 1 << 48}, {A: 1 << 63, B: 1 << 32},
	}
}

// pairs are n: edges first, then ordinary ones.
func pairs(n int) []api.Pair {
	l := edges()
	for next := spread(); len(l) < n; {
		l = append(l, api.Pair{A: next(), B: next()})
	}
	return l[:n]
}

// factors are lists of n to fold by: ordinary ones, edges, zeros as they are kept and not, numbers that are not as they are kept.
func factors(n int) [][]api.Pair {
	out := [][]api.Pair{pairs(n + 20)[20:], pairs(n + 9)[9:], pairs(n)}
	for _, x := range []api.Pair{{}, {A: api.P, B: api.P}, {A: 3}, {B: 1}, {A: top, B: api.P + 1}} {
		out = append(out, slices.Repeat([]api.Pair{x}, n))
	}
	return out
}

// view is what a call is given.
type view struct {
	k      int
	p      api.Params
	by     []api.Pair
	place  int
	first  [2]api.Pair
	layers [][2]api.Pair
	final  []api.Pair
}

func (v view) right() bool { return judge.Right(v.k, v.p, v.by, v.place, v.layers, v.final) }

func (v view) taken() bool {
	return judge.Judge(v.k, v.p, v.by, v.place, v.first, v.layers, v.final)
}

// copied is a view that shares nothing with v.
func (v view) copied() view {
	v.by, v.layers, v.final = slices.Clone(v.by), slices.Clone(v.layers), slices.Clone(v.final)
	return v
}

// twice is 1, doubled n times; 0 of an n below 0 or of one above 30.
func twice(n int) int {
	if n < 0 || n > 30 {
		return 0
	}
	out := 1
	for range n {
		out += out
	}
	return out
}

// places are how many there are.
func (v view) places() int { return twice(v.k+v.p.Blow) / 2 }

// bare is a view of as much as there must be, all of it zero.
func bare(k, blow, folds int) view {
	return view{
		k: k, p: api.Params{Blow: blow, Folds: folds}, by: make([]api.Pair, folds),
		layers: make([][2]api.Pair, max(1, folds)-1), final: make([]api.Pair, twice(k-folds)),
	}
}

// walk gives where each fold goes on from a place, and which of two values is asked there.
func (v view) walk(to func(j, at, side int)) {
	at := v.place
	for j := range v.p.Folds {
		half := twice(v.k+v.p.Blow-j) / 4
		side := 0
		for at >= half {
			at, side = at-half, side+1
		}
		to(j, at, side)
	}
}

// gaps are by how much each value that is asked misses what it must be, worked out by numbers of no bound.
func (v view) gaps() []api.Pair {
	m := v.k + v.p.Blow
	if v.p.Folds == 0 {
		far := v.place + twice(m)/2
		return []api.Pair{less(v.first[0], comes(v.final, point(m, 0, v.place))), less(v.first[1], comes(v.final, point(m, 0, far)))}
	}
	var out []api.Pair
	values, at := v.first, v.place
	v.walk(func(j, next, side int) {
		got := folded(values[0], values[1], v.by[j], point(m-j, j, at))
		if j < len(v.layers) {
			values, at = v.layers[j], next
			out = append(out, less(values[side], got))
			return
		}
		// The place is one of all places of the last word, not of its first half alone.
		out = append(out, less(comes(v.final, point(m-j-1, j+1, at)), got))
	})
	return out
}

// bend makes each value that is asked miss what it must be by just so much, one behind another.
func (v *view) bend(by []api.Pair) {
	for j, x := range by {
		missing := less(x, v.gaps()[j])
		if v.p.Folds == 0 {
			v.first[j] = more(v.first[j], missing)
		} else if j == len(v.layers) {
			v.final[0] = more(v.final[0], missing)
		} else {
			v.walk(func(i, _, side int) {
				if i == j {
					v.layers[j][side] = more(v.layers[j][side], missing)
				}
			})
		}
	}
}

// forged is a view of values that no word has, all of which fold into one another as they must.
func forged(k, blow, folds, place, from int) view {
	v := bare(k, blow, folds)
	v.place = place
	next := pairs(from + 2000)[from:]
	take := func() api.Pair {
		x := next[0]
		next = next[1:]
		return x
	}
	v.first = [2]api.Pair{take(), take()}
	for i := range v.layers {
		v.layers[i] = [2]api.Pair{take(), take()}
	}
	for i := range v.by {
		v.by[i] = take()
	}
	for i := range v.final {
		v.final[i] = take()
	}
	v.bend(make([]api.Pair, max(2-folds-folds, folds)))
	return v
}

// shapes gives all counts of rows, points and folds up to some rows.
func shapes(most int, to func(k, blow, folds int)) {
	for k := range most + 1 {
		for blow := 1; blow <= 4; blow++ {
			for folds := range k + 1 {
				to(k, blow, folds)
			}
		}
	}
}

// some are places: all of few, and of many the first ones, those about a half and a quarter, and the last ones.
func some(n int) []int {
	var l []int
	for i := range n {
		if i < 3 || i >= n-3 || i >= n/4-1 && i <= n/4+1 || i >= n/2-1 && i <= n/2+1 {
			l = append(l, i)
		}
	}
	return l
}

// halves are a polynomial's even coefficients, and by times the odd ones, put together.
func halves(l []api.Pair, by api.Pair) []api.Pair {
	out := make([]api.Pair, (len(l)+1)/2)
	for i, x := range l {
		if i%2 == 1 {
			x = times(by, x)
		}
		out[i/2] = more(out[i/2], x)
	}
	return out
}

// honest are a polynomial's word, those of what it folds to one by one, but for the last one, and the last polynomial.
func honest(k, blow int, by, coefficients []api.Pair) ([][]api.Pair, []api.Pair) {
	var words [][]api.Pair
	for j := range max(1, len(by)) {
		l := make([]api.Pair, twice(k+blow-j))
		for i := range l {
			l[i] = comes(coefficients, point(k+blow-j, j, i))
		}
		words = append(words, l)
		if j < len(by) {
			coefficients = halves(coefficients, by[j])
		}
	}
	return words, coefficients
}

// seen is a view of words at a place.
func seen(k, blow int, by []api.Pair, words [][]api.Pair, final []api.Pair, place int) view {
	v := bare(k, blow, len(by))
	v.by, v.final, v.place = by, final, place
	at := place
	for j, l := range words {
		half := len(l) / 2
		at %= half
		if j == 0 {
			v.first = [2]api.Pair{l[at], l[at+half]}
		} else {
			v.layers[j-1] = [2]api.Pair{l[at], l[at+half]}
		}
	}
	return v
}

// takes holds Judge against whether the place is taken, where there is as much as there must be.
func takes(t *testing.T, v view, want bool) {
	t.Helper()
	if !v.right() {
		t.Errorf("Right of 2^%d rows, %v, place %d: false", v.k, v.p, v.place)
	}
	if v.taken() != want {
		t.Errorf("Judge of 2^%d rows, %v, place %d: %v", v.k, v.p, v.place, !want)
	}
}

// P22.1: the chapter's example, 1 + 2 X folded by 3, is taken with 7 in the end and with nothing else, at each place.
func TestExample(t *testing.T) {
	l := []api.Pair{{A: 15}, {A: 3940649673949185}, {A: 18446744069414584308}, {A: 18442803419740635138}}
	for place := range 2 {
		first := [2]api.Pair{l[place], l[place+2]}
		for _, x := range []struct {
			final api.Pair
			want  bool
		}{
			{api.Pair{A: 7}, true}, {api.Pair{A: 7 + api.P, B: api.P}, true}, {api.Pair{A: 6}, false}, {api.Pair{A: 8}, false}, {api.Pair{A: 7, B: 1}, false}, {api.Pair{}, false},
		} {
			v := view{k: 1, p: api.Params{Blow: 1, Folds: 1}, by: []api.Pair{{A: 3}}, place: place, first: first, final: []api.Pair{x.final}}
			takes(t, v, x.want)
		}
		takes(t, view{k: 1, p: api.Params{Blow: 1}, place: place, first: first, final: []api.Pair{{A: 1}, {A: 2}}}, true)
		takes(t, view{k: 1, p: api.Params{Blow: 1}, place: place, first: first, final: []api.Pair{{A: 1}, {A: 3}}}, false)
	}
}

// written is a polynomial's word at a place and half way round, those that it folds to, and the last polynomial, as another program worked them out.
type written struct {
	place int
	first [2]api.Pair
	rest  [][2]api.Pair
	final []api.Pair
}

// writtenOnes are of 2^3 coefficients, each of them folded once more often than there are pairs in rest.
func writtenOnes() []written {
	one := []api.Pair{{A: 120259084236, B: 12884901888}, {A: 240518168476, B: 30064771072}, {A: 360777252716, B: 47244640256}, {A: 94489280481, B: 18446744056529682453}}
	two := []api.Pair{{A: 2585570311640, B: 1606317768104}, {A: 292057776665, B: 549755813802}}
	three := []api.Pair{{A: 4599909972322, B: 687194766804}}
	near := [2]api.Pair{{A: 3537090251941233, B: 4346477}, {A: 18443206979165745672, B: 18446744069413580628}}
	nearer := [2]api.Pair{{A: 11994701192419845, B: 18445343094034655061}, {A: 18436482061107875180, B: 1627869912242348}}
	nearest := [2]api.Pair{{A: 703816292084305, B: 1321570026706706}, {A: 18446045424263123296, B: 18445425712023413823}}
	both := [2]api.Pair{{A: 14930064634354301250, B: 10979345101829072642}, {A: 3726884380821366465, B: 7693773549348215043}}
	beside := [2]api.Pair{{A: 15251717433666688345, B: 3241952339931048649}, {A: 15300697515711144985, B: 2955001657863820393}}
	between := [2]api.Pair{{A: 4323433856171507798, B: 9223371949177045593}, {A: 14123315384383699803, B: 9223375332873074936}}
	far := [2]api.Pair{{A: 5519052003518242804, B: 18326395546156353969}, {A: 12975244419428953615, B: 173187465171133012}}
	farther := [2]api.Pair{{A: 8249418978484550474, B: 12237611233331522161}, {A: 9415906815712986191, B: 6209132861839343504}}
	farthest := [2]api.Pair{{A: 17029105631734938329, B: 227035364316538792}, {A: 1417643608820269272, B: 18219711917733581737}}
	return []written{
		{0, near, [][2]api.Pair{}, one}, {5, both, [][2]api.Pair{}, one}, {15, far, [][2]api.Pair{}, one},
		{0, near, [][2]api.Pair{nearer}, two}, {5, both, [][2]api.Pair{beside}, two}, {15, far, [][2]api.Pair{farther}, two},
		{0, near, [][2]api.Pair{nearer, nearest}, three}, {5, both, [][2]api.Pair{beside, between}, three}, {15, far, [][2]api.Pair{farther, farthest}, three},
	}
}

// P22.1: words that another program folded, by pairs that are not as they are kept too.
func TestWritten(t *testing.T) {
	by := []api.Pair{{A: api.P + 1, B: top}, {A: 5, B: 6}, {A: top, B: api.P}}
	for _, x := range writtenOnes() {
		folds := len(x.rest) + 1
		for place := range 16 {
			p := api.Params{Blow: 2, Folds: folds, Queries: 1}
			takes(t, view{3, p, by[:folds], place, x.first, x.rest, x.final}, place == x.place)
		}
	}
	whole := []api.Pair{{A: 1, B: 2}, {A: 3, B: 4}, {A: 5, B: 6}, {A: 7, B: 8}, {A: 9, B: 10}, {A: 11, B: 12}, {A: 13, B: 14}, {A: top, B: api.P + 3}}
	first := [2]api.Pair{{A: 12507622734198997259, B: 6205960129369342184}, {A: 2795608202498539972, B: 3179540844083675676}}
	for place := range 16 {
		takes(t, view{k: 3, p: api.Params{Blow: 2}, place: place, first: first, final: whole}, place == 9)
	}
}

// must is whether there is as much as there must be, told in the chapter's order.
func must(v view) bool {
	if v.k < 0 || v.k > 10 || v.p.Blow < 1 || v.p.Blow > 4 || v.p.Folds < 0 || v.p.Folds > v.k {
		return false
	}
	folded := v.p.Folds - 1
	if v.p.Folds == 0 {
		folded = 0
	}
	return len(v.by) == v.p.Folds && v.place >= 0 && v.place < v.places() && len(v.layers) == folded && len(v.final) == twice(v.k-v.p.Folds)
}

// rights holds Right against the rule; of nothing but zeros Judge is the same.
func rights(t *testing.T, v view) {
	t.Helper()
	want := must(v)
	if v.right() != want || v.taken() != want {
		t.Errorf("2^%d rows, %v, %d to fold by, place %d, %d folded pairs, %d coefficients: Right %v, Judge of zeros %v", v.k, v.p, len(v.by), v.place, len(v.layers), len(v.final), v.right(), v.taken())
	}
}

// near are counts about n, and those far from it, none of them below 0.
func near(n int) []int {
	l := []int{0, 1, 2, n - 1, n, n + 1, n + n}
	l = slices.DeleteFunc(l, func(x int) bool { return x < 0 })
	slices.Sort(l)
	return slices.Compact(l)
}

// wheres are places about the ends of n, and of an int.
func wheres(n int) []int {
	return []int{math.MinInt, math.MinInt + 1, -1 << 32, -n, -2, -1, 0, 1, n / 2, n - 2, n - 1, n, n + 1, n + n - 1, n + n, 1 << 32, 1<<32 + 1, math.MaxInt - 1, math.MaxInt}
}

// P22.1: counts of all kinds beside one another, of all rows, points and folds that may be; Judge is false wherever Right is.
func TestRight(t *testing.T) {
	by, layers, final := make([]api.Pair, 40), make([][2]api.Pair, 40), make([]api.Pair, 1<<12)
	shapes(10, func(k, blow, folds int) {
		v := bare(k, blow, folds)
		rights(t, v)
		for _, place := range wheres(v.places()) {
			for _, n := range near(folds) {
				for _, pairs := range near(max(0, folds-1)) {
					for _, many := range near(twice(k - folds)) {
						rights(t, view{k, v.p, by[:n], place, [2]api.Pair{}, layers[:pairs], final[:many]})
					}
				}
			}
		}
	})
}

// counts are those of rows, points and folds: what may be, what lies beside it, and the ends of an int.
func counts() []int {
	l := []int{math.MinInt, math.MinInt + 1, math.MinInt + 10, -1 << 32, -65, -64, -63, -11, -5, -4, -2, -1}
	for n := range 17 {
		l = append(l, n)
	}
	return append(l, 31, 32, 33, 62, 63, 64, 65, 1<<32, 1<<32+1, 1<<32+10, math.MaxInt-10, math.MaxInt-1, math.MaxInt)
}

// P22.1: rows, points and folds of any count, with as much of all else as would belong to them: just those that may be are right.
func TestRightCounts(t *testing.T) {
	by, layers, final := make([]api.Pair, 40), make([][2]api.Pair, 40), make([]api.Pair, 1<<16)
	for _, k := range counts() {
		for _, blow := range counts() {
			for _, folds := range append(counts(), k-1, k, k+1) {
				n := max(0, min(folds, 40))
				for _, many := range []int{0, 1, min(twice(k-folds), 1<<16), min(twice(k), 1<<16)} {
					for _, place := range []int{0, max(0, twice(k+blow)/2-1)} {
						rights(t, view{k, api.Params{Blow: blow, Folds: folds}, by[:n], place, [2]api.Pair{}, layers[:max(0, n-1)], final[:many]})
					}
				}
			}
		}
	}
}

// P22.1: how many places are asked for, and how many bits the work has, bears on nothing.
func TestRightOthers(t *testing.T) {
	for folds := range 4 {
		good := forged(3, 2, folds, 9, 20)
		for _, n := range counts() {
			for _, bits := range counts() {
				v := good
				v.p.Queries, v.p.Grind = n, bits
				takes(t, v, true)
				v.p.Blow = 5
				if v.right() || v.taken() {
					t.Errorf("%v: true", v.p)
				}
			}
		}
	}
}

// P22.1: a list of nothing may be nil or empty; where there must be more, neither is right.
func TestRightNone(t *testing.T) {
	for blow := 1; blow <= 4; blow++ {
		for _, by := range [][]api.Pair{nil, {}, pairs(9)[:0]} {
			for _, layers := range [][][2]api.Pair{nil, {}, make([][2]api.Pair, 9)[:0]} {
				p := api.Params{Blow: blow}
				rights(t, view{k: 0, p: p, by: by, layers: layers, final: make([]api.Pair, 1)})
				rights(t, view{k: 0, p: p, by: by, layers: layers, final: by})
				for k := 1; k <= 10; k++ {
					rights(t, view{k: k, p: p, by: by, layers: layers, final: make([]api.Pair, 1<<k)})
					rights(t, view{k: k, p: p, by: by, layers: layers, final: by})
					for folds := 1; folds <= k; folds++ {
						p := api.Params{Blow: blow, Folds: folds}
						rights(t, view{k: k, p: p, by: by, layers: make([][2]api.Pair, folds-1), final: make([]api.Pair, 1<<(k-folds))})
						rights(t, view{k: k, p: p, by: make([]api.Pair, folds), layers: layers, final: make([]api.Pair, 1<<(k-folds))})
						rights(t, view{k: k, p: p, by: make([]api.Pair, folds), layers: make([][2]api.Pair, folds-1), final: by})
					}
				}
			}
		}
	}
}

// P22.1: lists of very many, where few are asked for, are wrong.
func TestRightMany(t *testing.T) {
	by, layers, final := make([]api.Pair, 1<<20), make([][2]api.Pair, 1<<20), make([]api.Pair, 1<<20)
	shapes(10, func(k, blow, folds int) {
		for i := range 4 {
			v := bare(k, blow, folds)
			if i == 0 || i == 3 {
				v.by = by
			}
			if i == 1 || i == 3 {
				v.layers = layers
			}
			if i == 2 || i == 3 {
				v.final = final
			}
			rights(t, v)
		}
	})
}

// P22.1: Judge is false wherever Right is, where values would be taken: one of each list fewer, one more, and places that there aren't.
func TestJudgeRight(t *testing.T) {
	shapes(5, func(k, blow, folds int) {
		good := forged(k, blow, folds, 0, 20)
		takes(t, good, true)
		var wrong []view
		add := func(change func(v *view)) {
			v := good.copied()
			change(&v)
			wrong = append(wrong, v)
		}
		add(func(v *view) { v.by = append(v.by, api.Pair{}) })
		add(func(v *view) { v.layers = append(v.layers, [2]api.Pair{}) })
		add(func(v *view) { v.final = append(v.final, api.Pair{}) })
		add(func(v *view) { v.final = append(v.final, make([]api.Pair, len(v.final))...) })
		add(func(v *view) { v.final = v.final[:len(v.final)-1] })
		add(func(v *view) { v.place += v.places() })
		add(func(v *view) { v.place += 2 * v.places() })
		add(func(v *view) { v.place -= 2 * v.places() })
		if folds > 0 {
			add(func(v *view) { v.by = v.by[:folds-1] })
		}
		if folds > 1 {
			add(func(v *view) { v.layers = v.layers[:folds-2] })
		}
		for _, v := range wrong {
			if v.right() || v.taken() {
				t.Errorf("2^%d rows, %v, %d to fold by, place %d, %d folded pairs, %d coefficients: %v, %v", v.k, v.p, len(v.by), v.place, len(v.layers), len(v.final), v.right(), v.taken())
			}
		}
	})
}

// misses are by how much a value may miss what it must be.
func misses() []api.Pair {
	return []api.Pair{{A: 1}, {B: 1}, {A: api.P - 1}, {B: api.P - 1}, {A: 1 << 32}, {A: 1<<32 - 1}, {B: 1 << 63}, {A: 5, B: 6}}
}

// P22.1: without folds each of two values is held against the polynomial, by itself: a place is taken just where both fit, in their order.
func TestNoFolds(t *testing.T) {
	for k := range 7 {
		for blow := 1; blow <= 4; blow++ {
			for _, place := range some(twice(k + blow - 1)) {
				good := forged(k, blow, 0, place, place%30)
				takes(t, good, true)
				takes(t, swapped(good), good.first[0] == good.first[1])
				for _, x := range misses() {
					for _, by := range [][]api.Pair{{x, {}}, {{}, x}, {x, x}, {x, less(api.Pair{}, x)}} {
						v := good.copied()
						v.bend(by)
						takes(t, v, false)
					}
					for i := range good.final {
						v := good.copied()
						v.final[i] = more(v.final[i], x)
						takes(t, v, false)
					}
				}
			}
		}
	}
}

// swapped has the two values of the first pair in the other order.
func swapped(v view) view {
	v.first[0], v.first[1] = v.first[1], v.first[0]
	return v
}

// P22.1: each comparison on the way by itself, and each set of them: a place is taken just where all fit, whichever fails.
func TestFolds(t *testing.T) {
	shapes(5, func(k, blow, folds int) {
		for i, place := range some(twice(k + blow - 1)) {
			good := forged(k, blow, folds, place, 15+i)
			for set := range 1 << folds {
				v := good.copied()
				by := make([]api.Pair, folds)
				for j := range by {
					if set>>j&1 == 1 {
						by[j] = misses()[(i+j)%len(misses())]
					}
				}
				v.bend(by)
				takes(t, v, set == 0)
			}
		}
	})
}

// P22.1: as many folds and points as there may be, each comparison by itself.
func TestFoldsMost(t *testing.T) {
	for _, folds := range []int{1, 2, 9, 10} {
		for _, place := range []int{0, 1, 1<<12 - 1, 1 << 12, 5555, 1<<13 - 1} {
			good := forged(10, 4, folds, place, 15)
			takes(t, good, true)
			for j := range folds {
				v := good.copied()
				by := make([]api.Pair, folds)
				by[j] = api.Pair{B: 1}
				v.bend(by)
				takes(t, v, false)
			}
		}
	}
}

// P22.1: any other value of the first pair, of each folded pair on both sides, and of the last polynomial is seen, of values and pairs that nothing singles out.
func TestFoldsOther(t *testing.T) {
	shapes(6, func(k, blow, folds int) {
		for _, place := range some(twice(k + blow - 1)) {
			good := forged(k, blow, folds, place, 30)
			for _, x := range misses() {
				for side := range 2 {
					v := good
					v.first[side] = more(v.first[side], x)
					takes(t, v, false)
					for j := range v.layers {
						v := good.copied()
						v.layers[j][side] = more(v.layers[j][side], x)
						takes(t, v, false)
					}
				}
				for i := range good.final {
					v := good.copied()
					v.final[i] = more(v.final[i], x)
					takes(t, v, false)
				}
				for j := range good.by {
					v := good.copied()
					v.by[j] = more(v.by[j], x)
					takes(t, v, false)
				}
			}
		}
	})
}

// P22.1: which side of a folded pair is asked: below h the first value, from h on the second. By a place's own number the first value alone goes on, by the opposite one the second alone, so that the other one is free where it isn't asked.
func TestSides(t *testing.T) {
	for k := 2; k <= 5; k++ {
		for blow := 1; blow <= 4; blow++ {
			for _, place := range some(twice(k + blow - 1)) {
				for j := range k - 1 {
					for goes := range 2 {
						sides(t, k, blow, place, j, goes)
					}
				}
			}
		}
	}
}

// sides holds which changes of the folded pair j are seen, where the value that goes on from it is the first or the second.
func sides(t *testing.T, k, blow, place, j, goes int) {
	t.Helper()
	v := forged(k, blow, k, place, 16)
	asked := 0
	v.walk(func(i, at, side int) {
		if i == j {
			x := point(k+blow-j-1, j+1, at)
			if goes == 1 {
				x.Sub(modulo, x)
			}
			v.by[j+1], asked = api.Pair{A: left(x)}, side
		}
	})
	v.bend(make([]api.Pair, k))
	takes(t, v, true)
	for side := range 2 {
		other := v.copied()
		other.layers[j][side] = more(other.layers[j][side], api.Pair{A: 1, B: 1})
		takes(t, other, side != asked && side != goes)
	}
}

// P22.1: of words that nothing singles out, what is seen at a place is taken at that place alone.
func TestPlaces(t *testing.T) {
	for k := range 4 {
		for blow := 1; blow <= 2; blow++ {
			for folds := range k + 1 {
				by := pairs(40 + folds)[40:]
				words, final := honest(k, blow, by, pairs(20 + 1<<k)[20:])
				if k == 0 {
					// A word of one value all over is taken wherever it is seen.
					continue
				}
				for from := range twice(k + blow - 1) {
					for place := range twice(k + blow - 1) {
						v := seen(k, blow, by, words, final, from)
						v.place = place
						takes(t, v, place == from)
					}
				}
			}
		}
	}
}

// P22.1: small views of few numbers, of which some are taken and most aren't, as another way of reckoning tells.
func TestGaps(t *testing.T) {
	few := []api.Pair{{}, {A: 1}, {A: api.P - 1}, {A: api.P}}
	had := [2]int{}
	shapes(2, func(k, blow, folds int) {
		next := spread()
		for range 400 {
			v := bare(k, blow, folds)
			v.place = int(next() % uint64(v.places()))
			pick := func() api.Pair { return few[next()%5%4] }
			v.first = [2]api.Pair{pick(), pick()}
			for i := range v.layers {
				v.layers[i] = [2]api.Pair{pick(), pick()}
			}
			for i := range v.by {
				v.by[i] = pick()
			}
			for i := range v.final {
				v.final[i] = pick()
			}
			want := !slices.ContainsFunc(v.gaps(), func(x api.Pair) bool { return x != (api.Pair{}) })
			takes(t, v, want)
			if want {
				had[1]++
			} else {
				had[0]++
			}
		}
	})
	if had[0] < 1000 || had[1] < 300 {
		t.Errorf("%d aren't taken and %d are", had[0], had[1])
	}
}

// ways are all writings of a number.
func ways(a uint64) []uint64 {
	a %= api.P
	if a+api.P < a {
		return []uint64{a}
	}
	return []uint64{a, a + api.P}
}

// writings are all of a pair.
func writings(x api.Pair) []api.Pair {
	var out []api.Pair
	for _, a := range ways(x.A) {
		for _, b := range ways(x.B) {
			out = append(out, api.Pair{A: a, B: b})
		}
	}
	return out
}

// P22.1: values count modulo P: those of one value all over, each of them written in any way, fold into one another by any pairs.
func TestWays(t *testing.T) {
	for _, x := range edges() {
		l, zeros := writings(x), writings(api.Pair{})
		shapes(4, func(k, blow, folds int) {
			for i, by := range factors(folds) {
				v := bare(k, blow, folds)
				v.by, v.place = by, v.places()-1
				pick := func(n int) api.Pair { return l[(n+i)%len(l)] }
				v.first = [2]api.Pair{pick(0), pick(1)}
				for j := range v.layers {
					v.layers[j] = [2]api.Pair{pick(j + 2), pick(j + i/2)}
				}
				for j := range v.final {
					v.final[j] = zeros[(j+i)%4]
				}
				v.final[0] = pick(3)
				takes(t, v, true)
				v.final[0] = more(v.final[0], api.Pair{B: 1})
				takes(t, v, false)
			}
		})
	}
}

// P22.1: each value, written in another way, is the same one, wherever it stands.
func TestWaysEach(t *testing.T) {
	shapes(5, func(k, blow, folds int) {
		for from := range 12 {
			raw := forged(k, blow, folds, (from*7)%twice(k+blow-1), from)
			takes(t, raw, true)
			takes(t, plain(raw), true)
			raw.final[len(raw.final)-1].A++
			takes(t, raw, false)
			takes(t, plain(raw), false)
		}
	})
}

// plain is a view of the same values, as they are kept.
func plain(v view) view {
	v = v.copied()
	zero := api.Pair{}
	v.first = [2]api.Pair{more(v.first[0], zero), more(v.first[1], zero)}
	for i, x := range v.layers {
		v.layers[i] = [2]api.Pair{more(x[0], zero), more(x[1], zero)}
	}
	for _, l := range [][]api.Pair{v.by, v.final} {
		for i, x := range l {
			l[i] = more(x, zero)
		}
	}
	return v
}

// P22.2: an honest word is taken at each place, folded any number of times by any pairs.
func TestHonest(t *testing.T) {
	shapes(4, func(k, blow, folds int) {
		for i, by := range factors(folds) {
			words, final := honest(k, blow, by, pairs(1<<k + i)[i:])
			for place := range twice(k + blow - 1) {
				takes(t, seen(k, blow, by, words, final, place), true)
			}
		}
	})
}

// P22.2: an honest word as layers 4 and 21 tell it, of as many values as there may be too, is taken at each place.
func TestHonestMost(t *testing.T) {
	for _, x := range []struct{ k, blow int }{{5, 4}, {7, 3}, {8, 1}, {9, 2}, {10, 1}, {10, 4}} {
		l, _ := ntt.ForthPairs(pairs(1<<x.k + 5)[5:], 7, x.k+x.blow)
		for _, folds := range []int{0, 1, 2, x.k / 2, x.k - 1, x.k} {
			by := pairs(folds + 33)[33:]
			words, _ := chain.Words(l, by)
			final, ok := chain.Final(words[folds], folds, 1<<(x.k-folds))
			if !ok {
				t.Fatalf("of 2^%d coefficients, folded %d times: none", x.k, folds)
			}
			for place := range twice(x.k + x.blow - 1) {
				takes(t, seen(x.k, x.blow, by, words[:max(1, folds)], final, place), true)
			}
		}
	}
}

// P22.2: with one value of the word another, all places are taken but its own; with a last polynomial that agrees nowhere, none is.
func TestHonestOther(t *testing.T) {
	for k := 1; k <= 4; k++ {
		for folds := range k + 1 {
			by := pairs(40 + folds)[40:]
			words, final := honest(k, 1, by, pairs(20 + 1<<k)[20:])
			for i := range words[0] {
				was := words[0][i]
				words[0][i] = more(was, api.Pair{A: 1})
				for place := range twice(k) {
					takes(t, seen(k, 1, by, words, final, place), place != i%twice(k))
				}
				words[0][i] = was
			}
			other := slices.Clone(final)
			other[0].B++
			for place := range twice(k) {
				takes(t, seen(k, 1, by, words, other, place), false)
			}
		}
	}
}

// P22.2: a word of eight values that is a polynomial's but at one place is taken at three of four places; folded by one pair alone, at all four.
func TestEight(t *testing.T) {
	for i := range 8 {
		for _, x := range misses() {
			for _, by := range pairs(34)[14:] {
				words, final := honest(2, 1, []api.Pair{by}, pairs(40)[36:])
				words[0][i] = more(words[0][i], x)
				for place := range 4 {
					takes(t, seen(2, 1, []api.Pair{by}, words, final, place), place != i%4)
				}
			}
			// At the opposite number of its own place a value doesn't go on.
			by := api.Pair{A: left(point(3, 0, (i+4)%8))}
			words, final := honest(2, 1, []api.Pair{by}, pairs(40)[36:])
			words[0][i] = more(words[0][i], x)
			for place := range 4 {
				takes(t, seen(2, 1, []api.Pair{by}, words, final, place), true)
			}
		}
	}
}

// P22.1: Judge folds as layer 20's One does, at its Points.
func TestOne(t *testing.T) {
	for k := 1; k <= 10; k++ {
		for _, place := range some(twice(k + 1)) {
			v := bare(k, 2, 1)
			v.place, v.first, v.by = place, [2]api.Pair{pairs(30)[28], pairs(30)[29]}, pairs(31)[30:]
			got, ok := fold.One(v.first[0], v.first[1], v.by[0], fold.Point(k+2, 0, place))
			if !ok {
				t.Fatalf("One at the place %d: none", place)
			}
			v.final[0] = got
			takes(t, v, true)
			v.final[0] = pair.Add(got, api.Pair{B: 1})
			takes(t, v, false)
			v.final[0] = pair.Neg(got)
			takes(t, v, false)
		}
	}
}

// roomy is a view whose lists have room behind their ends, with other numbers in it.
func roomy(v view) view {
	v.by = append(slices.Clone(v.by), pairs(30)...)[:len(v.by)]
	v.final = append(slices.Clone(v.final), pairs(30)...)[:len(v.final)]
	v.layers = append(slices.Clone(v.layers), make([][2]api.Pair, 30)...)[:len(v.layers)]
	return v
}

// stays holds that a view is as it was, the room behind its lists too.
func stays(t *testing.T, v, was view) {
	t.Helper()
	fine := slices.Equal(v.by[:cap(v.by)], was.by[:cap(was.by)]) && slices.Equal(v.final[:cap(v.final)], was.final[:cap(was.final)])
	if !fine || !slices.Equal(v.layers[:cap(v.layers)], was.layers[:cap(was.layers)]) {
		t.Errorf("2^%d rows, %v: what was handed in is another list now", v.k, v.p)
	}
}

// whole is a copy of a view with the room behind its lists.
func whole(v view) view {
	v.by = slices.Clone(v.by[:cap(v.by)])[:len(v.by)]
	v.final = slices.Clone(v.final[:cap(v.final)])[:len(v.final)]
	v.layers = slices.Clone(v.layers[:cap(v.layers)])[:len(v.layers)]
	return v
}

// P22.1: what a call is given stays as it is, the room behind it too, and the answer doesn't hang on that room.
func TestKept(t *testing.T) {
	shapes(5, func(k, blow, folds int) {
		for from := range 6 {
			v := roomy(forged(k, blow, folds, 0, from*4))
			was := whole(v)
			takes(t, v, true)
			stays(t, v, was)
			v.final[0] = more(v.final[0], api.Pair{A: 1})
			was = whole(v)
			takes(t, v, false)
			stays(t, v, was)
			v.place = -1
			if v.right() || v.taken() {
				t.Errorf("2^%d rows, %v, a place below 0: true", k, v.p)
			}
			stays(t, v, was)
		}
	})
}

// views are some, every third of which is taken.
func views() []view {
	var l []view
	shapes(4, func(k, blow, folds int) {
		v := forged(k, blow, folds, twice(k+blow-1)-1, 11)
		other := v.copied()
		other.first[1].A++
		short := v.copied()
		short.final = short.final[1:]
		l = append(l, v, other, short)
	})
	return l
}

// answers are of each view both.
func answers(l []view) []bool {
	var out []bool
	for _, v := range l {
		out = append(out, v.right(), v.taken())
	}
	return out
}

// P22.1: a call hangs on its arguments alone: asked in another order, and again, each answers the same.
func TestAgain(t *testing.T) {
	l := views()
	want := slices.Repeat([]bool{true, true, true, false, false, false}, len(l)/3)
	for range 3 {
		if !slices.Equal(answers(l), want) {
			t.Error("another answer, asked again")
		}
	}
	slices.Reverse(l)
	for i, v := range l {
		if v.taken() != (i%3 == 2) || v.right() != (i%3 > 0) {
			t.Errorf("another answer, asked in another order, at %d", i)
		}
	}
}

// P22.1: many goroutines may ask at once, of the same lists, and get what one alone gets.
func TestAtOnce(t *testing.T) {
	l := views()
	want := answers(l)
	var wg sync.WaitGroup
	for range 8 {
		wg.Go(func() {
			for range 20 {
				if !slices.Equal(answers(l), want) {
					t.Error("another answer at once")
				}
			}
		})
	}
	wg.Wait()
}
