package count_test

import (
	"math"
	"math/big"
	"slices"
	"sync"
	"testing"

	"assayer/api"
	"assayer/chain"
	"assayer/count"
	"assayer/fold"
	"assayer/judge"
	"assayer/ntt"
)

const top = math.MaxUint64

func wide(a uint64) *big.Int { return new(big.Int).SetUint64(a) }

// modulo is the field's size as a number of no bound.
var modulo = wide(api.P)

// left is what x leaves modulo P, worked out by another means than the program's.
func left(x *big.Int) uint64 { return new(big.Int).Mod(x, modulo).Uint64() }

// power is a to the n, modulo P.
func power(a, n *big.Int) *big.Int { return new(big.Int).Exp(a, n, modulo) }

// under is what gives 1 with x, modulo P.
func under(x *big.Int) *big.Int { return new(big.Int).ModInverse(x, modulo) }

// point is the place i of a word of 2^m values that was folded so often, as far as a shift changes with it.
func point(m, folds, i int) *big.Int {
	squared := new(big.Int).Lsh(big.NewInt(1), uint(max(0, min(folds, 64))))
	order := power(big.NewInt(7), new(big.Int).Rsh(wide(api.P-1), uint(m)))
	x := power(order, big.NewInt(int64(i)))
	return x.Mul(x, power(big.NewInt(7), squared)).Mod(x, modulo)
}

// more is x + y, and less is x - y, worked out by numbers of no bound.
func more(x, y api.Pair) api.Pair {
	return api.Pair{A: left(new(big.Int).Add(wide(x.A), wide(y.A))), B: left(new(big.Int).Add(wide(x.B), wide(y.B)))}
}

func less(x, y api.Pair) api.Pair {
	return api.Pair{A: left(new(big.Int).Sub(wide(x.A), wide(y.A))), B: left(new(big.Int).Sub(wide(x.B), wide(y.B)))}
}

// times is x times y, where u squared is 7.
func times(x, y api.Pair) api.Pair {
	a := new(big.Int).Mul(wide(x.B), wide(y.B))
	a.Mul(a, big.NewInt(7)).Add(a, new(big.Int).Mul(wide(x.A), wide(y.A)))
	b := new(big.Int).Mul(wide(x.A), wide(y.B))
	return api.Pair{A: left(a), B: left(b.Add(b, new(big.Int).Mul(wide(x.B), wide(y.A))))}
}

// over is x times a number.
func over(x api.Pair, n *big.Int) api.Pair {
	return api.Pair{A: left(new(big.Int).Mul(wide(x.A), n)), B: left(new(big.Int).Mul(wide(x.B), n))}
}

// turned is what gives 1 with x: its turn, A - B u, by the product of both.
func turned(x api.Pair) api.Pair {
	turn := api.Pair{A: left(wide(x.A)), B: less(api.Pair{}, x).B}
	return over(turn, under(wide(times(x, turn).A)))
}

// folded is what a and b, half way round, fold to by a pair.
func folded(a, b, by api.Pair, x *big.Int) api.Pair {
	odd := over(less(a, b), under(x))
	return over(more(more(a, b), times(by, odd)), under(big.NewInt(2)))
}

// comes is what a polynomial comes to, as a sum of its coefficients times powers.
func comes(l []api.Pair, x *big.Int) api.Pair {
	out := api.Pair{}
	for i, c := range l {
		out = more(out, over(c, power(x, big.NewInt(int64(i)))))
	}
	return out
}

// spread is a rule that gives ordinary numbers over all 64 bits, always the same ones.
func spread() func() uint64 {
	x := uint64(0x9e3779b97f4a7c15)
	return func() uint64 {
		x ^= x << 13
		x ^= x >> 7
		x ^= x << 17
		return x
	}
}

// edges are pairs where parts are 0, or where words or the field begin and end, as they are kept and not.
func edges() []api.Pair {
	return []api.Pair{
		{}, {A: 1}, {B: 1}, {A: top, B: api.P}, {A: api.P, B: top}, {A: api.P, B: api.P}, {A: api.P - 1}, {B: api.P - 1},
		{A: api.P - 1, B: api.P - 1}, {A: api.P + 1, B: api.P + 2}, {A: top, B: top}, {A: 7}, {A: 1<<32 - 1, B: 1 << 48}, {A: 1 << 63, B: 1 << 32},
	}
}

// pairs are n: edges first, then ordinary ones.
func pairs(n int) []api.Pair {
	l := edges()
	for next := spread(); len(l) < n; {
		l = append(l, api.Pair{A: next(), B: next()})
	}
	return l[:n]
}

// ordinary are n pairs that nothing singles out, from some place on.
func ordinary(n, from int) []api.Pair {
	return slices.Clone(pairs(n + from + 14)[from+14:])
}

// kept are the pairs of l as they are kept.
func kept(l []api.Pair) []api.Pair {
	out := make([]api.Pair, len(l))
	for i, x := range l {
		out[i] = more(x, api.Pair{})
	}
	return out
}

// unkept are the pairs of l with P added where there is room for it.
func unkept(l []api.Pair) []api.Pair {
	out := kept(l)
	for i, x := range out {
		if x.A <= top-api.P {
			out[i].A += api.P
		}
		if x.B <= top-api.P {
			out[i].B += api.P
		}
	}
	return out
}

// word are a polynomial's values at the places of a word of 2^m values that was folded so often.
func word(line []api.Pair, m, folds int) []api.Pair {
	out := make([]api.Pair, 1<<m)
	for i := range out {
		out[i] = comes(line, point(m, folds, i))
	}
	return out
}

// wrong is l with 1 + u added at some places, told modulo how many there are.
func wrong(l []api.Pair, places ...int) []api.Pair {
	out := slices.Clone(l)
	for _, i := range places {
		i %= len(l)
		out[i] = more(out[i], api.Pair{A: 1, B: 1})
	}
	return out
}

// shorter is what a word folds to.
func shorter(l []api.Pair, by api.Pair, folds int) []api.Pair {
	m := log(len(l))
	out := make([]api.Pair, len(l)/2)
	for i := range out {
		out[i] = folded(l[i], l[i+len(out)], by, point(m, folds, i))
	}
	return out
}

// log is how often n is halved till 1 is left, for a power of two.
func log(n int) int {
	m := 0
	for 1<<m < n {
		m++
	}
	return m
}

// halves are a polynomial's even coefficients, and by times the odd ones, put together.
func halves(l []api.Pair, by api.Pair) []api.Pair {
	out := make([]api.Pair, (len(l)+1)/2)
	for i, x := range l {
		if i%2 == 1 {
			x = times(by, x)
		}
		out[i/2] = more(out[i/2], x)
	}
	return out
}

// honest are a polynomial's word, those of what it folds to one by one, but for the last one, and the last polynomial.
func honest(k, blow int, by, line []api.Pair) ([][]api.Pair, []api.Pair) {
	var words [][]api.Pair
	for j := range max(1, len(by)) {
		words = append(words, word(line, k+blow-j, j))
		if j < len(by) {
			line = halves(line, by[j])
		}
	}
	return words, line
}

// seen is the chapter's walk, told otherwise: which index is asked in each word, and of how many words.
func seen(words [][]api.Pair, place int) [][2]api.Pair {
	var out [][2]api.Pair
	for _, l := range words {
		half := (len(l) - len(l)%2) / 2
		if half < 1 || place < 0 {
			return out
		}
		place -= place / half * half
		out = append(out, [2]api.Pair{l[place], l[half:][place]})
	}
	return out
}

// sees holds Seen against the walk.
func sees(t *testing.T, words [][]api.Pair, place int) {
	t.Helper()
	first, layers := count.Seen(words, place)
	want := seen(words, place)
	if len(want) == 0 {
		if first != [2]api.Pair{} || len(layers) != 0 {
			t.Errorf("Seen at %d of %d words: %v and %v", place, len(words), first, layers)
		}
		return
	}
	if first != want[0] || !slices.Equal(layers, want[1:]) {
		t.Errorf("Seen at %d of %d words: %v and %v", place, len(words), first, layers)
	}
}

// P23.1, P23.2, P23.3: the chapter's example: a polynomial's word but at one place of eight; three of four places are taken, and by one pair alone all four.
func TestExample(t *testing.T) {
	line := []api.Pair{{A: 1}, {A: 2}}
	p := api.Params{Blow: 2, Folds: 1}
	whole := word(line, 3, 0)
	for place := range 8 {
		bent := slices.Clone(whole)
		bent[place] = api.Pair{B: 5}
		if got := count.Accepts(1, p, []api.Pair{{A: 3}}, [][]api.Pair{whole}, []api.Pair{{A: 7}}); got != 4 {
			t.Errorf("of the whole word: %d", got)
		}
		if got := count.Accepts(1, p, []api.Pair{{A: 3}}, [][]api.Pair{bent}, []api.Pair{{A: 7}}); got != 3 {
			t.Errorf("wrong at %d: %d", place, got)
		}
		if got := count.Agree(bent, 0, line, false); got != 7 {
			t.Errorf("wrong at %d: %d places", place, got)
		}
		if got := count.Agree(bent, 0, line, true); got != 3 {
			t.Errorf("wrong at %d: %d pairs of places", place, got)
		}
		bad, all := count.Bad(bent, 0, 1, 4)
		if all || len(bad) != 1 {
			t.Fatalf("wrong at %d: %v, %v", place, bad, all)
		}
		// 1 + 2 X folded by it is 1 and twice it.
		end := []api.Pair{more(api.Pair{A: 1}, more(bad[0], bad[0]))}
		if got := count.Accepts(1, p, bad, [][]api.Pair{bent}, end); got != 4 {
			t.Errorf("wrong at %d, by %v: %d", place, bad, got)
		}
	}
}

// P23.1: which values are seen, written out: of words each half as long, of such that aren't, of odd numbers of values.
func TestSeen(t *testing.T) {
	l := ordinary(20, 0)
	for _, x := range []struct {
		words  [][]api.Pair
		place  int
		first  [2]api.Pair
		layers [][2]api.Pair
	}{
		{[][]api.Pair{l[:8], l[8:12], l[12:14]}, 0, [2]api.Pair{l[0], l[4]}, [][2]api.Pair{{l[8], l[10]}, {l[12], l[13]}}},
		{[][]api.Pair{l[:8], l[8:12], l[12:14]}, 1, [2]api.Pair{l[1], l[5]}, [][2]api.Pair{{l[9], l[11]}, {l[12], l[13]}}},
		{[][]api.Pair{l[:8], l[8:12], l[12:14]}, 3, [2]api.Pair{l[3], l[7]}, [][2]api.Pair{{l[9], l[11]}, {l[12], l[13]}}},
		{[][]api.Pair{l[:8], l[8:12], l[12:14]}, 4, [2]api.Pair{l[0], l[4]}, [][2]api.Pair{{l[8], l[10]}, {l[12], l[13]}}},
		{[][]api.Pair{l[:8], l[8:12], l[12:14]}, 7, [2]api.Pair{l[3], l[7]}, [][2]api.Pair{{l[9], l[11]}, {l[12], l[13]}}},
		{[][]api.Pair{l[:2]}, 5, [2]api.Pair{l[0], l[1]}, nil},
		{[][]api.Pair{l[:3]}, 5, [2]api.Pair{l[0], l[1]}, nil},
		{[][]api.Pair{l[:5]}, 3, [2]api.Pair{l[1], l[3]}, nil},
		{[][]api.Pair{l[:7]}, 5, [2]api.Pair{l[2], l[5]}, nil},
		{[][]api.Pair{l[:7], l[7:20]}, 8, [2]api.Pair{l[2], l[5]}, [][2]api.Pair{{l[9], l[15]}}},
		{[][]api.Pair{l[:4], l[4:20], l[:8]}, 3, [2]api.Pair{l[1], l[3]}, [][2]api.Pair{{l[5], l[13]}, {l[1], l[5]}}},
		{[][]api.Pair{l[:16], l[:2], l[:16]}, 7, [2]api.Pair{l[7], l[15]}, [][2]api.Pair{{l[0], l[1]}, {l[0], l[8]}}},
		{[][]api.Pair{l[:16], l[:1], l[:16]}, 7, [2]api.Pair{l[7], l[15]}, nil},
		{[][]api.Pair{l[:16], l[:8], {}, l[:16]}, 7, [2]api.Pair{l[7], l[15]}, [][2]api.Pair{{l[3], l[7]}}},
		{[][]api.Pair{l[:1], l[:16]}, 7, [2]api.Pair{}, nil},
		{[][]api.Pair{{}, l[:16]}, 7, [2]api.Pair{}, nil},
		{[][]api.Pair{nil, l[:16]}, 0, [2]api.Pair{}, nil},
		{[][]api.Pair{l[:16], l[:8]}, -1, [2]api.Pair{}, nil},
		{[][]api.Pair{}, 0, [2]api.Pair{}, nil},
		{nil, 0, [2]api.Pair{}, nil},
	} {
		first, layers := count.Seen(x.words, x.place)
		if first != x.first || !slices.Equal(layers, x.layers) {
			t.Errorf("Seen at %d of %d words: %v and %v", x.place, len(x.words), first, layers)
		}
	}
}

// wheres are places about the ends of n, and of an int.
func wheres(n int) []int {
	return []int{math.MinInt, math.MinInt + 1, -1 << 32, -n, -2, -1, 0, 1, 2, n / 2, n - 2, n - 1, n, n + 1, n + n - 1, n + n, 1 << 32, 1<<32 + 1, math.MaxInt - 1, math.MaxInt}
}

// P23.1: words of all lengths behind one another, at places of all kinds.
func TestSeenLengths(t *testing.T) {
	l := pairs(40)
	for _, place := range wheres(6) {
		sees(t, nil, place)
		for a := range 18 {
			sees(t, [][]api.Pair{l[:a]}, place)
			for b := range 18 {
				sees(t, [][]api.Pair{l[:a], l[b : b+b]}, place)
				for c := range 10 {
					sees(t, [][]api.Pair{l[:a], l[b : b+b], l[c:17]}, place)
				}
			}
		}
	}
	long := ordinary(1<<12, 0)
	for _, place := range append(wheres(1<<12), wheres(1<<11)...) {
		var words [][]api.Pair
		for n := len(long); n > 0; n /= 2 {
			words = append(words, long[:n])
			sees(t, words, place)
		}
	}
}

// P23.1: values are seen as they stand there, those too that are not as they are kept, and of very many words.
func TestSeenValues(t *testing.T) {
	l := edges()
	for place := range 20 {
		sees(t, [][]api.Pair{l, l[3:], l[5:9]}, place)
		first, _ := count.Seen([][]api.Pair{l}, place)
		if first != [2]api.Pair{l[place%7], l[place%7+7]} {
			t.Errorf("at %d: %v", place, first)
		}
		sees(t, slices.Repeat([][]api.Pair{l[:4]}, 3000), place)
	}
}

// accepted is at how many places all is as it must be, worked out word by word: which values of each folded word stand in the next one.
func accepted(k, blow int, by []api.Pair, words [][]api.Pair, final []api.Pair) int {
	m := k + blow
	next := append(slices.Clone(words[1:]), word(final, m-len(by), len(by)))
	var good [][]bool
	for j, l := range words {
		got := l
		if len(by) > 0 {
			got = shorter(l, by[j], j)
		}
		if len(by) == 0 {
			next[j] = word(final, m, 0)
		}
		var row []bool
		for i, x := range got {
			row = append(row, less(x, next[j][i]) == api.Pair{})
		}
		good = append(good, row)
	}
	out := 0
	for place := range 1 << (m - 1) {
		ok := len(by) > 0 || good[0][place+1<<(m-1)]
		for _, row := range good {
			if len(by) > 0 {
				ok = ok && row[place%len(row)]
			} else {
				ok = ok && row[place]
			}
		}
		if ok {
			out++
		}
	}
	return out
}

// accepts holds Accepts against the number of places.
func accepts(t *testing.T, k int, p api.Params, by []api.Pair, words [][]api.Pair, final []api.Pair, want int) {
	t.Helper()
	if got := count.Accepts(k, p, by, words, final); got != want {
		t.Errorf("Accepts of 2^%d rows, %v, %d to fold by, %d words, %d coefficients: %d, not %d", k, p, len(by), len(words), len(final), got, want)
	}
}

// shapes gives all counts of rows, points and folds up to some rows.
func shapes(most int, to func(k, blow, folds int)) {
	for k := range most + 1 {
		for blow := 1; blow <= 4; blow++ {
			for folds := range k + 1 {
				to(k, blow, folds)
			}
		}
	}
}

// P23.1: an honest word is taken at all places, of pairs and values of all kinds, as they are kept and not.
func TestAccepts(t *testing.T) {
	shapes(4, func(k, blow, folds int) {
		p := api.Params{Blow: blow, Folds: folds}
		for _, by := range [][]api.Pair{ordinary(folds, 3), pairs(folds), pairs(folds + 9)[9:], make([]api.Pair, folds)} {
			for _, line := range [][]api.Pair{ordinary(1<<k, 50), pairs(1 << k), make([]api.Pair, 1<<k)} {
				words, final := honest(k, blow, by, line)
				accepts(t, k, p, by, words, final, 1<<(k+blow-1))
				for j := range words {
					words[j] = unkept(words[j])
				}
				accepts(t, k, p, unkept(by), words, unkept(final), 1<<(k+blow-1))
			}
		}
	})
}

// P23.1: words that are wrong at some places, the first one or one behind: as many places are taken as lead to none of them.
func TestAcceptsWrong(t *testing.T) {
	shapes(4, func(k, blow, folds int) {
		p := api.Params{Blow: blow, Folds: folds, Queries: 3, Grind: 2}
		by := ordinary(folds, 3)
		for j := range max(1, folds) {
			words, final := honest(k, blow, by, ordinary(1<<k, 50))
			good := words[j]
			for _, places := range [][]int{{0}, {1}, {len(good) - 1}, {0, len(good) / 2}, {0, len(good)/2 - 1}, {1, len(good) / 2, len(good) - 1}} {
				words[j] = wrong(good, places...)
				accepts(t, k, p, by, words, final, accepted(k, blow, by, words, final))
			}
		}
	})
}

// P23.1: words that are no polynomial's, each next one what the last folds to, or any; of last polynomials that go through some of the values.
func TestAcceptsAny(t *testing.T) {
	shapes(3, func(k, blow, folds int) {
		p := api.Params{Blow: blow, Folds: folds}
		by := ordinary(folds, 3)
		free := ordinary(1<<(k+blow), 30)
		chained := [][]api.Pair{free}
		for j := 1; j < folds; j++ {
			chained = append(chained, shorter(chained[j-1], by[j-1], j-1))
		}
		ends := [][]api.Pair{ordinary(1<<(k-folds), 90), make([]api.Pair, 1<<(k-folds))}
		if k == folds && folds > 0 {
			for _, x := range shorter(chained[folds-1], by[folds-1], folds-1) {
				ends = append(ends, []api.Pair{x})
			}
		}
		for _, final := range ends {
			accepts(t, k, p, by, chained, final, accepted(k, blow, by, chained, final))
			var others [][]api.Pair
			for j := range max(1, folds) {
				others = append(others, free[:1<<(k+blow-j)])
			}
			accepts(t, k, p, by, others, final, accepted(k, blow, by, others, final))
		}
	})
}

// most holds Accepts of as many rows and points as there may be, folded so often: of a polynomial's word, of such but at some places, and of another polynomial in the end.
func most(t *testing.T, line, whole []api.Pair, folds int) {
	t.Helper()
	p := api.Params{Blow: 4, Folds: folds}
	by := ordinary(folds, 9)
	final := slices.Clone(line)
	for _, x := range by {
		final = halves(final, x)
	}
	words := count.Words(whole, by)
	accepts(t, 10, p, by, words, final, 1<<13)
	words[0] = wrong(words[0], 0, 5, 1<<13, 1<<13-1, 1<<14-1)
	accepts(t, 10, p, by, words, final, 1<<13-3)
	for _, j := range []int{1, 5, 9}[:len(words)/3] {
		words := count.Words(whole, by)
		words[j] = wrong(words[j], 0)
		// The places that lead there, and those that lead half way round from there.
		accepts(t, 10, p, by, words, final, 1<<13-1<<j)
	}
	final[len(final)-1] = more(final[len(final)-1], api.Pair{A: 1})
	accepts(t, 10, p, by, count.Words(whole, by), final, 0)
}

// P23.1: as many rows, points and folds as there may be: all places, and all but those that lead to a wrong value.
func TestAcceptsMost(t *testing.T) {
	line := ordinary(1<<10, 30)
	whole, _ := ntt.ForthPairs(line, 7, 14)
	var group sync.WaitGroup
	for _, folds := range []int{0, 1, 10} {
		group.Go(func() { most(t, line, whole, folds) })
	}
	group.Wait()
	for _, blow := range []int{1, 4} {
		accepts(t, 0, api.Params{Blow: blow}, nil, [][]api.Pair{slices.Repeat([]api.Pair{{B: 7}}, 1<<blow)}, []api.Pair{{B: 7}}, 1<<(blow-1))
		accepts(t, 0, api.Params{Blow: blow}, nil, [][]api.Pair{wrong(slices.Repeat([]api.Pair{{B: 7}}, 1<<blow), 0)}, []api.Pair{{B: 7}}, 1<<(blow-1)-1)
	}
	short := word(line[:2], 2, 0)
	accepts(t, 1, api.Params{Blow: 1, Folds: 1}, line[:1], [][]api.Pair{short}, halves(line[:2], line[0]), 2)
}

// composed is at how many places layer 22 takes what the chapter's walk sees.
func composed(k int, p api.Params, by []api.Pair, words [][]api.Pair, final []api.Pair) int {
	out := 0
	for place := range 1 << (k + p.Blow - 1) {
		all := seen(words, place)
		first := [2]api.Pair{}
		var layers [][2]api.Pair
		if len(all) > 0 {
			first, layers = all[0], all[1:]
		}
		if judge.Judge(k, p, by, place, first, layers, final) {
			out++
		}
	}
	return out
}

// P23.1: one of each list fewer, one more, words of other lengths, words that count for none, and folds that there can't be.
func TestAcceptsRight(t *testing.T) {
	shapes(3, func(k, blow, folds int) {
		p := api.Params{Blow: blow, Folds: folds}
		by := ordinary(folds+1, 3)
		words, final := honest(k, blow, by[:folds], ordinary(1<<k, 50))
		all := 1 << (k + blow - 1)
		accepts(t, k, p, by[:folds], words, final, all)
		accepts(t, k, p, by, words, final, 0)
		accepts(t, k, p, by[:folds], words, append(final, api.Pair{}), 0)
		accepts(t, k, p, by[:folds], words, append(final, make([]api.Pair, len(final))...), 0)
		accepts(t, k, p, by[:folds], words, final[:len(final)-1], 0)
		accepts(t, k, p, by[:folds], append(words, words[0][:2]), final, 0)
		accepts(t, k, p, by[:folds], append(words, words[0][:1]), final, all)
		accepts(t, k, p, by[:folds], append(words, nil, words[0]), final, all)
		for _, n := range []int{math.MinInt, -1, k + 1, 64, math.MaxInt} {
			accepts(t, k, api.Params{Blow: blow, Folds: n}, by[:folds], words, final, 0)
		}
		for _, n := range []int{math.MinInt, -1, 65, math.MaxInt} {
			accepts(t, k, api.Params{Blow: blow, Folds: folds, Queries: n, Grind: n}, by[:folds], words, final, all)
		}
		if folds > 0 {
			accepts(t, k, p, by[:folds-1], words, final, 0)
		}
		if folds > 1 {
			accepts(t, k, p, by[:folds], words[:folds-1], final, 0)
		}
		for j := range words {
			for _, n := range []int{0, 1, 2, 3, 5, len(words[j]) / 2, len(words[j]) - 1} {
				others := slices.Clone(words)
				others[j] = others[j][:min(n, len(words[j]))]
				accepts(t, k, p, by[:folds], others, final, composed(k, p, by[:folds], others, final))
				others[j] = slices.Repeat(words[j], 4)[:n+len(words[j])]
				accepts(t, k, p, by[:folds], others, final, composed(k, p, by[:folds], others, final))
			}
		}
	})
}

// P23.1: where there are no words, zeros are seen: they are taken where the last polynomial comes to zero, and no more than one fold asks for words.
func TestAcceptsNone(t *testing.T) {
	for _, none := range [][][]api.Pair{nil, {}, {{}}, {nil}, {{{A: 1}}}} {
		for k := range 4 {
			for blow := 1; blow <= 4; blow++ {
				all := 1 << (k + blow - 1)
				accepts(t, k, api.Params{Blow: blow}, nil, none, make([]api.Pair, 1<<k), all)
				accepts(t, k, api.Params{Blow: blow}, nil, none, slices.Repeat([]api.Pair{{A: api.P, B: api.P}}, 1<<k), all)
				accepts(t, k, api.Params{Blow: blow}, nil, none, wrong(make([]api.Pair, 1<<k), 0), 0)
				accepts(t, k, api.Params{Blow: blow}, []api.Pair{}, none, nil, 0)
				for folds := 1; folds <= k; folds++ {
					want := 0
					if folds == 1 {
						want = all
					}
					accepts(t, k, api.Params{Blow: blow, Folds: folds}, ordinary(folds, 3), none, make([]api.Pair, 1<<(k-folds)), want)
				}
			}
		}
	}
}

// P23.1: lists of very many, where few are asked for, are soon told to be too many.
func TestAcceptsMany(t *testing.T) {
	by, final := make([]api.Pair, 1<<20), make([]api.Pair, 1<<20)
	words := slices.Repeat([][]api.Pair{make([]api.Pair, 2)}, 1<<20)
	for _, folds := range []int{0, 1, 10} {
		p := api.Params{Blow: 4, Folds: folds}
		accepts(t, 10, p, by, words[:1], final[:1<<(10-folds)], 0)
		accepts(t, 10, p, by[:folds], words, final[:1<<(10-folds)], 0)
		accepts(t, 10, p, by[:folds], words[:max(1, folds)], final, 0)
	}
}

// chains holds Words against words that are folded one by one.
func chains(t *testing.T, l, by []api.Pair, want [][]api.Pair) {
	t.Helper()
	got := count.Words(l, by)
	if !slices.EqualFunc(got, want, slices.Equal[[]api.Pair]) {
		t.Errorf("Words of %d values by %d: %d words", len(l), len(by), len(got))
	}
}

// P23.1: the word as it is, by no pair and by one; by more what it folds to one by one, but for the last one; none by more than it can be folded by, nor of other words.
func TestWords(t *testing.T) {
	for m := range 7 {
		for _, l := range [][]api.Pair{ordinary(1<<m, 3), pairs(1 << m)} {
			for _, by := range [][]api.Pair{ordinary(9, 80), pairs(9)} {
				want := [][]api.Pair{l}
				chains(t, l, nil, want)
				chains(t, l, []api.Pair{}, want)
				for n := 1; n <= m; n++ {
					chains(t, l, by[:n], want)
					want = append(want, shorter(want[n-1], by[n-1], n-1))
				}
				for n := m + 1; n <= 9; n++ {
					chains(t, l, by[:n], nil)
				}
			}
		}
	}
	for _, n := range []int{0, 3, 5, 6, 7, 9, 12, 15, 17, 100, 1<<10 - 1, 1<<10 + 1} {
		l := pairs(n)
		// A word of any length is as it is, where it isn't folded.
		chains(t, l, nil, [][]api.Pair{l})
		for k := 1; k < 5; k++ {
			chains(t, l, ordinary(k, 3), nil)
		}
	}
	chains(t, nil, nil, [][]api.Pair{{}})
	chains(t, nil, make([]api.Pair, 1<<20), nil)
	chains(t, pairs(4), make([]api.Pair, 1<<20), nil)
}

// P23.1: layer 21's words, but the last one, of as many values as may be folded, and of more.
func TestWordsMost(t *testing.T) {
	l := ordinary(1<<12, 3)
	for n := 2; n <= 12; n++ {
		all, _ := chain.Words(l, ordinary(n, 90))
		chains(t, l, ordinary(n, 90), all[:n])
	}
	chains(t, l, ordinary(13, 90), nil)
	long := make([]api.Pair, 1<<21)
	chains(t, long, nil, [][]api.Pair{long})
	chains(t, long, ordinary(1, 90), nil)
	chains(t, long[1<<20:], ordinary(1, 90), [][]api.Pair{long[1<<20:]})
}

// agreed is which places a polynomial has.
func agreed(l []api.Pair, folds int, line []api.Pair) []bool {
	out := make([]bool, len(l))
	for i, x := range l {
		out[i] = less(x, comes(line, point(log(len(l)), folds, i))) == api.Pair{}
	}
	return out
}

// doubled is at how many places of the first half, and half way round, both hold.
func doubled(l []bool) int {
	out := 0
	for i := range len(l) / 2 {
		if l[i] && l[len(l)/2+i] {
			out++
		}
	}
	return out
}

// single is at how many places it holds.
func single(l []bool) int {
	return len(slices.DeleteFunc(slices.Clone(l), func(x bool) bool { return !x }))
}

// agrees holds Agree against how many places, and pairs of places, there are.
func agrees(t *testing.T, l []api.Pair, folds int, line []api.Pair, places, both int) {
	t.Helper()
	if got := count.Agree(l, folds, line, false); got != places {
		t.Errorf("Agree of %d values folded %d times and %d coefficients: %d places, not %d", len(l), folds, len(line), got, places)
	}
	if got := count.Agree(l, folds, line, true); got != both {
		t.Errorf("Agree of %d values folded %d times and %d coefficients: %d pairs of places, not %d", len(l), folds, len(line), got, both)
	}
}

// manyFolds are how often a word may be told to have been folded.
func manyFolds() []int {
	return []int{math.MinInt, -65, -1, 0, 1, 2, 3, 31, 62, 63, 64, 65, 66, 1 << 32, math.MaxInt - 1, math.MaxInt}
}

// P23.2: a polynomial has all places of its own word, and all pairs of places, of any number of coefficients; wrong ones it hasn't.
func TestAgree(t *testing.T) {
	for m := range 6 {
		n := 1 << m
		for _, folds := range manyFolds() {
			for _, size := range []int{0, 1, 2, n - 1, n, n + 1, 2*n + 1} {
				for _, line := range [][]api.Pair{ordinary(size, 5), pairs(size)} {
					l := word(line, m, folds)
					agrees(t, l, folds, line, n, n/2)
					agrees(t, unkept(l), folds, unkept(line), n, n/2)
					agrees(t, wrong(l, n-1), folds, line, n-1, max(0, n/2-1))
					if n > 3 {
						agrees(t, wrong(l, 1, n/2+1), folds, line, n-2, n/2-1)
						agrees(t, wrong(l, 0, n/2-1, n-2), folds, line, n-3, max(0, n/2-len(slices.Compact([]int{0, n/2 - 2, n/2 - 1}))))
					}
				}
			}
		}
	}
}

// P23.2: which places there are, of words and polynomials of all kinds, worked out one by one.
func TestAgreeAny(t *testing.T) {
	for m := range 5 {
		for folds := -1; folds < 4; folds++ {
			for _, l := range [][]api.Pair{pairs(1 << m), make([]api.Pair, 1<<m), slices.Repeat([]api.Pair{{A: api.P + 1}, {A: 2}}, 1<<m)[:1<<m]} {
				for _, line := range [][]api.Pair{nil, {}, {{}}, {{A: 1}}, {{A: 2}, {}}, {{A: 1}, {A: 1}}, pairs(3), l} {
					has := agreed(l, folds, line)
					agrees(t, l, folds, line, single(has), doubled(has))
				}
			}
			l := word(ordinary(3, 5), m, folds)
			for other := -1; other < 4; other++ {
				has := agreed(l, other, ordinary(3, 5))
				agrees(t, l, other, ordinary(3, 5), single(has), doubled(has))
			}
		}
	}
}

// P23.2: of no power of two of values there is nothing, whatever the polynomial.
func TestAgreeNone(t *testing.T) {
	for n := range 100 {
		if n&(n-1) == 0 && n > 0 {
			continue
		}
		for _, line := range [][]api.Pair{nil, {}, {{}}, pairs(4)} {
			agrees(t, make([]api.Pair, n), 0, line, 0, 0)
		}
	}
	agrees(t, nil, 0, nil, 0, 0)
}

// P23.2: a word of many values.
func TestAgreeMany(t *testing.T) {
	line := ordinary(100, 5)
	l, _ := ntt.ForthPairs(line, fold.Shift(3), 12)
	agrees(t, l, 3, line, 1<<12, 1<<11)
	agrees(t, wrong(l, 0, 1<<11, 1<<12-1), 3, line, 1<<12-3, 1<<11-2)
	agrees(t, make([]api.Pair, 1<<18), 3, []api.Pair{{}, {A: api.P}}, 1<<18, 1<<17)
}

// need is of how many coefficients a polynomial must be, to have all of some places: sums that are 0 of all polynomials of few coefficients tell it.
func need(xs []*big.Int, ys []api.Pair) int {
	per := make([]*big.Int, len(xs))
	for i, x := range xs {
		all := big.NewInt(1)
		for j, y := range xs {
			if i != j {
				all.Mul(all, new(big.Int).Sub(x, y)).Mod(all, modulo)
			}
		}
		per[i] = under(all)
	}
	for n := len(xs); n > 0; n-- {
		sum := api.Pair{}
		for i, x := range per {
			sum = more(sum, over(ys[i], x))
			x.Mul(x, xs[i]).Mod(x, modulo)
		}
		if sum != (api.Pair{}) {
			return n
		}
	}
	return 0
}

// bests are for each dim the most places, or pairs of places, of which a polynomial of so many coefficients has all: of all sets of them.
func bests(l []api.Pair, folds int, both bool) []int {
	n := len(l)
	out := make([]int, n+1)
	units := n
	if both {
		units = n / 2
	}
	for set := range 1 << units {
		var xs []*big.Int
		var ys []api.Pair
		size := 0
		for i := range units {
			if set>>i&1 == 0 {
				continue
			}
			size++
			for at := i; at < n; at += units {
				xs, ys = append(xs, point(log(n), folds, at)), append(ys, l[at])
			}
		}
		for dim := need(xs, ys); dim <= n; dim++ {
			out[dim] = max(out[dim], size)
		}
	}
	return out
}

// bestOf holds Best against the most of each dim, and 0 of those that there aren't.
func bestOf(t *testing.T, l []api.Pair, folds int, both bool, want []int) {
	t.Helper()
	for dim, x := range want {
		if got := count.Best(l, folds, dim, both); got != x {
			t.Errorf("Best of %d values folded %d times, %d coefficients, pairs %v: %d, not %d", len(l), folds, dim, both, got, x)
		}
	}
	for _, dim := range []int{math.MinInt, -1 << 32, -2, -1, len(l) + 1, len(l) + 2, 32, 64, 1 << 32, math.MaxInt} {
		if got := count.Best(l, folds, dim, both); got != 0 && (dim < 0 || dim > len(l)) {
			t.Errorf("Best of %d values folded %d times, %d coefficients, pairs %v: %d", len(l), folds, dim, both, got)
		}
	}
}

// kinds are words of 2^m values of all kinds: of nothing, of one value, of edges, of values that nothing singles out, of polynomials, and of such but at some places.
func kinds(m, folds int) [][]api.Pair {
	n := 1 << m
	out := [][]api.Pair{make([]api.Pair, n), slices.Repeat([]api.Pair{{A: api.P, B: api.P}}, n), slices.Repeat([]api.Pair{{A: top, B: 5}}, n), pairs(n), ordinary(n, 2)}
	out = append(out, slices.Repeat([]api.Pair{{A: 5}, {B: 3}}, n/2), append(make([]api.Pair, n/2), ordinary(n/2, 7)...))
	for size := 1; size <= n; size++ {
		l := word(ordinary(size, 20+size), m, folds)
		out = append(out, unkept(l), wrong(l, size), wrong(l, size/2, size/2+n/2), wrong(l, size+1, size+1+n/2, size+2))
	}
	return out
}

// P23.2: small words of all kinds, by another way: of all sets of places, of how many coefficients a polynomial must be to have them all.
func TestBest(t *testing.T) {
	for m := 1; m <= 3; m++ {
		for _, folds := range []int{0, 1, 2} {
			var group sync.WaitGroup
			for _, l := range kinds(m, folds) {
				group.Go(func() {
					bestOf(t, l, folds, false, bests(l, folds, false))
					bestOf(t, l, folds, true, bests(l, folds, true))
				})
			}
			group.Wait()
		}
	}
}

// written is a word of sixteen values that was folded once, of 1 + 2 X + 3 X^2 + 4 X^3 + u X^4 but at three places, two of which are half way round from one another.
func written() []api.Pair {
	return []api.Pair{
		{A: 477898, B: 5764801}, {A: 14141302679497867157, B: 17780493177497583529}, {A: 5, B: 6}, {A: 5045245323131990045, B: 666250891917000792},
		{A: 15140538962906440678, B: 5764801}, {A: 32339231720742913, B: 17780493177497583529}, {A: 16419164164737491458, B: 18446744069408819520}, {A: 7},
		{A: 18446744069414120831, B: 5764801}, {A: 4305441148224143470, B: 17780493177497583529}, {B: 9}, {A: 13385659181776541158, B: 666250891917000792},
		{A: 3306205106508129239, B: 5764801}, {A: 18414405079386415106, B: 17780493177497583529}, {A: 16419395459597966850, B: 18446744069408819520}, {A: 7926514834185473, B: 666250891917000792},
	}
}

// P23.2: of sixteen values, as another program worked it out, for all numbers of coefficients.
func TestBestWritten(t *testing.T) {
	var group sync.WaitGroup
	group.Go(func() {
		bestOf(t, written(), 1, false, []int{0, 1, 2, 3, 4, 13, 13, 13, 13, 13, 13, 13, 13, 13, 14, 15, 16})
	})
	group.Go(func() {
		bestOf(t, written(), 1, true, []int{0, 0, 1, 1, 2, 6, 6, 6, 6, 6, 6, 6, 6, 6, 7, 7, 8})
	})
	group.Wait()
	agrees(t, written(), 1, []api.Pair{{A: 1}, {A: 2}, {A: 3}, {A: 4}, {B: 1}}, 13, 6)
}

// P23.2: of any number of folds, also those that no shift changes with any more.
func TestBestFolds(t *testing.T) {
	for _, folds := range manyFolds() {
		for m := 1; m <= 3; m++ {
			l := wrong(word(ordinary(2, 20), m, folds), 0)
			bestOf(t, l, folds, false, bests(l, folds, false))
			bestOf(t, l, folds, true, bests(l, folds, true))
		}
	}
}

// P23.2: words of other numbers of values have no best, whatever the polynomial; all of them are zeros here, so that any polynomial would have some.
func TestBestNone(t *testing.T) {
	for _, n := range []int{0, 1, 3, 5, 6, 7, 9, 12, 15, 17, 24, 31, 32, 33, 64, 1 << 10, 1 << 20} {
		for _, dim := range []int{math.MinInt, -1, 0, 1, 2, 3, 4, 8, 16, 31, 32, 33, n, n + 1, math.MaxInt} {
			for _, both := range []bool{false, true} {
				if got := count.Best(make([]api.Pair, n), 0, dim, both); got != 0 {
					t.Errorf("Best of %d values, %d coefficients, pairs %v: %d", n, dim, both, got)
				}
			}
		}
	}
	for n := 2; n <= 16; n += n {
		bestOf(t, make([]api.Pair, n), 0, false, slices.Repeat([]int{n}, min(n, 4)))
		bestOf(t, make([]api.Pair, n), 0, true, slices.Repeat([]int{n / 2}, min(n, 4)))
	}
}

// P23.2: no polynomial of so many coefficients has more: neither the word's own, nor others that are tried.
func TestBestAgree(t *testing.T) {
	for m := 1; m <= 3; m++ {
		for _, l := range kinds(m, 1) {
			for dim := range 1<<m + 1 {
				for _, both := range []bool{false, true} {
					best := count.Best(l, 1, dim, both)
					for from := range 5 {
						for _, line := range [][]api.Pair{ordinary(dim, 20+from), ordinary(dim, 20+dim), pairs(dim), make([]api.Pair, dim)} {
							if got := count.Agree(l, 1, line, both); got > best {
								t.Errorf("%d values, %d coefficients, pairs %v: %d, but the best is %d", len(l), dim, both, got, best)
							}
						}
					}
				}
			}
		}
	}
}

// partsOf are the words of which a word, folded by any pair, is the first and the pair times the second.
func partsOf(l []api.Pair, folds int) ([]api.Pair, []api.Pair) {
	half := len(l) / 2
	even, odd := make([]api.Pair, half), make([]api.Pair, half)
	for i := range half {
		even[i] = over(more(l[i], l[i+half]), under(big.NewInt(2)))
		odd[i] = over(over(less(l[i], l[i+half]), under(big.NewInt(2))), under(point(log(len(l)), folds, i)))
	}
	return even, odd
}

// together is the word of which even and odd are the parts.
func together(even, odd []api.Pair, folds int) []api.Pair {
	out := slices.Concat(even, even)
	for i, x := range odd {
		step := over(x, point(log(len(out)), folds, i))
		out[i], out[i+len(even)] = more(even[i], step), less(even[i], step)
	}
	return out
}

// lists are all sets of so many places below n, each from its greatest on, in the order of the greatest, then of the next, and so on.
func lists(n, size int) [][]int {
	if size == 0 {
		return [][]int{{}}
	}
	var out [][]int
	for greatest := range n {
		for _, rest := range lists(greatest, size-1) {
			out = append(out, append([]int{greatest}, rest...))
		}
	}
	return out
}

// badOf is what Bad must be, by sums that are 0 of all polynomials of few coefficients.
func badOf(l []api.Pair, folds, dim, places int) ([]api.Pair, bool) {
	even, odd := partsOf(l, folds)
	m := log(len(even))
	var out []api.Pair
	for _, set := range lists(len(even), places) {
		some, all := badSet(even, odd, m, folds+1, dim, set)
		if all {
			return nil, true
		}
		for _, x := range some {
			if !slices.Contains(out, x) {
				out = append(out, x)
			}
		}
	}
	return out, false
}

// badSet is by which pair the values at a set of places are a polynomial's, if there is just one, or whether all are.
func badSet(even, odd []api.Pair, m, folds, dim int, set []int) ([]api.Pair, bool) {
	var near, far []api.Pair
	for j := range len(set) - dim {
		e, o := api.Pair{}, api.Pair{}
		for _, i := range set {
			at := point(m, folds, i)
			per := big.NewInt(1)
			for _, k := range set {
				if k != i {
					per.Mul(per, new(big.Int).Sub(at, point(m, folds, k))).Mod(per, modulo)
				}
			}
			x := power(at, big.NewInt(int64(j)))
			x.Mul(x, under(per)).Mod(x, modulo)
			e, o = more(e, over(even[i], x)), more(o, over(odd[i], x))
		}
		near, far = append(near, e), append(far, o)
	}
	j := slices.IndexFunc(far, func(x api.Pair) bool { return x != api.Pair{} })
	if j < 0 {
		return nil, !slices.ContainsFunc(near, func(x api.Pair) bool { return x != api.Pair{} })
	}
	by := less(api.Pair{}, times(near[j], turned(far[j])))
	for i, x := range near {
		if more(x, times(by, far[i])) != (api.Pair{}) {
			return nil, false
		}
	}
	return []api.Pair{by}, false
}

// bads holds Bad against what it must be.
func bads(t *testing.T, l []api.Pair, folds, dim, places int, want []api.Pair, all bool) {
	t.Helper()
	got, whole := count.Bad(l, folds, dim, places)
	if !slices.Equal(got, want) || whole != all {
		t.Errorf("Bad of %d values folded %d times, %d coefficients, %d places: %v and %v, not %v and %v", len(l), folds, dim, places, got, whole, want, all)
	}
}

// P23.3: words of all kinds, all numbers of coefficients and places, by another way, in the order that the chapter tells.
func TestBad(t *testing.T) {
	for m := 2; m <= 4; m++ {
		var group sync.WaitGroup
		l := kinds(m, m%3)
		if m == 4 {
			l = append(l[3:7], l[8], l[19], l[22])
		}
		for _, l := range l {
			group.Go(func() {
				for places := 1; places <= 1<<(m-1); places++ {
					for dim := range places {
						want, all := badOf(l, m%3, dim, places)
						bads(t, l, m%3, dim, places, want, all)
					}
				}
			})
		}
		group.Wait()
	}
}

// P23.3: as another program worked it out, of values and folds of all kinds.
func TestBadWritten(t *testing.T) {
	l := []api.Pair{{A: 1, B: 2}, {A: 3, B: 4}, {A: 5, B: 6}, {A: 7, B: 8}, {A: 9, B: 10}, {A: top, B: 12}, {A: 13, B: api.P + 3}, {A: 15, B: 1 << 63}}
	bads(t, l, 0, 0, 1, []api.Pair{{A: 3843071681128038411, B: 5380300353579253760}, {A: 16613769581186853707, B: 9048911314651514953}, {A: 656118170712539136, B: 248260929458798592}, {A: 4950275072394524760, B: 10289074633827151213}}, false)
	bads(t, l, 0, 1, 2, []api.Pair{
		{A: 9799408277077414359, B: 7498797794687673818}, {A: 4025752276146953090, B: 17740512510463358784}, {A: 1657674764727759211, B: 11940032525661917199},
		{A: 15040916304023039224, B: 18277511225273421201}, {A: 14881329782265475356, B: 6223454197345215299}, {A: 2185364163690318485, B: 5440104126417517973},
	}, false)
	bads(t, l, 2, 2, 3, []api.Pair{{A: 8243885367021619012, B: 15527941707728282155}, {A: 12508728090231921663, B: 13995956532159780994}, {A: 5934614764772899010, B: 15281010158844581127}, {A: 11083817491441330738, B: 10411281079564254139}}, false)
	bads(t, l, 64, 3, 4, []api.Pair{{A: 12331839406658788509, B: 17515385768274775887}}, false)
	bads(t, l, 1, 1, 3, nil, false)
	bads(t, l, 0, 0, 2, nil, false)
	for places := 4; places <= 6; places++ {
		bads(t, written(), 1, 2, places, nil, false)
		bads(t, written(), 1, 3, places, nil, true)
	}
	bads(t, written(), 1, 3, 7, []api.Pair{{A: 15835814459099278302, B: 8593737904384896475}, {A: 3367254360064}}, false)
	bads(t, written(), 1, 3, 8, nil, false)
	few, _ := count.Bad(written(), 1, 2, 3)
	if len(few) != 36 || !slices.Equal(few[:3], []api.Pair{{A: 7457714492764416458, B: 8426481298574407281}, {A: 6020677571561107675, B: 8651723749263818770}, {A: 7662129197003088962, B: 16406975548053540267}}) {
		t.Errorf("%d pairs: %v", len(few), few)
	}
}

// bent is a word of sixteen values of which each folded place is on two of four polynomials of two coefficients, each by a pair of its own: on the first one the places 0 to 3, on the second one 2 to 5, on the third one 4 to 7, on the fourth one 6, 7, 0 and 1.
func bent(by []api.Pair, folds int) []api.Pair {
	even, odd := make([]api.Pair, 8), make([]api.Pair, 8)
	for i := range 8 {
		a, b := (i/2+3)%4, i/2
		x := point(3, folds+1, i)
		from, to := comes(ordinary(2, 40+2*a), x), comes(ordinary(2, 40+2*b), x)
		odd[i] = times(less(from, to), turned(less(by[a], by[b])))
		even[i] = less(from, times(by[a], odd[i]))
	}
	return together(even, odd, folds)
}

// P23.3: several pairs, in the order of sets by their greatest place, then by the next: not by their least ones, and not by their values.
func TestBadOrder(t *testing.T) {
	for folds := -1; folds < 4; folds++ {
		for _, by := range [][]api.Pair{ordinary(4, 60), kept(edges()[9:13]), {{A: 4}, {A: 3}, {A: 2}, {A: 1}}, {{}, {A: 1}, {B: 1}, {A: 1, B: 1}}} {
			l := bent(by, folds)
			bads(t, l, folds, 2, 4, []api.Pair{by[0], by[1], by[3], by[2]}, false)
			bads(t, l, folds, 2, 5, nil, false)
			bads(t, unkept(l), folds, 2, 4, []api.Pair{by[0], by[1], by[3], by[2]}, false)
			even, odd := partsOf(l, folds)
			slices.Reverse(even)
			slices.Reverse(odd)
			// Reversed, the points are others but for a factor, and those that give 1 with them: X^1 times such a polynomial is one again.
			for i := range even {
				x := point(3, folds+1, i)
				even[i], odd[i] = over(even[i], x), over(odd[i], x)
			}
			bads(t, together(even, odd, folds), folds, 2, 4, []api.Pair{by[2], by[1], by[3], by[0]}, false)
		}
	}
	for _, size := range []int{1, 2, 4} {
		for i, set := range lists(4, size)[1:] {
			if slices.Compare(lists(4, size)[i], set) >= 0 {
				t.Errorf("%v isn't ahead of %v", lists(4, size)[i], set)
			}
		}
	}
}

// alone is a word of 2^m values whose odd part is a polynomial of dim coefficients at no places, and which folds to such a one by one pair, but at some folded places.
func alone(by api.Pair, m, folds, dim int, places ...int) []api.Pair {
	odd := ordinary(1<<(m-1), 5)
	even := word(ordinary(dim, 50), m-1, folds+1)
	for i, x := range odd {
		even[i] = less(even[i], times(by, x))
	}
	return together(wrong(even, places...), odd, folds)
}

// P23.3: one pair that many sets tell is told once; also zero, and of values that are not as they are kept.
func TestBadOnce(t *testing.T) {
	for _, by := range kept(append(edges(), ordinary(3, 70)...)) {
		for folds := range 3 {
			for _, places := range []int{5, 6, 7, 8} {
				bads(t, alone(by, 4, folds, 3), folds, 3, places, []api.Pair{by}, false)
				bads(t, unkept(alone(by, 4, folds, 0)), folds, 0, places, []api.Pair{by}, false)
			}
			bads(t, alone(by, 4, folds, 3, 0), folds, 3, 7, []api.Pair{by}, false)
			bads(t, alone(by, 4, folds, 3, 7), folds, 3, 7, []api.Pair{by}, false)
			bads(t, alone(by, 4, folds, 3, 2), folds, 3, 8, nil, false)
			bads(t, alone(by, 4, folds, 2, 2, 5), folds, 2, 6, []api.Pair{by}, false)
			bads(t, alone(by, 4, folds, 2, 2, 5), folds, 2, 7, nil, false)
			bads(t, alone(by, 3, folds, 1), folds, 1, 4, []api.Pair{by}, false)
			bads(t, alone(by, 3, folds, 1, 3), folds, 1, 3, []api.Pair{by}, false)
			bads(t, alone(by, 2, folds, 0), folds, 0, 2, []api.Pair{by}, false)
		}
	}
}

// P23.3: by all pairs, where both parts are such polynomials at so many places; by none, where one is and the other isn't.
func TestBadAll(t *testing.T) {
	for m := 2; m <= 4; m++ {
		half := 1 << (m - 1)
		for folds := range 3 {
			for dim := range half {
				one, two, other := word(ordinary(dim, 20), m-1, folds+1), word(ordinary(dim, 30), m-1, folds+1), word(ordinary(half, 40), m-1, folds+1)
				for places := dim + 1; places <= half; places++ {
					bads(t, together(one, two, folds), folds, dim, places, nil, true)
					bads(t, together(one, make([]api.Pair, half), folds), folds, dim, places, nil, true)
					bads(t, together(make([]api.Pair, half), two, folds), folds, dim, places, nil, true)
					bads(t, make([]api.Pair, 2*half), folds, dim, places, nil, true)
					bads(t, together(other, two, folds), folds, dim, places, nil, false)
					bads(t, together(other, make([]api.Pair, half), folds), folds, dim, places, nil, false)
					bads(t, together(one, other, folds), folds, dim, places, []api.Pair{{}}, false)
					bads(t, together(make([]api.Pair, half), other, folds), folds, dim, places, []api.Pair{{}}, false)
				}
				if dim < half-1 {
					bads(t, together(wrong(one, half-1), wrong(two, half-1), folds), folds, dim, half-1, nil, true)
					bads(t, together(wrong(one, 0), two, folds), folds, dim, half-1, nil, true)
					bads(t, together(wrong(one, 0), two, folds), folds, dim, half, nil, false)
					bads(t, together(one, wrong(two, 0), folds), folds, dim, half, []api.Pair{{}}, false)
				}
			}
		}
	}
}

// P23.3: none and false of words of other numbers of values, and of places and coefficients that there can't be; all words are zeros here, so that all pairs would be bad.
func TestBadNone(t *testing.T) {
	ends := []int{math.MinInt, math.MinInt + 1, -1 << 32, -2, -1, 0, 1, 2, 3, 4, 5, 7, 8, 9, 15, 16, 17, 32, 1 << 32, math.MaxInt - 1, math.MaxInt}
	for _, n := range []int{0, 1, 2, 3, 4, 5, 6, 7, 8, 9, 12, 15, 16, 17, 24, 31, 32, 33, 64, 1 << 10, 1 << 20} {
		zeros := make([]api.Pair, n)
		for _, dim := range ends {
			for _, places := range ends {
				may := (n == 4 || n == 8 || n == 16) && dim >= 0 && places > dim && places <= n/2
				bads(t, zeros, 0, dim, places, nil, may)
			}
		}
	}
	for _, zeros := range [][]api.Pair{nil, {}, pairs(20)[:0]} {
		bads(t, zeros, 0, 0, 1, nil, false)
		bads(t, zeros, 0, 0, 0, nil, false)
	}
	bads(t, ordinary(8, 3), 0, -1, 1, nil, false)
	bads(t, ordinary(8, 3), 0, 2, 2, nil, false)
	bads(t, ordinary(8, 3), 0, 4, 5, nil, false)
	bads(t, ordinary(32, 3), 0, 0, 1, nil, false)
	bads(t, ordinary(2, 3), 0, 0, 1, nil, false)
}

// P23.3: any number of folds, those too that no shift changes with any more.
func TestBadFolds(t *testing.T) {
	for _, folds := range manyFolds() {
		for _, l := range [][]api.Pair{ordinary(8, 3), pairs(8), wrong(word(ordinary(4, 5), 3, folds), 0), word(ordinary(4, 5), 3, folds)} {
			for places := 1; places <= 4; places++ {
				for dim := range places {
					want, all := badOf(l, folds, dim, places)
					bads(t, l, folds, dim, places, want, all)
				}
			}
		}
	}
}

// few is of how many places there are how many sets.
func few(n, size int) int { return len(lists(n, size)) }

// P23.4: there are no more bad pairs than sets, and where so many places are more than half of those beyond dim no more than the folded word has places; all pairs are bad just where a polynomial of twice as many coefficients has so many pairs of places of the word.
func TestFew(t *testing.T) {
	for m := 2; m <= 4; m++ {
		half := 1 << (m - 1)
		l := kinds(m, 1)
		if m == 4 {
			l = [][]api.Pair{pairs(16), written(), bent(ordinary(4, 60), 1), alone(api.Pair{B: 3}, m, 1, 3, 5)}
		}
		var group sync.WaitGroup
		for _, l := range l {
			group.Go(func() {
				for dim := range half {
					best := count.Best(l, 1, 2*dim, true)
					for places := dim + 1; places <= half; places++ {
						bad, all := count.Bad(l, 1, dim, places)
						if all != (best >= places) {
							t.Errorf("%d values, %d coefficients, %d places: by all %v", len(l), dim, places, all)
						}
						if len(bad) > few(half, places) || 2*places >= half+dim && len(bad) > half {
							t.Errorf("%d values, %d coefficients, %d places: %d bad pairs", len(l), dim, places, len(bad))
						}
					}
				}
			})
		}
		group.Wait()
	}
}

// P23.4: as many pairs may be bad as there are places that each lack something of their own.
func TestFewMost(t *testing.T) {
	even, odd := make([]api.Pair, 8), make([]api.Pair, 8)
	by := ordinary(4, 80)
	for i, x := range by {
		even[i+4], odd[i+4] = less(api.Pair{}, x), api.Pair{A: 1}
	}
	bads(t, together(even, odd, 0), 0, 0, 5, kept(by), false)
	bads(t, together(even, odd, 0), 0, 0, 4, nil, true)
	bads(t, together(even, odd, 0), 0, 0, 6, nil, false)
}

// P23.4: by a bad pair the word folds to one of which a polynomial has so many places, and by others to none.
func TestOthers(t *testing.T) {
	for m := 2; m <= 4; m++ {
		half := 1 << (m - 1)
		for _, l := range [][]api.Pair{ordinary(2*half, 5), pairs(2 * half), wrong(word(ordinary(half/2, 5), m, 1), 0), alone(api.Pair{A: 9, B: 1}, m, 1, 1)} {
			for places := 1; places <= half; places++ {
				for dim := range places {
					bad, all := count.Bad(l, 1, dim, places)
					if all {
						continue
					}
					for _, by := range slices.Concat(bad, ordinary(2, 90), edges()[:3]) {
						best := count.Best(shorter(l, by, 1), 2, dim, false)
						if (best >= places) != slices.Contains(bad, more(by, api.Pair{})) {
							t.Errorf("%d values, %d coefficients, %d places, by %v: %d", len(l), dim, places, by, best)
						}
					}
				}
			}
		}
	}
}

// ends are the polynomials of dim coefficients that go through any dim places of a folded word.
func ends(l []api.Pair, folds, dim int) [][]api.Pair {
	var out [][]api.Pair
	for _, set := range lists(len(l), dim) {
		line := make([]api.Pair, dim)
		for _, i := range set {
			for k, c := range only(set, i, log(len(l)), folds) {
				line[k] = more(line[k], times(c, l[i]))
			}
		}
		out = append(out, line)
	}
	return out
}

// only is what is 1 at the place i, and 0 at the others of a set.
func only(set []int, i, m, folds int) []api.Pair {
	out := []api.Pair{{A: 1}}
	for _, j := range set {
		if j == i {
			continue
		}
		x, y := point(m, folds, i), point(m, folds, j)
		per := under(new(big.Int).Sub(x, y))
		next := make([]api.Pair, len(out)+1)
		for k, c := range out {
			c = over(c, per)
			next[k], next[k+1] = less(next[k], over(c, y)), more(next[k+1], c)
		}
		out = next
	}
	return out
}

// P23.4: by a pair that isn't bad a word is taken at fewer places than so many, whatever the last polynomial; by a bad one there is one by which it is taken at so many.
func TestTaken(t *testing.T) {
	for _, x := range []struct{ k, blow int }{{1, 1}, {1, 2}, {2, 1}, {1, 3}, {2, 2}} {
		m, dim := x.k+x.blow, 1<<(x.k-1)
		p := api.Params{Blow: x.blow, Folds: 1}
		for _, l := range [][]api.Pair{ordinary(1<<m, 5), wrong(word(ordinary(2*dim, 5), m, 0), 0), wrong(word(ordinary(2*dim, 5), m, 0), 0, 1), alone(api.Pair{A: 9, B: 1}, m, 0, dim)} {
			for places := dim + 1; places <= 1<<(m-1); places++ {
				bad, all := count.Bad(l, 0, dim, places)
				if all {
					continue
				}
				for _, by := range slices.Concat(bad[:min(5, len(bad))], ordinary(2, 90), []api.Pair{{}}) {
					most := 0
					for _, final := range ends(shorter(l, by, 0), 1, dim) {
						most = max(most, count.Accepts(x.k, p, []api.Pair{by}, count.Words(l, []api.Pair{by}), final))
					}
					if (most >= places) != slices.Contains(bad, more(by, api.Pair{})) {
						t.Errorf("%d values, %d coefficients, %d places, by %v: taken at %d", 1<<m, dim, places, by, most)
					}
				}
			}
		}
	}
}

// P23.4: folded twice, a word is taken at no more places than the first fold leaves it, whatever comes behind.
func TestTakenTwice(t *testing.T) {
	p := api.Params{Blow: 2, Folds: 2}
	for from := range 20 {
		l := wrong(word(ordinary(4, 5+from), 4, 0), 3)
		by := ordinary(2, 90+from)
		bad, all := count.Bad(l, 0, 2, 8)
		if all || slices.Contains(bad, more(by[0], api.Pair{})) {
			t.Fatalf("by all %v: %v", all, bad)
		}
		line := halves(ordinary(4, 5+from), by[0])
		best := word(line, 3, 1)
		if got := count.Accepts(2, p, by, [][]api.Pair{l, best}, halves(line, by[1])); got != 7 {
			t.Errorf("a polynomial's word behind: %d", got)
		}
		// What is folded as it is goes wrong at one place, to which two lead.
		if got := count.Accepts(2, p, by, count.Words(l, by), halves(line, by[1])); got != 6 {
			t.Errorf("its own word behind: %d", got)
		}
		if got := count.Accepts(2, p, []api.Pair{bad[0], by[1]}, count.Words(l, []api.Pair{bad[0], by[1]}), halves(halves(ordinary(4, 5+from), bad[0]), by[1])); got != 8 {
			t.Errorf("by the bad pair: %d", got)
		}
	}
}

// P23.4: a polynomial's word is best at all places, and by all pairs bad.
func TestWhole(t *testing.T) {
	for m := 2; m <= 4; m++ {
		for folds := range 3 {
			for size := 2; size <= min(1<<(m-1), 4); size += 2 {
				l := word(ordinary(size, 5), m, folds)
				if got := count.Best(l, folds, size, true); got != 1<<(m-1) {
					t.Errorf("%d values, %d coefficients: %d", 1<<m, size, got)
				}
				for places := size/2 + 1; places <= 1<<(m-1); places++ {
					bads(t, l, folds, size/2, places, nil, true)
				}
			}
		}
	}
}

// roomy is a copy of l with room behind its end, and what stands there.
func roomy(l []api.Pair) ([]api.Pair, []api.Pair) {
	all := slices.Concat(l, ordinary(5, 200))
	return all[:len(l)], all
}

// Rules that hold everywhere: what a call is given stays as it was, spare room too, and answers are new memory.
func TestKept(t *testing.T) {
	first, whole := roomy(pairs(8))
	second, longer := roomy(ordinary(4, 5))
	by, spare := roomy(edges()[2:5])
	list := append(make([][]api.Pair, 0, 4), first, second)
	were := [][]api.Pair{slices.Clone(whole), slices.Clone(longer), slices.Clone(spare)}
	held := func(call string) {
		t.Helper()
		if !slices.Equal(whole, were[0]) || !slices.Equal(longer, were[1]) || !slices.Equal(spare, were[2]) {
			t.Fatalf("%s changed what it was given", call)
		}
		if list[:4][2] != nil || list[:4][3] != nil || &list[0][0] != &first[0] || &list[1][0] != &second[0] || len(list[0]) != 8 || len(list[1]) != 4 {
			t.Fatalf("%s changed the list of words", call)
		}
	}
	_, layers := count.Seen(list, 3)
	clear(layers[:cap(layers)])
	held("Seen")
	count.Accepts(2, api.Params{Blow: 1, Folds: 2}, by[:2], list, second[:1])
	held("Accepts")
	for _, both := range []bool{false, true} {
		count.Agree(first, 0, second, both)
		count.Best(first, 0, 2, both)
	}
	held("Agree and Best")
	bad, _ := count.Bad(first, 0, 1, 2)
	clear(bad[:cap(bad)])
	held("Bad")
	for n := range 4 {
		words, again := count.Words(first, by[:n]), count.Words(first, by[:n])
		for i, l := range words {
			clear(l[:cap(l)])
			held("Words")
			if !slices.EqualFunc(words[i+1:], again[i+1:], slices.Equal[[]api.Pair]) {
				t.Error("two words of one answer share")
			}
		}
	}
}

// all is what the calls answer of one word.
func all(l []api.Pair) []any {
	by := ordinary(2, 9)
	first, layers := count.Seen([][]api.Pair{l, l[:4]}, 2)
	bad, whole := count.Bad(l, 0, 1, 2)
	return []any{first, layers[0], count.Accepts(2, api.Params{Blow: 1, Folds: 2}, by, count.Words(l, by), l[:1]), count.Agree(l, 0, l[:2], true), count.Best(l, 0, 3, false), len(bad), bad[0], bad[len(bad)-1], whole}
}

// Rules that hold everywhere: a call hangs on its arguments alone, whatever was asked ahead of it.
func TestAgain(t *testing.T) {
	one, two := all(ordinary(8, 3)), all(pairs(8))
	for range 3 {
		if !slices.Equal(all(ordinary(8, 3)), one) || !slices.Equal(all(pairs(8)), two) {
			t.Error("asked again, another answer")
		}
	}
}

// Rules that hold everywhere: any number of goroutines may call at once, with the same arguments too.
func TestAtOnce(t *testing.T) {
	l := ordinary(8, 3)
	want := all(l)
	var group sync.WaitGroup
	for range 16 {
		group.Go(func() {
			for range 5 {
				if !slices.Equal(all(l), want) {
					t.Error("at once, another answer")
				}
			}
		})
	}
	group.Wait()
}
