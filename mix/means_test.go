package mix_test

import (
	"encoding/binary"
	"fmt"
	"math"
	"math/big"
	"slices"
	"strconv"
	"strings"
	"testing"

	"assayer/air"
	"assayer/api"
)

const top = math.MaxUint64

// number is the one that a word tells.
func number(s string) uint64 {
	n, bad := strconv.ParseUint(s, 10, 64)
	if bad != nil {
		panic("no number: " + s)
	}
	return n
}

// bytesOf is the bytes of a text's operations, by another means than layer 15: c, n or k and a number (a column, the next row's, a constant), +, - and *.
func bytesOf(s string) string {
	var out []byte
	for _, word := range strings.Fields(s) {
		kind := strings.Index(" cnk+-*", word[:1])
		all := binary.LittleEndian.AppendUint64([]byte{byte(kind)}, number("0"+word[1:]))
		out = append(out, all[:[]int{0, 2, 2, 9, 1, 1, 1}[kind]]...)
	}
	return string(out)
}

// pieces are what stands between the marks of a text; none of an empty one.
func pieces(s, mark string) []string {
	if strings.TrimSpace(s) == "" {
		return nil
	}
	return strings.Split(s, mark)
}

// made is the one that a text tells: Cols and Log, then Steps, Rules and Bounds, with | between them, and ; between two of a kind.
func made(s string) api.Air {
	fields := strings.Split(s+"|||", "|")
	words := strings.Fields(fields[0])
	a := api.Air{Cols: int(number(words[0])), Log: int(number(words[1]))}
	for _, x := range pieces(fields[1], ";") {
		a.Steps = append(a.Steps, bytesOf(x))
	}
	for _, x := range pieces(fields[2], ";") {
		a.Rules = append(a.Rules, bytesOf(x))
	}
	for _, x := range pieces(fields[3], ";") {
		words := strings.Fields(x)
		a.Bounds = append(a.Bounds, api.Bound{Col: int(number(words[0])), Row: int(number(words[1]))})
	}
	return a
}

// may is the one that a text tells, which may be.
func may(t *testing.T, s string) api.Air {
	t.Helper()
	a := made(s)
	if no := air.Check(a); no != api.OK {
		t.Fatalf("%s may not be: %d", s, no)
	}
	return a
}

// numbers are those of a text.
func numbers(s string) []uint64 {
	var l []uint64
	for _, word := range strings.Fields(s) {
		l = append(l, number(word))
	}
	return l
}

// lines are the rows of a text, with / between two.
func lines(s string) [][]uint64 {
	var l [][]uint64
	for _, x := range pieces(s, "/") {
		l = append(l, numbers(x))
	}
	return l
}

// pairs are those of a text, of each its A, a comma and its B.
func pairs(s string) []api.Pair {
	var l []api.Pair
	for _, word := range strings.Fields(s) {
		a, b, _ := strings.Cut(word, ",")
		l = append(l, api.Pair{A: number(a), B: number(b)})
	}
	return l
}

// cuts are the lists of pairs of a text, with / between two.
func cuts(s string) [][]api.Pair {
	var l [][]api.Pair
	for _, x := range pieces(s, "/") {
		l = append(l, pairs(x))
	}
	return l
}

// copied shares nothing with the lists.
func copied[V any](l [][]V) [][]V {
	out := make([][]V, len(l))
	for i, x := range l {
		out[i] = slices.Clone(x)
	}
	return out
}

// same is whether lists of lists are the same.
func same[V comparable](a, b [][]V) bool { return slices.EqualFunc(a, b, slices.Equal[[]V]) }

// brief tells anything, in no more than 300 bytes.
func brief(x any) string {
	s := fmt.Sprint(x)
	return s[:min(len(s), 300)]
}

// ordinary are numbers over all 64 bits, always the same ones of one seed.
func ordinary(n int, seed uint64) []uint64 {
	l := make([]uint64, n)
	for i := range l {
		seed += 0x9e3779b97f4a7c15
		x := (seed ^ seed>>30) * 0xbf58476d1ce4e5b9
		x = (x ^ x>>27) * 0x94d049bb133111eb
		l[i] = x ^ x>>31
	}
	return l
}

// mixed are ordinary numbers, with such among them as where words or the field begin and end, as they are kept and not.
func mixed(n int, seed uint64) []uint64 {
	ends := []uint64{0, 1, api.P - 1, api.P, api.P + 1, top - 1, top, 1 << 32, 1<<32 - 1, 1 << 63}
	l := ordinary(2*n, seed)
	for i, x := range l[n:] {
		if x%3 == 0 {
			l[i] = ends[x>>8%uint64(len(ends))]
		}
	}
	return l[:n]
}

// mixedPairs are pairs of such numbers.
func mixedPairs(n int, seed uint64) []api.Pair {
	l := mixed(2*n, seed)
	out := make([]api.Pair, n)
	for i := range out {
		out[i] = api.Pair{A: l[i], B: l[n+i]}
	}
	return out
}

// general are pairs that nothing singles out, as they are kept.
func general(n int, seed uint64) []api.Pair {
	l := ordinary(2*n, seed)
	out := make([]api.Pair, n)
	for i := range out {
		out[i] = api.Pair{A: l[i] % api.P, B: l[n+i] % api.P}
	}
	return out
}

// drawn is what draws numbers, each below another, always the same ones of one seed.
func drawn(seed uint64) func(int) int {
	return func(n int) int {
		seed++
		return int(ordinary(1, seed*77)[0] >> 20 % uint64(n))
	}
}

// lone are n pairs of zero, but for one.
func lone(n, i int, x api.Pair) []api.Pair {
	out := make([]api.Pair, n)
	out[i] = x
	return out
}

// modulo is the field's size as a number of no bound.
var modulo = new(big.Int).SetUint64(api.P)

// whole is a pair of numbers of no bound, which the second way of working all out reckons with.
type whole struct{ a, b *big.Int }

func great(x api.Pair) whole {
	return whole{new(big.Int).SetUint64(x.A), new(big.Int).SetUint64(x.B)}
}

// plain is a number as a pair.
func plain(n *big.Int) whole { return whole{n, new(big.Int)} }

func (x whole) pair() api.Pair {
	return api.Pair{A: new(big.Int).Mod(x.a, modulo).Uint64(), B: new(big.Int).Mod(x.b, modulo).Uint64()}
}

func (x whole) plus(y whole) whole {
	return whole{new(big.Int).Add(x.a, y.a), new(big.Int).Add(x.b, y.b)}
}

func (x whole) minus(y whole) whole {
	return whole{new(big.Int).Sub(x.a, y.a), new(big.Int).Sub(x.b, y.b)}
}

func (x whole) times(y whole) whole {
	a, b := new(big.Int).Mul(x.b, y.b), new(big.Int).Mul(x.a, y.b)
	a.Mul(a, big.NewInt(7)).Add(a, new(big.Int).Mul(x.a, y.a))
	b.Add(b, new(big.Int).Mul(x.b, y.a))
	return whole{a.Mod(a, modulo), b.Mod(b, modulo)}
}

// under is x divided by y.
func (x whole) under(y whole) whole {
	turn := whole{y.a, new(big.Int).Neg(y.b)}
	per := new(big.Int).ModInverse(y.times(turn).a, modulo)
	return x.times(turn).times(plain(per))
}

// point is the shift times the power i of the root of the order 2^k.
func point(shift int64, k, i int) *big.Int {
	order := new(big.Int).Rsh(new(big.Int).SetUint64(api.P-1), uint(k))
	order.Mul(order, big.NewInt(int64(i)))
	x := order.Exp(big.NewInt(7), order, modulo)
	return x.Mul(x, big.NewInt(shift)).Mod(x, modulo)
}

// worth is what operations leave, as of a tree, from right to left; and what is ahead of all that the last operation takes.
func worth(l []api.Op, cur, next []api.Pair) (whole, []api.Op) {
	o, rest := l[len(l)-1], l[:len(l)-1]
	switch o.Kind {
	case api.OpCur:
		return great(cur[o.N]), rest
	case api.OpNext:
		return great(next[o.N]), rest
	case api.OpConst:
		return great(api.Pair{A: o.N}), rest
	}
	right, rest := worth(rest, cur, next)
	left, rest := worth(rest, cur, next)
	switch o.Kind {
	case api.OpAdd:
		return left.plus(right), rest
	case api.OpSub:
		return left.minus(right), rest
	}
	return left.times(right), rest
}

// gapBy is x less the point of each row but the last, all multiplied; and whether x is no row's point.
func gapBy(log int, x whole) (whole, bool) {
	gap := plain(big.NewInt(1))
	for i := range 1 << log {
		off := x.minus(plain(point(1, log, i)))
		if off.pair() == (api.Pair{}) {
			return gap, false
		}
		if i+1 < 1<<log {
			gap = gap.times(off)
		}
	}
	return gap, true
}

// valueBy is what Value is asked for, by numbers of no bound.
func valueBy(a api.Air, public []uint64, by, cur, next []api.Pair, x api.Pair) (api.Pair, bool) {
	gap, ok := gapBy(a.Log, great(x))
	if !ok {
		return api.Pair{}, false
	}
	all, _ := air.Rules(a)
	out := great(api.Pair{})
	for i, l := range all {
		left, _ := worth(l, cur, next)
		out = out.plus(great(by[i]).times(left).under(gap))
	}
	for j, b := range a.Bounds {
		off := great(cur[b.Col]).minus(great(api.Pair{A: public[j]}))
		spot := great(x).minus(plain(point(1, a.Log, b.Row)))
		out = out.plus(great(by[len(all)+j]).times(off).under(spot))
	}
	return out.pair(), true
}

// backBy are the coefficients that come to as many values, at the shift times a root's powers, worked out as sums.
func backBy(l []api.Pair, shift int64) []api.Pair {
	k := 0
	for 1<<k < len(l) {
		k++
	}
	out := make([]api.Pair, len(l))
	many := plain(big.NewInt(int64(len(l))))
	powers, per := make([]*big.Int, len(l)), make([]*big.Int, len(l))
	for i := range l {
		powers[i] = big.NewInt(1)
		per[i] = new(big.Int).ModInverse(point(shift, k, i), modulo)
	}
	for j := range out {
		sum := great(api.Pair{})
		for i, x := range l {
			sum = sum.plus(great(x).times(plain(powers[i])))
			powers[i] = new(big.Int).Mul(powers[i], per[i])
			powers[i].Mod(powers[i], modulo)
		}
		out[j] = sum.under(many).pair()
	}
	return out
}

// columnsBy is what Columns is asked for.
func columnsBy(rows [][]uint64, cols int) [][]uint64 {
	out := make([][]uint64, cols)
	for c := range out {
		var l []api.Pair
		for _, row := range rows {
			l = append(l, api.Pair{A: row[c]})
		}
		for _, x := range backBy(l, 1) {
			out[c] = append(out[c], x.A)
		}
	}
	return out
}

// comes is what a polynomial comes to at x, term by term.
func comes(l []uint64, x *big.Int) uint64 {
	sum, power := new(big.Int), big.NewInt(1)
	for _, n := range l {
		sum.Add(sum, new(big.Int).Mul(new(big.Int).SetUint64(n), power))
		power = new(big.Int).Mul(power, x)
		power.Mod(power, modulo)
	}
	return sum.Mod(sum, modulo).Uint64()
}

// spreadBy is what Spread is asked for.
func spreadBy(cols [][]uint64, m int) [][]uint64 {
	out := make([][]uint64, 1<<m)
	for i := range out {
		x := point(7, m, i)
		for _, l := range cols {
			out[i] = append(out[i], comes(l, x))
		}
	}
	return out
}

// partsBy is what Parts is asked for.
func partsBy(a api.Air, blow int, public []uint64, by []api.Pair, spread [][]uint64) ([][]api.Pair, bool) {
	m := a.Log + blow
	values := make([]api.Pair, 1<<m)
	for i := range values {
		x := api.Pair{A: point(7, m, i).Uint64()}
		next := spread[(i+1<<blow)%len(spread)]
		values[i], _ = valueBy(a, public, by, raised(spread[i]), raised(next), x)
	}
	all := backBy(values, 7)
	size := 1 << a.Log
	out := make([][]api.Pair, air.Parts(a))
	for i := range out {
		for j := range size {
			x := api.Pair{}
			if k := i*size + j; k < len(all) {
				x, all[k] = all[k], api.Pair{}
			}
			out[i] = append(out[i], x)
		}
	}
	for _, x := range all {
		if x != (api.Pair{}) {
			return nil, false
		}
	}
	return out, true
}

// raised is each number as a pair, as it is.
func raised(l []uint64) []api.Pair {
	out := make([]api.Pair, len(l))
	for i, n := range l {
		out[i].A = n
	}
	return out
}

// at is what each polynomial comes to at x, by numbers of no bound.
func at[V any](l [][]V, pairOf func(V) api.Pair, x whole) []api.Pair {
	out := make([]api.Pair, len(l))
	for i, line := range l {
		sum, power := great(api.Pair{}), plain(big.NewInt(1))
		for _, n := range line {
			sum = sum.plus(great(pairOf(n)).times(power))
			power = power.times(x)
		}
		out[i] = sum.pair()
	}
	return out
}

// atNumbers is at, of polynomials of numbers.
func atNumbers(l [][]uint64, x whole) []api.Pair {
	return at(l, func(n uint64) api.Pair { return api.Pair{A: n} }, x)
}

// atPairs is at, of polynomials of pairs.
func atPairs(l [][]api.Pair, x whole) []api.Pair {
	return at(l, func(n api.Pair) api.Pair { return n }, x)
}

// joinedBy is what Joined is asked for.
func joinedBy(log int, outs []api.Pair, x api.Pair) api.Pair {
	sum := great(api.Pair{})
	for i, o := range outs {
		power := plain(big.NewInt(1))
		for range i << log {
			power = power.times(great(x))
		}
		sum = sum.plus(great(o).times(power))
	}
	return sum.pair()
}
