package mix

import (
	"assayer/air"
	"assayer/api"
	"assayer/eval"
	"assayer/ntt"
	"assayer/pair"
	"assayer/root"
	"assayer/zero"
)

// sum is what all rules and Bounds come to, wherever it is asked.
type sum struct {
	air    api.Air
	rules  [][]api.Op
	public []uint64
	mix    []api.Pair
}

// ready is the sum of what may be, if there are as many public values and coefficients as there must be.
func ready(a api.Air, public []uint64, mix []api.Pair) (sum, bool) {
	// Nobody asks of less; no call panics all the same.
	if air.Check(a) != api.OK || len(public) < len(a.Bounds) || len(mix) < Count(a) {
		return sum{}, false
	}
	rules, _ := air.Rules(a)
	return sum{air: a, rules: rules, public: public, mix: mix}, true
}

// at is what it comes to at x, of a row and the next one there.
func (s sum) at(cur, next []api.Pair, x api.Pair) (api.Pair, bool) {
	per, ok := s.divisors(x)
	if !ok || len(cur) < s.air.Cols || len(next) < s.air.Cols {
		return api.Pair{}, false
	}
	out := api.Pair{}
	for i := range s.rules {
		out = pair.Add(out, pair.Mul(s.mix[i], s.leaves(i, cur, next)))
	}
	out = pair.Mul(out, per[0])
	for i, b := range s.air.Bounds {
		off := pair.Sub(cur[b.Col], pair.Lift(s.public[i]))
		out = pair.Add(out, pair.Mul(pair.Mul(s.mix[len(s.rules)+i], off), per[1+i]))
	}
	return out, true
}

// divisors are what gives 1 with the Gap, then with each Bound's Spot; there are none at a row's point.
func (s sum) divisors(x api.Pair) ([]api.Pair, bool) {
	gap, ok := zero.Gap(x, s.air.Log)
	if !ok {
		return nil, false
	}
	l := []api.Pair{gap}
	for _, b := range s.air.Bounds {
		l = append(l, zero.Spot(x, s.air.Log, b.Row))
	}
	// The gap is 0 at all rows but the last, which there is no gap of: so each row is told here, without rules or Bounds too.
	return root.InvertPairs(l)
}

// leaves is what rule i leaves of a row and the next one.
func (s sum) leaves(i int, cur, next []api.Pair) api.Pair {
	ops := s.rules[i]
	if i >= len(s.air.Steps) {
		return eval.Pairs(ops, cur, next)
	}
	// A step's rule may have more operations, on a deeper stack, than layer 17 is asked of: so its own operations are asked, without the two that layer 18 puts about them.
	return pair.Sub(next[i], eval.Pairs(ops[1:len(ops)-1], cur, next))
}

// everywhere is what it comes to at each of 2^(Log + blow) places, whose rows are given.
func (s sum) everywhere(spread [][]uint64, blow int) ([]api.Pair, bool) {
	points := ntt.Points(beside, s.air.Log+blow)
	if len(spread) != len(points) {
		return nil, false
	}
	lines := make([][]api.Pair, len(spread))
	for i, row := range spread {
		lines[i] = Lifted(row)
	}
	out := make([]api.Pair, len(points))
	for i, x := range points {
		// The root of the rows is the places' to the 2^blow, so that the next row stands so far behind, round about.
		next := lines[(i+1<<blow)%len(lines)]
		value, ok := s.at(lines[i], next, pair.Lift(x))
		if !ok {
			return nil, false
		}
		out[i] = value
	}
	return out, true
}
