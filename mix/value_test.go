package mix_test

import (
	"math/big"
	"slices"
	"strconv"
	"strings"
	"testing"

	"assayer/air"
	"assayer/api"
	"assayer/mix"
)

// comesTo holds Value against what it is asked.
func comesTo(t *testing.T, a api.Air, public []uint64, by, cur, next []api.Pair, x, want api.Pair) {
	t.Helper()
	if got, ok := mix.Value(a, public, by, cur, next, x); !ok || got != want {
		t.Errorf("Value of %s at %v: %v, %v, not %v", brief(a), x, got, ok, want)
	}
}

// nowhere holds that there is no Value.
func nowhere(t *testing.T, a api.Air, public []uint64, by, cur, next []api.Pair, x api.Pair) {
	t.Helper()
	if got, ok := mix.Value(a, public, by, cur, next, x); ok || got != (api.Pair{}) {
		t.Errorf("Value of %s at %v: %v, %v, not none", brief(a), x, got, ok)
	}
}

// alike holds Value against the second way.
func alike(t *testing.T, a api.Air, public []uint64, by, cur, next []api.Pair, x api.Pair) {
	t.Helper()
	want, ok := valueBy(a, public, by, cur, next, x)
	if !ok {
		nowhere(t, a, public, by, cur, next, x)
		return
	}
	comesTo(t, a, public, by, cur, next, x, want)
}

// anyPoints are such of all kinds: 0, numbers and no numbers, places, and rows' points.
func anyPoints(log int) []api.Pair {
	l := []api.Pair{{}, {A: api.P, B: api.P}, {A: 1}, {A: 2}, {B: 1}, {A: 7}, {A: api.P - 1}, {A: api.P - 7}, {A: top, B: top}, {A: api.P + 1}, {A: 1, B: 1}, {A: 1, B: api.P - 1}}
	for _, i := range []int{0, 1, 2, 1<<log - 2, 1<<log - 1} {
		if i < 0 {
			continue
		}
		row := point(1, log, i).Uint64()
		l = append(l, api.Pair{A: row}, api.Pair{A: row, B: api.P}, api.Pair{A: row, B: 3}, api.Pair{B: row}, api.Pair{A: point(7, log, i).Uint64()}, api.Pair{A: point(1, log+1, 2*i+1).Uint64()})
	}
	return append(l, general(4, uint64(log))...)
}

// P24.1: one coefficient of each rule, be it a step's or another one, and of each Bound.
func TestCount(t *testing.T) {
	for s, want := range map[string]int{
		"1 1":                               0,
		"8 10":                              0,
		"1 1 | c0":                          1,
		"1 1 | | c0":                        1,
		"1 1 | | | 0 0":                     1,
		"3 2 | c0 ; c1 ; c2":                3,
		"1 2 | | c0 ; c0 ; n0":              3,
		"2 2 | | | 0 0 ; 1 3":               2,
		"2 2 | c1 ; c0 | | 0 0":             3,
		"2 2 | c1 ; c0 | n0 ; c1":           4,
		"2 2 | | c0 ; c1 | 0 0 ; 0 1 ; 0 2": 5,
		"2 2 | c1 ; c0 | n0 ; k1 ; k2 | 0 0 ; 0 1":      7,
		"1 0 | c0 | c0 ; c0 ; c0 ; c0 ; c0 | 0 0":       7,
		"2 1 | c1 c0 * ; c0 | n0 | 0 0 ; 1 0 ; 0 1":     6,
		"3 1 | c1 ; c0 ; c2 | n0 ; n1 ; n2 ; n0 | ":     7,
		"1 1 | c0 c0 * | n0 | 0 0":                      3,
		"1 3 | | | 0 0 ; 0 7 ; 0 1 ; 0 6 ; 0 2":         5,
		"4 1 | c0 ; c0 ; c0 ; c0 | | 0 0 ; 1 0":         6,
		"2 2 | k5 ; k6 | k0 ; k0 n0 * | 1 3 ; 1 2 ;1 1": 7,
	} {
		if got := mix.Count(may(t, s)); got != want {
			t.Errorf("Count of %s: %d, not %d", s, got, want)
		}
	}
	if got := mix.Count(most(t, 10)); got != 8+16+16 {
		t.Errorf("Count of as many as there may be: %d", got)
	}
	none := api.Air{Cols: 2, Log: 3, Steps: []string{}, Rules: []string{}, Bounds: []api.Bound{}}
	if got := mix.Count(none); got != 0 {
		t.Errorf("Count of empty lists: %d", got)
	}
}

// most is one of as many columns, rules and Bounds as there may be, of all degrees that there may be.
func most(t *testing.T, log int) api.Air {
	steps := []string{"c1", "c2 c0 +", "c3 k2 *", "c4 c0 *", "c5 c0 c1 * -", "c6", "c7 c7 * c7 *", "c0 c0 * c1 c1 * *"}
	var rules, bounds []string
	for i := range 16 {
		c := strconv.Itoa(i % 8)
		rules = append(rules, "n"+c+" "+steps[i%8]+" - "+[]string{"", "k5 *"}[i/8])
		bounds = append(bounds, c+" "+strconv.Itoa((i/8)*(1<<log-1)))
	}
	return may(t, "8 "+strconv.Itoa(log)+"|"+strings.Join(steps, ";")+"|"+strings.Join(rules, ";")+"|"+strings.Join(bounds, ";"))
}

// P24.1: the chapter's example: of rows 3 and 9, where the next one is the square.
func TestValueExample(t *testing.T) {
	a := may(t, "1 1 | c0 c0 * | | 0 0")
	by, public := pairs("1,0 1,0"), numbers("3")
	// At 2 the columns are 6 - 3 times 2, and 6 + 3 times 2: 12 less 0, by 2 less 1, and 0 less 3, by 2 less 1.
	comesTo(t, a, public, by, pairs("0,0"), pairs("12,0"), api.Pair{A: 2}, api.Pair{A: 9})
	comesTo(t, a, public, pairs("1,0 0,0"), pairs("0,0"), pairs("12,0"), api.Pair{A: 2}, api.Pair{A: 12})
	comesTo(t, a, public, pairs("0,0 1,0"), pairs("0,0"), pairs("12,0"), api.Pair{A: 2}, api.Pair{A: api.P - 3})
	comesTo(t, a, public, pairs("0,1 0,0"), pairs("0,0"), pairs("12,0"), api.Pair{A: 2}, api.Pair{B: 12})
	// At 3 divided by 2: the gap of two rows is 3 less 1, not 3 plus 1.
	comesTo(t, a, public, by, pairs("5,0"), pairs("31,0"), api.Pair{A: 3}, api.Pair{A: 4})
	nowhere(t, a, public, by, pairs("3,0"), pairs("9,0"), api.Pair{A: 1})
	nowhere(t, a, public, by, pairs("9,0"), pairs("3,0"), api.Pair{A: api.P - 1})
}

// P24.1: values that another program worked out, of columns that it laid through rows.
func TestValueWritten(t *testing.T) {
	for _, w := range writtens() {
		if w.x == "" {
			continue
		}
		a, x := may(t, w.air), pairs(w.x)[0]
		cols := lines(w.cols)
		cur, next := atNumbers(cols, great(x)), atNumbers(cols, great(x).times(plain(point(1, a.Log, 1))))
		if a.Log == 0 {
			next = cur
		}
		comesTo(t, a, numbers(w.public), pairs(w.mix), cur, next, x, pairs(w.value)[0])
		if w.parts != "" {
			outs := atPairs(cuts(w.parts), great(x))
			got := mix.Joined(a, outs, x)
			// Where there are as few places as parts, rows that break a rule have parts too, of another value.
			if kept := w.air != "1 1 | c0 c0 * c0 * | | 0 0"; kept != (got == pairs(w.value)[0]) {
				t.Errorf("%s: joined %v, by value %s", w.air, got, w.value)
			}
		}
	}
}

// several are such as tell apart rules, Bounds, columns and rows.
func several() []string {
	return []string{
		"1 1", "1 0", "8 3", "1 0 | | | 0 0", "1 1 | c0 | ", "1 2 | c0 c0 * | n0 c0 - | 0 3 ; 0 0",
		"2 2 | c1 ; c0 c1 + | | 0 0 ; 1 3", "2 2 | c1 k2 * ; c0 | n0 c1 - c0 * ; n1 n0 * c1 c0 * - ; k5 | 1 0 ; 0 0 ; 0 1",
		"3 3 | | n2 c0 - ; c0 c1 * c2 * n0 * ; n1 n1 * ; c2 k18446744069414584320 * | ", "3 3 | | | 2 7 ; 0 6 ; 1 1 ; 2 0",
		"2 0 | c1 ; c0 | n0 c1 - ; c0 c1 * ; k0 ; k3 | 1 0 ; 0 0", "2 1 | | n1 n0 - c1 - c0 - ; c0 n0 - | 1 1 ; 1 0 ; 0 1 ; 0 0",
		"4 4 | c1 ; c2 ; c3 ; c0 c1 * c2 c3 * * | n0 c1 - ; n3 | 3 15 ; 2 14 ; 1 1 ; 0 8",
	}
}

// P24.1: each rule by itself, be it a step's or another one, then each Bound by itself: in this order, and none of the others.
func TestValueEach(t *testing.T) {
	for k, s := range several() {
		a := may(t, s)
		public := ordinary(len(a.Bounds), uint64(k))
		cur, next := general(a.Cols, uint64(10+k)), general(a.Cols, uint64(20+k))
		for _, x := range general(2, uint64(30+k)) {
			n := mix.Count(a)
			sum := great(api.Pair{})
			by := general(n, uint64(40+k))
			for i := range n {
				one := lone(n, i, by[i])
				alike(t, a, public, one, cur, next, x)
				got, _ := mix.Value(a, public, one, cur, next, x)
				sum = sum.plus(great(got))
			}
			comesTo(t, a, public, by, cur, next, x, sum.pair())
			comesTo(t, a, public, make([]api.Pair, n), cur, next, x, api.Pair{})
		}
	}
}

// P24.1: what a rule leaves, divided by the gap; and a Bound's own column, less its own public value, divided by what is 0 at its own row, written out by themselves.
func TestValueAlone(t *testing.T) {
	x := api.Pair{A: 11, B: 12}
	gap, _ := gapBy(2, great(x))
	cur, next := pairs("5,6 7,8"), pairs("9,10 11,12")
	rule := func(s string, want api.Pair) {
		comesTo(t, may(t, s), nil, pairs("1,0"), cur, next, x, great(want).under(gap).pair())
		comesTo(t, may(t, s), nil, pairs("3,4"), cur, next, x, great(want).times(great(api.Pair{A: 3, B: 4})).under(gap).pair())
	}
	rule("2 2 | | c0", api.Pair{A: 5, B: 6})
	rule("2 2 | | n1", api.Pair{A: 11, B: 12})
	rule("2 2 | | c1 n0 -", api.Pair{A: api.P - 2, B: api.P - 2})
	rule("2 2 | | k18446744069414584320", api.Pair{A: api.P - 1})
	rule("2 2 | | c0 c1 *", api.Pair{A: 35 + 7*48, B: 82})
	step := may(t, "2 2 | c1 ; c0 c1 +")
	comesTo(t, step, nil, pairs("1,0 0,0"), cur, next, x, great(api.Pair{A: 2, B: 2}).under(gap).pair())
	comesTo(t, step, nil, pairs("0,0 1,0"), cur, next, x, great(api.Pair{A: api.P - 1, B: api.P - 2}).under(gap).pair())
	for row := range 4 {
		for col := range 2 {
			a := may(t, "2 2 | | | "+strconv.Itoa(col)+" "+strconv.Itoa(row))
			off := great(cur[col]).minus(plain(big.NewInt(3)))
			want := off.under(great(x).minus(plain(point(1, 2, row))))
			comesTo(t, a, numbers("3"), pairs("1,0"), cur, next, x, want.pair())
			comesTo(t, a, []uint64{3}, pairs("0,2"), cur, next, x, want.times(whole{big.NewInt(0), big.NewInt(2)}).pair())
			comesTo(t, a, []uint64{3 + api.P}, pairs("1,0"), cur, next, x, want.pair())
		}
	}
}

// P24.1: numbers of all kinds, not as they are kept too, of all rows and points of all kinds.
func TestValueAny(t *testing.T) {
	for k, s := range several() {
		a := may(t, s)
		for i, x := range anyPoints(a.Log) {
			seed := uint64(1000*k + i)
			alike(t, a, mixed(len(a.Bounds), seed), mixedPairs(mix.Count(a), seed+1), mixedPairs(a.Cols, seed+2), mixedPairs(a.Cols, seed+3), x)
		}
	}
	for seed := range uint64(300) {
		x := one(drawn(seed))
		n := mix.Count(x.a)
		for i, z := range append(mixedPairs(2, seed+7), anyPoints(x.a.Log)[seed%12]) {
			alike(t, x.a, mixed(len(x.public), seed+uint64(i)), mixedPairs(n, seed+1), mixedPairs(x.a.Cols, seed+2), mixedPairs(x.a.Cols, seed+3), z)
		}
	}
}

// P24.1: values count modulo P, however they are written.
func TestValueModulo(t *testing.T) {
	a := may(t, "2 2 | c1 ; c0 c1 * | n0 c1 - n1 * | 0 0 ; 1 3")
	public, by := numbers("5 6"), pairs("1,2 3,4 5,6 7,8 9,10")
	cur, next, x := pairs("11,12 13,14"), pairs("15,16 17,18"), api.Pair{A: 19, B: 20}
	want, _ := valueBy(a, public, by, cur, next, x)
	up := func(l []api.Pair) []api.Pair {
		out := slices.Clone(l)
		for i, p := range out {
			out[i] = api.Pair{A: p.A + api.P, B: p.B + api.P}
		}
		return out
	}
	comesTo(t, a, public, by, cur, next, x, want)
	comesTo(t, a, []uint64{5 + api.P, 6 + api.P}, by, cur, next, x, want)
	comesTo(t, a, public, up(by), cur, next, x, want)
	comesTo(t, a, public, by, up(cur), next, x, want)
	comesTo(t, a, public, by, cur, up(next), x, want)
	comesTo(t, a, public, by, cur, next, up([]api.Pair{x})[0], want)
	// What is left of nothing but noughts is 0 as it is kept.
	nought := []api.Pair{{A: api.P, B: api.P}, {A: api.P}}
	comesTo(t, may(t, "2 2 | | c0 ; n1 | 0 1"), []uint64{api.P}, up(pairs("1,2 3,4 5,6")), nought, nought, x, api.Pair{})
}

// P24.1: more coefficients than there must be bear on nothing, nor does what stands behind the lists' ends.
func TestValueMore(t *testing.T) {
	for k, s := range several() {
		a := may(t, s)
		n := mix.Count(a)
		public, cur, next := mixed(len(a.Bounds), 1), mixedPairs(a.Cols, 2), mixedPairs(a.Cols, 3)
		by, x := mixedPairs(n+3, uint64(4+k)), general(1, 5)[0]
		want, ok := valueBy(a, public, by, cur, next, x)
		if !ok {
			t.Fatal("no value")
		}
		for more := range 4 {
			comesTo(t, a, public, by[:n+more], cur, next, x, want)
			comesTo(t, a, public, append(slices.Clone(by[:n]), make([]api.Pair, more)...), cur, next, x, want)
		}
	}
}

// P24.1: zero and false just at the rows' points: the first one's, the last one's and all between, however they are written, with rules and Bounds or without; not at 0, nor at places, nor at the points of twice as many rows between.
func TestValueRows(t *testing.T) {
	for log := range 6 {
		for _, s := range []string{"1 %", "1 % | c0", "1 % | | | 0 0", "1 % | | n0 c0 - | 0 0"} {
			a := may(t, strings.ReplaceAll(s, "%", strconv.Itoa(log)))
			public, by := mixed(len(a.Bounds), 1), general(mix.Count(a), 2)
			for i := range 1 << log {
				row := point(1, log, i).Uint64()
				nowhere(t, a, public, by, pairs("5,0"), pairs("6,7"), api.Pair{A: row})
				nowhere(t, a, public, make([]api.Pair, len(by)), pairs("0,0"), pairs("0,0"), api.Pair{A: row, B: api.P})
				if row < 1<<32-1 {
					nowhere(t, a, public, by, pairs("5,0"), pairs("6,7"), api.Pair{A: row + api.P})
				}
				alike(t, a, public, by, pairs("5,0"), pairs("6,7"), api.Pair{A: row, B: 1})
				alike(t, a, public, by, pairs("5,0"), pairs("6,7"), api.Pair{A: row, B: api.P - 1})
				alike(t, a, public, by, pairs("5,0"), pairs("6,7"), api.Pair{B: row})
				alike(t, a, public, by, pairs("5,0"), pairs("6,7"), api.Pair{A: point(7, log, i).Uint64()})
				alike(t, a, public, by, pairs("5,0"), pairs("6,7"), api.Pair{A: point(1, log+1, 2*i+1).Uint64()})
			}
			for _, x := range []api.Pair{{}, {A: api.P}, {B: api.P}, {A: api.P, B: api.P}} {
				want, ok := valueBy(a, public, by, pairs("5,0"), pairs("6,7"), x)
				if !ok {
					t.Fatal("0 is no row's point")
				}
				comesTo(t, a, public, by, pairs("5,0"), pairs("6,7"), x, want)
			}
		}
	}
}

// P24.1: as many rows as there may be: at their points, and at others.
func TestValueMost(t *testing.T) {
	a := most(t, 10)
	public, by := mixed(16, 1), mixedPairs(40, 2)
	cur, next := mixedPairs(8, 3), mixedPairs(8, 4)
	for _, i := range []int{0, 1, 2, 511, 512, 513, 1022, 1023} {
		nowhere(t, a, public, by, cur, next, api.Pair{A: point(1, 10, i).Uint64()})
		alike(t, a, public, by, cur, next, api.Pair{A: point(1, 10, i).Uint64(), B: 1})
	}
	for _, x := range mixedPairs(4, 5) {
		alike(t, a, public, by, cur, next, x)
	}
}

// P24.1: steps and rules of as many operations, and on as high a stack, as there may be; a step's rule has two operations and one value more.
func TestValueGreat(t *testing.T) {
	for _, s := range []string{
		"c0" + strings.Repeat(" k3 +", 127),
		"c0" + strings.Repeat(" c1 -", 127),
		strings.Repeat("c1 ", 16) + strings.Repeat("+ ", 15),
		strings.Repeat("c1 c0 ", 8) + strings.Repeat("- ", 15),
		strings.Repeat("c1 c0 ", 7) + strings.Repeat("- ", 13),
		"c1 c1 * c1 * c0 *", "k18446744069414584320", "k0", "c0",
	} {
		a := may(t, "2 3 |"+s+"; "+s+"|"+s+"| 1 7")
		for seed := range uint64(4) {
			cur, next := mixedPairs(2, seed), mixedPairs(2, seed+10)
			for i := range 4 {
				alike(t, a, numbers("5"), lone(4, i, api.Pair{A: 2, B: 3}), cur, next, general(1, seed)[0])
			}
		}
	}
	if all, _ := air.Rules(may(t, "1 1 | c0"+strings.Repeat(" k3 +", 127))); len(all[0]) != 257 {
		t.Errorf("the longest rule has %d operations", len(all[0]))
	}
}

// P24.1: Joined, by the chapter's sum: of none, one and several, at 0, at 1, and at points of two values.
func TestJoined(t *testing.T) {
	xs := []api.Pair{{}, {A: api.P, B: api.P}, {A: 1}, {A: api.P + 1}, {A: api.P - 1}, {A: 2}, {B: 1}, {A: 3, B: 5}, {A: top, B: top}}
	xs = append(xs, general(3, 9)...)
	for log := range 7 {
		a := made("1 " + strconv.Itoa(log))
		for _, x := range xs {
			for n := range 6 {
				outs := mixedPairs(n, uint64(10*log+n))
				if got, want := mix.Joined(a, outs, x), joinedBy(log, outs, x); got != want {
					t.Errorf("Joined of %d at %v, of 2^%d rows: %v, not %v", n, x, log, got, want)
				}
			}
		}
	}
	joined := func(log string, outs string, x, want api.Pair) {
		t.Helper()
		if got := mix.Joined(made("1 "+log), pairs(outs), x); got != want {
			t.Errorf("Joined of %s at %v: %v, not %v", outs, x, got, want)
		}
	}
	joined("1", "9,0", api.Pair{A: 2}, api.Pair{A: 9})
	joined("1", "1,0 1,0", api.Pair{A: 2}, api.Pair{A: 5})
	joined("2", "1,0 1,0 1,1", api.Pair{A: 2}, api.Pair{A: 1 + 16 + 256, B: 256})
	joined("0", "5,6 7,8", api.Pair{}, api.Pair{A: 5, B: 6})
	joined("0", "5,6 7,8", api.Pair{A: 1}, api.Pair{A: 12, B: 14})
	joined("1", "5,6 7,8", api.Pair{B: 1}, api.Pair{A: 5 + 49, B: 6 + 56})
	joined("0", "5,6 7,8", api.Pair{B: 1}, api.Pair{A: 5 + 56, B: 6 + 7})
	joined("3", "", api.Pair{A: 5, B: 3}, api.Pair{})
	joined("3", "18446744069414584321,18446744073709551615", api.Pair{A: 5, B: 3}, api.Pair{B: 1<<32 - 2})
	a := made("8 10")
	for _, x := range xs {
		outs := mixedPairs(3, 6)
		if got, want := mix.Joined(a, outs, x), joinedBy(10, outs, x); got != want {
			t.Errorf("Joined of 2^10 rows at %v: %v, not %v", x, got, want)
		}
	}
}

// P24.1: Lifted, of none, one and many, as they are kept and not.
func TestLifted(t *testing.T) {
	for n := range 40 {
		l := mixed(n, uint64(n))
		got := mix.Lifted(l)
		if len(got) != n {
			t.Errorf("Lifted of %d: %d pairs", n, len(got))
			continue
		}
		for i, x := range l {
			if got[i] != (api.Pair{A: x % api.P}) {
				t.Errorf("Lifted of %d: %v", x, got[i])
			}
		}
	}
	if got := mix.Lifted(numbers("7 0 18446744069414584320 18446744069414584321 18446744069414584322 18446744073709551615 0")); !slices.Equal(got, pairs("7,0 0,0 18446744069414584320,0 0,0 1,0 4294967294,0 0,0")) {
		t.Errorf("Lifted: %v", got)
	}
	if len(mix.Lifted(nil)) != 0 || len(mix.Lifted([]uint64{})) != 0 {
		t.Error("Lifted of no numbers has some")
	}
	many := mix.Lifted(mixed(1<<16, 3))
	for i, x := range mixed(1<<16, 3) {
		if many[i] != (api.Pair{A: x % api.P}) {
			t.Fatalf("Lifted of many, at %d: %v", i, many[i])
		}
	}
}
