package mix_test

import (
	"math/big"
	"slices"
	"strconv"
	"strings"
	"testing"

	"assayer/air"
	"assayer/api"
	"assayer/mix"
	"assayer/trace"
)

// instance is rows and public values, and what they must keep.
type instance struct {
	a      api.Air
	public []uint64
	rows   [][]uint64
}

// expression is n columns and constants, and what puts them together, with no greater degree than some; and its degree.
func expression(n, degree, cols int, next bool, draw func(int) int) (string, int) {
	if n == 1 {
		switch draw(4) {
		case 0:
			return "k" + strconv.FormatUint([]uint64{0, 1, 7, 1 << 32, api.P - 1}[draw(5)], 10), 0
		case 1:
			if next {
				return "n" + strconv.Itoa(draw(cols)), 1
			}
		}
		return "c" + strconv.Itoa(draw(cols)), 1
	}
	k := 1 + draw(n-1)
	a, d := expression(k, degree, cols, next, draw)
	b, e := expression(n-k, degree, cols, next, draw)
	if d+e <= degree && draw(2) == 0 {
		return a + " " + b + " *", d + e
	}
	return a + " " + b + []string{" +", " -"}[draw(2)], max(d, e)
}

// one is rows that keep all that they must, always the same ones of one draw.
func one(draw func(int) int) instance {
	x := instance{a: api.Air{Cols: 1 + draw(4), Log: draw(4)}}
	cols := x.a.Cols
	_, x.rows = wide(cols, x.a.Log, uint64(draw(1<<20)))
	for i, row := range x.rows {
		x.rows[i] = slices.Clone(row)
		for c := range row {
			x.rows[i][c] %= api.P
		}
	}
	var steps []string
	if draw(4) > 0 {
		for range cols {
			s, _ := expression(1+draw(4), 1+draw(4), cols, false, draw)
			steps = append(steps, s)
			x.a.Steps = append(x.a.Steps, bytesOf(s))
		}
		x.rows, _ = trace.Make(x.a, x.rows[0])
	}
	for range draw(4) {
		s, d := expression(1+draw(3), 2, cols, true, draw)
		s += " " + s + " -"
		if len(steps) > 0 && draw(3) > 0 {
			c := draw(cols)
			s = "n" + strconv.Itoa(c) + " " + steps[c] + " -"
			d = air.Degree(x.a)
		}
		if d < 4 {
			s += " c0 *"
		}
		x.a.Rules = append(x.a.Rules, bytesOf(s))
	}
	for range draw(5) {
		b := api.Bound{Col: draw(cols), Row: draw(len(x.rows))}
		if !slices.Contains(x.a.Bounds, b) {
			x.a.Bounds = append(x.a.Bounds, b)
		}
	}
	x.public = trace.Public(x.a, x.rows)
	return x
}

// laid is the rows of a trace at 2^(Log + blow) places.
func laid(a api.Air, rows [][]uint64, blow int) [][]uint64 {
	return mix.Spread(mix.Columns(a, rows), a.Log+blow)
}

// roomy is the least blow by which there are more places than the parts have coefficients.
func roomy(a api.Air) int {
	blow := 1
	for 1<<blow <= air.Parts(a) {
		blow++
	}
	return blow
}

// cutTo holds Parts against those that are asked.
func cutTo(t *testing.T, a api.Air, blow int, public []uint64, by []api.Pair, spread [][]uint64, want [][]api.Pair) {
	t.Helper()
	if got, ok := mix.Parts(a, blow, public, by, spread); !ok || !same(got, want) {
		t.Errorf("Parts of %s at 2^%d times as many places: %s, %v, not %s", brief(a), blow, brief(got), ok, brief(want))
	}
}

// uncut holds that there are no Parts.
func uncut(t *testing.T, a api.Air, blow int, public []uint64, by []api.Pair, spread [][]uint64) {
	t.Helper()
	if got, ok := mix.Parts(a, blow, public, by, spread); ok || len(got) != 0 {
		t.Errorf("Parts of %s at 2^%d times as many places: %s, %v, not none", brief(a), blow, brief(got), ok)
	}
}

// alikeParts holds Parts against the second way.
func alikeParts(t *testing.T, a api.Air, blow int, public []uint64, by []api.Pair, spread [][]uint64) bool {
	t.Helper()
	want, ok := partsBy(a, blow, public, by, spread)
	if ok {
		cutTo(t, a, blow, public, by, spread, want)
	} else {
		uncut(t, a, blow, public, by, spread)
	}
	return ok
}

// joins holds that the parts, joined at x, are what Value is there, of the columns at x and at the next row's point.
func joins(t *testing.T, a api.Air, public []uint64, by []api.Pair, rows [][]uint64, parts [][]api.Pair, x api.Pair) {
	t.Helper()
	cols := columnsBy(rows, a.Cols)
	cur, next := atNumbers(cols, great(x)), atNumbers(cols, great(x).times(plain(point(1, a.Log, 1))))
	if a.Log == 0 {
		next = cur
	}
	want, ok := mix.Value(a, public, by, cur, next, x)
	if got := mix.Joined(a, atPairs(parts, great(x)), x); !ok || got != want {
		t.Errorf("parts of %s, joined at %v: %v, not %v", brief(a), x, got, want)
	}
}

// P24.2: the chapter's example: rows 3 and 9, where the next one is the square: one part, by any coefficients; of 3 and 8, and where 4 is public, there are none by most.
func TestExample(t *testing.T) {
	a := may(t, "1 1 | c0 c0 * | | 0 0")
	good, bad := laid(a, lines("3 / 9"), 1), laid(a, lines("3 / 8"), 1)
	cutTo(t, a, 1, numbers("3"), pairs("1,0 1,0"), good, cuts("27,0 18446744069414584312,0"))
	cutTo(t, a, 1, numbers("3"), pairs("0,0 1,0"), good, cuts("18446744069414584318,0 0,0"))
	cutTo(t, a, 1, numbers("3"), pairs("0,0 0,1"), good, cuts("0,18446744069414584318 0,0"))
	cutTo(t, a, 1, numbers("4"), pairs("1,0 0,0"), good, cuts("30,0 18446744069414584312,0"))
	uncut(t, a, 1, numbers("4"), pairs("1,0 1,0"), good)
	uncut(t, a, 1, numbers("4"), pairs("0,0 1,0"), good)
	uncut(t, a, 1, numbers("3"), pairs("1,0 1,0"), bad)
	uncut(t, a, 1, numbers("3"), pairs("0,1 0,0"), bad)
	cutTo(t, a, 1, numbers("4"), pairs("0,0 0,0"), bad, cuts("0,0 0,0"))
}

// P24.2: parts that another program worked out, by dividing polynomials, or by laying one through all places.
func TestPartsWritten(t *testing.T) {
	for _, w := range writtens() {
		a := may(t, w.air)
		if w.parts == "" {
			uncut(t, a, w.blow, numbers(w.public), pairs(w.mix), lines(w.spread))
			continue
		}
		cutTo(t, a, w.blow, numbers(w.public), pairs(w.mix), lines(w.spread), cuts(w.parts))
	}
}

// P24.2: rows of numbers of all kinds at the places, as they are kept and not, by as many places as rows and by more: of such as tell apart which row is the next one, round about at the end, too.
func TestPartsAny(t *testing.T) {
	told := map[bool]int{}
	for k, s := range several() {
		a := may(t, s)
		for blow := range 4 {
			if a.Log+blow > 5 {
				continue
			}
			for seed := range uint64(2) {
				_, spread := wide(a.Cols, a.Log+blow, seed+uint64(100*k))
				by := mixedPairs(mix.Count(a)+int(seed), seed+1)
				told[alikeParts(t, a, blow, mixed(len(a.Bounds), seed), by, spread)]++
			}
		}
	}
	if told[true] < 20 || told[false] < 20 {
		t.Errorf("too few with parts, or without: %v", told)
	}
}

// P24.2: rows that keep what they must, and rows of which one thing is changed, of all kinds.
func TestPartsKept(t *testing.T) {
	for seed := range uint64(120) {
		draw := drawn(seed)
		x := one(draw)
		blow := draw(4)
		if x.a.Log+blow > 5 {
			blow = 5 - x.a.Log
		}
		by := mixedPairs(mix.Count(x.a)+draw(2), seed)
		alikeParts(t, x.a, blow, x.public, by, laid(x.a, x.rows, blow))
		x.rows = copied(x.rows)
		x.rows[draw(len(x.rows))][draw(x.a.Cols)] ^= 1
		alikeParts(t, x.a, blow, x.public, by, laid(x.a, x.rows, blow))
	}
}

// P24.2: the row 2^blow behind, round about at the places' end: of each place's next row alone, which nothing else tells.
func TestPartsNext(t *testing.T) {
	for log := range 4 {
		a := may(t, "1 "+strconv.Itoa(log)+" | | n0 c0 * c0 * n0 * | ")
		for blow := range 3 {
			m := log + blow
			for i := range 1 << m {
				spread := make([][]uint64, 1<<m)
				for j := range spread {
					spread[j] = []uint64{1}
				}
				spread[i] = []uint64{5}
				alikeParts(t, a, blow, nil, pairs("1,0"), spread)
			}
		}
		// Of the next row alone: with as many places as rows there are parts of whatever stands there.
		b := may(t, "1 "+strconv.Itoa(log)+" | | n0 | ")
		for i := range 1 << log {
			spread := make([][]uint64, 1<<log)
			for j := range spread {
				spread[j] = []uint64{0}
			}
			spread[i][0] = 1
			if !alikeParts(t, b, 0, nil, pairs("3,4"), spread) {
				t.Error("no parts of as few places as rows")
			}
		}
	}
}

// lined is rows at 2^m places of which a Bound's column, less a public value, divided by what is 0 at its row, comes to a coefficient times a power.
func lined(m, log, row, power int, n, public uint64) [][]uint64 {
	spread := make([][]uint64, 1<<m)
	for i := range spread {
		x := point(7, m, i)
		value := new(big.Int).Exp(x, big.NewInt(int64(power)), modulo)
		value.Mul(value, new(big.Int).SetUint64(n))
		value.Mul(value, new(big.Int).Sub(x, point(1, log, row)))
		value.Add(value, new(big.Int).SetUint64(public))
		spread[i] = []uint64{value.Mod(value, modulo).Uint64()}
	}
	return spread
}

// P24.2: one coefficient that isn't 0, at each place, of A and of B: it is where it stands, if the parts hold it; else there are none. Of one part and of several, of as many as there are places, and of more, with zeros behind.
func TestPartsOne(t *testing.T) {
	for n, rule := range []string{"c0", "c0 c0 *", "c0 c0 * c0 *", "n0 c0 * c0 * c0 *"} {
		parts := max(1, n)
		for log := range 4 {
			row := 1<<log - 1
			a := may(t, "1 "+strconv.Itoa(log)+" | |"+rule+"| 0 "+strconv.Itoa(row))
			for blow := range 4 {
				for power := range 1 << (log + blow) {
					spread := lined(log+blow, log, row, power, 9, 8)
					want := make([]api.Pair, parts<<log)
					if power >= len(want) {
						uncut(t, a, blow, numbers("8"), pairs("0,0 1,0"), spread)
						uncut(t, a, blow, numbers("8"), pairs("0,0 0,1"), spread)
						continue
					}
					want[power] = api.Pair{A: 9}
					cutTo(t, a, blow, numbers("8"), pairs("0,0 1,0"), spread, slices.Collect(slices.Chunk(want, 1<<log)))
					want[power] = api.Pair{B: 18}
					cutTo(t, a, blow, numbers("8"), pairs("0,0 0,2"), spread, slices.Collect(slices.Chunk(want, 1<<log)))
				}
			}
		}
	}
}

// P24.2: as many parts as layer 18 says, each of as many coefficients as there are rows, whatever is in them: of columns that are the same all over, of no rules, of coefficients that are all 0.
func TestPartsSizes(t *testing.T) {
	for s, parts := range map[string]int{
		"1 %": 1, "1 % | c0": 1, "1 % | | k0": 1, "1 % | | c0 c0 * c0 -": 1, "1 % | | | 0 0": 1,
		"1 % | | c0 c0 * c0 * c0 c0 * -": 2, "1 % | c0 | c0 c0 * c0 * c0 * n0 -": 3, "1 % | c0 c0 * c0 * c0 * | k0 | 0 0": 3,
		"2 % | c1 ; c0 c1 * | | ": 1, "2 % | c1 ; c0 c1 * c0 * | | 1 0": 2,
	} {
		for log := range 5 {
			a := may(t, strings.ReplaceAll(s, "%", strconv.Itoa(log)))
			rows := slices.Repeat([][]uint64{slices.Repeat([]uint64{1}, a.Cols)}, 1<<log)
			for blow := range 5 {
				got, ok := mix.Parts(a, blow, numbers("1")[:len(a.Bounds)], general(mix.Count(a), 3), laid(a, rows, blow))
				if !ok || len(got) != parts {
					t.Errorf("Parts of %s at 2^%d times as many places: %d, %v, not %d", s, blow, len(got), ok, parts)
				}
				for _, x := range got {
					if len(x) != 1<<log || slices.ContainsFunc(x, func(x api.Pair) bool { return x != api.Pair{} }) {
						t.Errorf("a part of %s, of 2^%d rows: %v", s, log, x)
					}
				}
				_, spread := wide(a.Cols, log+blow, 5)
				cutTo(t, a, blow, numbers("5")[:len(a.Bounds)], make([]api.Pair, mix.Count(a)), spread, got)
				nought := slices.Repeat([]api.Pair{{A: api.P, B: api.P}}, mix.Count(a)+2)
				cutTo(t, a, blow, numbers("5")[:len(a.Bounds)], nought, spread, got)
			}
		}
	}
}

// P24.2: more coefficients than there must be bear on nothing.
func TestPartsMore(t *testing.T) {
	a := may(t, "2 2 | c1 ; c0 c1 + | n1 c0 - c1 - c0 * | 0 0 ; 1 3")
	by, spread := general(9, 1), laid(a, lines("1 1 / 1 2 / 2 3 / 3 5"), 1)
	want, ok := partsBy(a, 1, numbers("1 5"), by, spread)
	if !ok {
		t.Fatal("no parts")
	}
	for n := 5; n <= 9; n++ {
		cutTo(t, a, 1, numbers("1 5"), by[:n], spread, want)
	}
	uncut(t, a, 1, numbers("1 6"), by, spread)
}

// P24.3: rows that keep their rules have parts at all blows that may be, and the parts, joined at any point, are what Value is there.
func TestKeep(t *testing.T) {
	for seed := range uint64(150) {
		x := one(drawn(seed))
		if fail, no := trace.Check(x.a, x.public, x.rows); no != api.OK {
			t.Fatalf("seed %d: rows break a rule, %v", seed, fail)
		}
		by := mixedPairs(mix.Count(x.a), seed)
		var first [][]api.Pair
		for blow := 1; blow <= 4; blow++ {
			// Layer 26 asks for no more parts than there are times as many places.
			if air.Parts(x.a) > 1<<blow {
				continue
			}
			parts, ok := mix.Parts(x.a, blow, x.public, by, laid(x.a, x.rows, blow))
			if !ok || first != nil && !same(parts, first) {
				t.Fatalf("seed %d, blow %d: parts %s, %v, not %s", seed, blow, brief(parts), ok, brief(first))
			}
			first = parts
		}
		for _, z := range append(general(2, seed), api.Pair{}, api.Pair{A: 2}, api.Pair{B: 1}, api.Pair{A: 7}) {
			if _, out := gapBy(x.a.Log, great(z)); out {
				joins(t, x.a, x.public, by, x.rows, first, z)
			}
		}
	}
}

// P24.3: of rows that break a rule, or miss a Bound, there are no parts by coefficients that nothing singles out, where there are more places than the parts have coefficients.
func TestBreak(t *testing.T) {
	broken := 0
	for seed := range uint64(200) {
		draw := drawn(seed)
		x := one(draw)
		x.rows, x.public = copied(x.rows), slices.Clone(x.public)
		if len(x.public) > 0 && draw(3) == 0 {
			i := draw(len(x.public))
			x.public[i] = (x.public[i] + 1) % api.P
		} else {
			i, c := draw(len(x.rows)), draw(x.a.Cols)
			x.rows[i][c] = (x.rows[i][c] + 1) % api.P
		}
		by := general(mix.Count(x.a), seed)
		_, no := trace.Check(x.a, x.public, x.rows)
		for blow := roomy(x.a); blow <= 4; blow++ {
			spread := laid(x.a, x.rows, blow)
			if parts, ok := mix.Parts(x.a, blow, x.public, by, spread); ok != (no == api.OK) {
				t.Errorf("seed %d, blow %d: parts %s, %v, of rows that break a rule: %v", seed, blow, brief(parts), ok, no)
			}
		}
		if no != api.OK {
			broken++
		}
	}
	if broken < 100 {
		t.Errorf("only %d break a rule", broken)
	}
}

// P24.3: rows that break one rule, or one Bound, alone: by that one's coefficient alone there are no parts; by all others there are. The last row is bound by its Bounds and by the rules of the row ahead; no rule is asked of it and the first one.
func TestBreakOne(t *testing.T) {
	a := may(t, "2 2 | c1 ; c0 c1 + | n0 c1 - c0 * ; n1 c0 - c1 - n0 * ; c0 c1 * c0 - c1 - k2 + c0 * | 0 0 ; 1 3 ; 0 2 ; 1 0")
	kept := lines("1 1 / 1 2 / 2 3 / 3 5")
	for _, x := range []struct {
		rows, public string
		broken       []int
	}{
		{"1 1 / 1 2 / 2 3 / 3 5", "1 5 2 1", []int{4}},
		{"1 1 / 1 2 / 2 3 / 3 5", "2 5 2 1", []int{4, 5}},
		{"1 1 / 1 2 / 2 3 / 3 5", "1 6 2 1", []int{4, 6}},
		{"1 1 / 1 2 / 2 3 / 3 5", "1 5 0 1", []int{4, 7}},
		{"1 1 / 1 2 / 2 3 / 3 5", "1 5 2 7", []int{4, 8}},
		{"1 1 / 1 2 / 2 3 / 3 6", "1 5 2 1", []int{1, 3, 4, 6}},
		{"1 1 / 1 2 / 2 3 / 3 6", "1 6 2 1", []int{1, 3, 4}},
		{"1 1 / 1 2 / 2 3 / 4 5", "1 5 2 1", []int{0, 2, 4}},
		{"0 1 / 1 1 / 1 2 / 2 3", "0 3 1 1", []int{4}},
		{"0 1 / 1 2 / 2 3 / 3 5", "0 5 2 1", []int{1, 3, 4}},
		{"0 1 / 2 1 / 1 3 / 3 4", "0 4 1 1", []int{0, 4}},
	} {
		rows := lines(x.rows)
		spread := laid(a, rows, 2)
		for i := range mix.Count(a) {
			by := lone(9, i, api.Pair{A: 3, B: 4})
			ok := alikeParts(t, a, 2, numbers(x.public), by, spread)
			if ok == slices.Contains(x.broken, i) {
				t.Errorf("%s, %s: parts %v by coefficient %d alone", x.rows, x.public, ok, i)
			}
		}
		others := general(9, 2)
		for _, i := range x.broken {
			others[i] = api.Pair{}
		}
		if _, ok := mix.Parts(a, 2, numbers(x.public), others, spread); !ok {
			t.Errorf("%s, %s: no parts by those that are kept", x.rows, x.public)
		}
	}
	// Round about, from the last row to the first one, no rule is asked.
	b := may(t, "2 2 | c1 ; c0 c1 + | | 0 0 ; 1 3")
	parts, ok := mix.Parts(b, 1, numbers("1 5"), general(4, 3), laid(b, kept, 1))
	if !ok {
		t.Fatal("no parts")
	}
	joins(t, b, numbers("1 5"), general(4, 3), kept, parts, api.Pair{A: 5, B: 6})
}

// P24.3: as many rows, columns, rules, Bounds and places as there may be: three parts, and none of rows that break the last rule, or miss the last Bound.
func TestMost(t *testing.T) {
	a := most(t, 10)
	rows, no := trace.Make(a, ordinaryKept(8, 3))
	public := trace.Public(a, rows)
	by := general(40, 4)
	if no != api.OK {
		t.Fatalf("no rows: %v", no)
	}
	parts, ok := mix.Parts(a, 4, public, by, laid(a, rows, 4))
	if !ok || len(parts) != 3 {
		t.Fatalf("%d parts, %v", len(parts), ok)
	}
	x := general(1, 5)[0]
	cols := mix.Columns(a, rows)
	cur, next := atNumbers(cols, great(x)), atNumbers(cols, great(x).times(plain(point(1, 10, 1))))
	want, fine := valueBy(a, public, by, cur, next, x)
	if got := mix.Joined(a, atPairs(parts, great(x)), x); !fine || got != want {
		t.Errorf("joined: %v, not %v", got, want)
	}
	comesTo(t, a, public, by, cur, next, x, want)
	public[15] ^= 1
	uncut(t, a, 2, public, by, laid(a, rows, 2))
	public[15] ^= 1
	rows[1023][7] ^= 1
	uncut(t, a, 2, public, by, laid(a, rows, 2))
	uncut(t, a, 2, public, lone(40, 23, api.Pair{B: 1}), laid(a, rows, 2))
}

// ordinaryKept are ordinary numbers, as they are kept.
func ordinaryKept(n int, seed uint64) []uint64 {
	l := ordinary(n, seed)
	for i := range l {
		l[i] %= api.P
	}
	return l
}
