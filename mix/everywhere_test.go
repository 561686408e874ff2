package mix_test

import (
	"math"
	"slices"
	"sync"
	"testing"

	"assayer/air"
	"assayer/api"
	"assayer/mix"
)

// filled is a list with room behind its end, in which something stands.
func filled[V any](l []V, behind V) []V {
	out := append(slices.Clone(l), behind, behind, behind)
	return out[:len(l)]
}

// room is what stands in the room behind a list's end.
func room[V any](l []V) []V { return l[len(l) : len(l)+3] }

// filledAll is filled, of lists of lists.
func filledAll[V any](l [][]V, behind V) [][]V {
	var out [][]V
	for _, x := range l {
		out = append(out, filled(x, behind))
	}
	return filled(out, []V{behind})
}

// calls are all arguments that are handed in to some calls, with room behind the ends.
type calls struct {
	a               api.Air
	public          []uint64
	by, cur, next   []api.Pair
	outs            []api.Pair
	rows, cols, all [][]uint64
	x               api.Pair
}

func given(t *testing.T) calls {
	a := may(t, "2 2 | c1 ; c0 c1 + | n0 c1 - c0 * ; n1 c0 - c1 - n0 * n1 * | 0 0 ; 1 3")
	a.Steps, a.Rules, a.Bounds = filled(a.Steps, "\x03"), filled(a.Rules, "\x03"), filled(a.Bounds, api.Bound{Col: 9, Row: 9})
	rows := lines("1 1 / 1 2 / 2 3 / 3 5")
	cols := columnsBy(rows, 2)
	p := api.Pair{A: 70, B: 71}
	return calls{
		a: a, public: filled(numbers("1 5"), 72),
		by: filled(mixedPairs(6, 1), p), cur: filled(mixedPairs(2, 2), p), next: filled(mixedPairs(2, 3), p), outs: filled(mixedPairs(3, 4), p),
		rows: filledAll(rows, 73), cols: filledAll(cols, 74), all: filledAll(spreadBy(cols, 4), 75),
		x: api.Pair{A: 5, B: 6},
	}
}

// answers are what all calls tell of what is given.
type answers struct {
	count         int
	value, joined api.Pair
	cols, all     [][]uint64
	lifted        []api.Pair
	parts         [][]api.Pair
	fine, whole   bool
}

func (c calls) ask() answers {
	var out answers
	out.count = mix.Count(c.a)
	out.value, out.fine = mix.Value(c.a, c.public, c.by, c.cur, c.next, c.x)
	out.joined = mix.Joined(c.a, c.outs, c.x)
	out.cols = mix.Columns(c.a, c.rows)
	out.all = mix.Spread(c.cols, 4)
	out.lifted = mix.Lifted(c.public)
	out.parts, out.whole = mix.Parts(c.a, 2, c.public, c.by, c.all)
	return out
}

// as is whether two answers are the same.
func (x answers) as(y answers) bool {
	return x.count == y.count && x.value == y.value && x.joined == y.joined && x.fine == y.fine && x.whole == y.whole &&
		same(x.cols, y.cols) && same(x.all, y.all) && slices.Equal(x.lifted, y.lifted) && same(x.parts, y.parts)
}

// answersBy are those that are asked.
func answersBy(t *testing.T) answers {
	c := given(t)
	out := answers{count: 6, joined: joinedBy(2, c.outs, c.x), cols: c.cols, all: c.all, lifted: pairs("1,0 5,0")}
	out.value, out.fine = valueBy(c.a, c.public, c.by, c.cur, c.next, c.x)
	out.parts, out.whole = partsBy(c.a, 2, c.public, c.by, c.all)
	if !out.fine || !out.whole {
		t.Fatal("there is nothing")
	}
	return out
}

// unchanged holds that all is as it was handed in, the room behind the ends too.
func unchanged(t *testing.T, c calls) {
	t.Helper()
	was := given(t)
	if air.Print(c.a) != air.Print(was.a) || !slices.Equal(c.public, was.public) || !slices.Equal(c.by, was.by) || !slices.Equal(c.cur, was.cur) || !slices.Equal(c.next, was.next) || !slices.Equal(c.outs, was.outs) || !same(c.rows, was.rows) || !same(c.cols, was.cols) || !same(c.all, was.all) {
		t.Error("what was handed in has changed")
	}
	if !slices.Equal(room(c.a.Steps), room(was.a.Steps)) || !slices.Equal(room(c.a.Rules), room(was.a.Rules)) || !slices.Equal(room(c.a.Bounds), room(was.a.Bounds)) || !slices.Equal(room(c.public), room(was.public)) {
		t.Error("the room behind what was handed in has changed")
	}
	for _, l := range [][2][]api.Pair{{c.by, was.by}, {c.cur, was.cur}, {c.next, was.next}, {c.outs, was.outs}} {
		if !slices.Equal(room(l[0]), room(l[1])) {
			t.Error("the room behind pairs that were handed in has changed")
		}
	}
	for _, l := range [][2][][]uint64{{c.rows, was.rows}, {c.cols, was.cols}, {c.all, was.all}} {
		if !same(room(l[0]), room(l[1])) {
			t.Error("the room behind lists that were handed in has changed")
		}
		for i, x := range l[0] {
			if !slices.Equal(room(x), room(l[1][i])) {
				t.Error("the room behind a list that was handed in has changed")
			}
		}
	}
}

// apart holds that no list of an answer reaches into another one.
func apart[V comparable](t *testing.T, what string, l [][]V, other V) {
	t.Helper()
	was := copied(l)
	for i, x := range l {
		l[i] = append(x, other, other)
		clear(x)
		for j := range l {
			if j > i && !slices.Equal(l[j], was[j]) {
				t.Errorf("%s: list %d has changed with list %d", what, j, i)
			}
			if j < i && slices.ContainsFunc(l[j][:len(was[j])], func(v V) bool { return v != *new(V) }) {
				t.Errorf("%s: list %d has changed with list %d", what, j, i)
			}
		}
		clear(l[i][:cap(l[i])])
	}
}

// Rules 3, 4 and 7a: what is handed in is as it was, the room behind the ends too; answers are new memory, and hang on the arguments alone, whatever was asked and written over ahead of it.
func TestKept(t *testing.T) {
	want, c := answersBy(t), given(t)
	for range 3 {
		got := c.ask()
		if !got.as(want) {
			t.Fatalf("%s, not %s", brief(got), brief(want))
		}
		unchanged(t, c)
		apart(t, "Columns", got.cols, 5)
		apart(t, "Spread", got.all, 5)
		apart(t, "Parts", got.parts, api.Pair{A: 5})
		clear(got.lifted[:cap(got.lifted)])
		unchanged(t, c)
	}
	// What was handed in may be changed afterwards.
	got := c.ask()
	for _, l := range [][][]uint64{c.rows, c.cols, c.all, {c.public}} {
		for _, x := range l {
			clear(x[:cap(x)])
		}
		clear(l)
	}
	clear(c.by)
	clear(c.outs)
	if !got.as(want) {
		t.Error("an answer has changed with what was handed in")
	}
	// One number alone, which is as it was, is new memory too.
	rows := lines("4")
	cols := mix.Columns(made("1 0"), rows)
	spread := mix.Spread(rows, 0)
	cols[0][0], spread[0][0] = 9, 9
	if rows[0][0] != 4 {
		t.Error("what was handed in has changed with an answer")
	}
}

// Rule 2: lists that hold nothing may be nil or empty, handed in, and are nothing in either way.
func TestEmpty(t *testing.T) {
	x, row := api.Pair{A: 5, B: 6}, pairs("3,4")
	for _, texts := range [][]string{nil, {}} {
		for _, bounds := range [][]api.Bound{nil, {}} {
			for _, public := range [][]uint64{nil, {}} {
				for _, by := range [][]api.Pair{nil, {}} {
					a := api.Air{Cols: 1, Log: 1, Steps: texts, Rules: texts, Bounds: bounds}
					comesTo(t, a, public, by, row, row, x, api.Pair{})
					nowhere(t, a, public, by, row, row, api.Pair{A: 1})
					nowhere(t, a, public, by, row, row, api.Pair{A: api.P - 1})
					cutTo(t, a, 1, public, by, lines("1 / 2 / 3 / 4"), cuts("0,0 0,0"))
					if got := mix.Joined(a, by, x); got != (api.Pair{}) {
						t.Errorf("Joined of none: %v", got)
					}
					if got := mix.Lifted(public); len(got) != 0 {
						t.Errorf("Lifted of none: %v", got)
					}
					holds(t, "Columns", mix.Columns(a, lines("3 / 9")), lines("6 18446744069414584318"))
				}
			}
		}
	}
}

// No call panics, whatever it is given, those that nobody asks for too; and where there is nothing, all is zero.
func TestWhatever(t *testing.T) {
	airs := []api.Air{
		{}, {Cols: -1, Log: -1}, {Cols: math.MinInt, Log: math.MinInt}, {Cols: math.MaxInt, Log: math.MaxInt, Steps: []string{"\x07"}},
		{Cols: 1, Log: 40}, {Cols: 1, Log: 64}, {Cols: 1, Log: 11}, {Cols: 9}, {Cols: 2, Log: 1, Steps: []string{"\x01\x00"}}, {Cols: 1, Steps: []string{""}},
		{Cols: 1, Rules: []string{"\x04"}}, {Cols: 1, Bounds: []api.Bound{{Col: 1}}}, {Cols: 1, Bounds: []api.Bound{{Row: -1}}}, {Cols: 1, Bounds: []api.Bound{{}, {}}},
		made("1 1 | c0"), made("2 2 | | n0 c1 * c0 - | 1 3 ; 0 0"), made("8 3 | | n7 | 7 7"),
	}
	ints := []int{math.MinInt, -64, -3, -2, -1, 0, 1, 2, 20, 21, 62, 63, 64, math.MaxInt}
	rows := [][][]uint64{nil, {}, {nil}, {nil, nil, {1}}, {{1}}, {{1, 2}, {3}}, {{1}, {2}, {3}, {4}}, {{1, 2, 3}, {4, 5, 6}, {7, 8, 9}}}
	for _, a := range airs {
		mix.Count(a)
		mix.Joined(a, mixedPairs(3, 1), api.Pair{A: 2})
		for n := range 4 {
			public, by := mixed(n, 1), mixedPairs(2*n, 2)
			for _, x := range []api.Pair{{}, {A: 1}, {A: 5, B: 6}} {
				if got, ok := mix.Value(a, public, by, mixedPairs(n, 3), mixedPairs(3-n, 4), x); !ok && got != (api.Pair{}) {
					t.Errorf("Value of %s: %v beside false", brief(a), got)
				}
			}
			for _, l := range rows {
				for _, blow := range ints {
					if got, ok := mix.Parts(a, blow, public, by, l); !ok && len(got) != 0 {
						t.Errorf("Parts of %s: %s beside false", brief(a), brief(got))
					}
				}
			}
		}
		for _, l := range rows {
			mix.Columns(a, l)
		}
	}
	for _, l := range rows {
		for _, m := range ints {
			if m == 20 {
				continue
			}
			if got := mix.Spread(l, m); (m < 0 || m > 20) && len(got) != 0 {
				t.Errorf("Spread to 2^%d places: %s", m, brief(got))
			}
		}
	}
}

// Rule 6: many may call at once, of the same lists too.
func TestAtOnce(t *testing.T) {
	want, c := answersBy(t), given(t)
	var wait sync.WaitGroup
	for range 8 {
		wait.Go(func() {
			for range 10 {
				if got := c.ask(); !got.as(want) {
					t.Errorf("%s, not %s", brief(got), brief(want))
				}
			}
		})
	}
	wait.Wait()
	unchanged(t, c)
}
