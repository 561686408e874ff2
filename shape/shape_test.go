package shape_test

import (
	"math"
	"slices"
	"strconv"
	"strings"
	"sync"
	"testing"

	"assayer/api"
	"assayer/shape"
)

const top = math.MaxUint64

// limits are what an N of each kind is below, where the operation may be written; there is none of the kind 0.
var limits = [7]uint64{1: 256, 2: 256, 3: api.P, 4: 1, 5: 1, 6: 1}

// ops are the operations of a text: c, n or k and a number (a column, the next row's, a constant), +, - and *, or any kind and N with a colon between.
func ops(s string) []api.Op {
	var l []api.Op
	for _, word := range strings.Fields(s) {
		kind, n, both := strings.Cut(word, ":")
		if !both {
			kind, n = strconv.Itoa(strings.Index(" cnk+-*", word[:1])), "0"+word[1:]
		}
		k, bad := strconv.Atoi(kind)
		number, worse := strconv.ParseUint(n, 10, 64)
		if bad != nil || worse != nil {
			panic("no operation: " + word)
		}
		l = append(l, api.Op{Kind: k, N: number})
	}
	return l
}

// times is the operations of a text, n times over.
func times(n int, s string) []api.Op { return slices.Repeat(ops(s), n) }

// sum is n operations of a text, and what adds what they leave up: a value is left.
func sum(n int, s string) []api.Op { return slices.Concat(times(n, s), times(n-1, "+")) }

// product is likewise of their product; after each but the first, so that no stack is too great.
func product(n int, s string) []api.Op { return slices.Concat(ops(s), times(n-1, s+" *")) }

// edges are counts of columns at all ends.
func edges() []int {
	return []int{
		math.MinInt, math.MinInt + 1, math.MinInt32 - 1, math.MinInt32, -1 << 16, -257, -256, -255, -2, -1, 0, 1, 2, 3, 7, 8, 9, 127, 128, 254, 255, 256, 257, 258,
		1 << 16, math.MaxInt32, math.MaxInt32 + 1, math.MaxUint32, math.MaxUint32 + 1, 1 << 40, math.MaxInt - 1, math.MaxInt,
	}
}

// ordinary are n numbers over all 64 bits, always the same ones of one seed.
func ordinary(n int, seed uint64) []uint64 {
	x := 0x9e3779b97f4a7c15 ^ seed<<20
	out := make([]uint64, n)
	for i := range out {
		x ^= x << 13
		x ^= x >> 7
		x ^= x << 17
		out[i] = x
	}
	return out
}

// allowed is whether an operation may stand in a rule at all, by other means.
func allowed(o api.Op, cols int, next bool) bool {
	if o.Kind < 1 || o.Kind > 6 || o.N >= limits[o.Kind] {
		return false
	}
	if o.Kind > 2 {
		return true
	}
	return cols > 0 && o.N < uint64(cols) && (next || o.Kind == 1)
}

// answer is Check by other means: heights alone go from left to right, degrees from right to left, as of a tree.
func answer(l []api.Op, cols int, next bool) (int, api.Errno) {
	if len(l) > 256 {
		return 0, api.ErrLimit
	}
	height := 0
	for _, o := range l {
		if !allowed(o, cols, next) {
			return 0, api.ErrOp
		}
		before := height
		height++
		if o.Kind > 3 {
			height -= 2
		}
		if o.Kind > 3 && before < 2 || height > 16 {
			return 0, api.ErrStack
		}
	}
	if height != 1 {
		return 0, api.ErrStack
	}
	most := 0
	degree, _ := branch(l, &most)
	if most > 4 {
		return 0, api.ErrDegree
	}
	return degree, api.OK
}

// branch is the degree of what the last operation leaves, and what is ahead of all that it takes; most is at least each degree that there was.
func branch(l []api.Op, most *int) (int, []api.Op) {
	o, rest := l[len(l)-1], l[:len(l)-1]
	degree := 0
	switch {
	case o.Kind < 3:
		degree = 1
	case o.Kind > 3:
		var a, b int
		b, rest = branch(rest, most)
		a, rest = branch(rest, most)
		switch {
		case o.Kind == 6:
			degree = a + b
		case a < b:
			degree = b
		default:
			degree = a
		}
	}
	if degree > *most {
		*most = degree
	}
	return degree, rest
}

// checks holds what Check answers; beside an error the degree is 0.
func checks(t *testing.T, l []api.Op, cols int, next bool, degree int, no api.Errno) {
	t.Helper()
	got, e := shape.Check(l, cols, next)
	if got != degree || e != no {
		t.Errorf("Check of %d operations, %.400s, %d columns, %v: %d, %d, not %d, %d", len(l), text(l), cols, next, got, e, degree, no)
	}
}

// wrong holds that an error is told.
func wrong(t *testing.T, l []api.Op, cols int, next bool, no api.Errno) {
	t.Helper()
	checks(t, l, cols, next, 0, no)
}

// alike holds that Check answers as it is by the other means; by P16.2 no degree is but 0 to 4.
func alike(t *testing.T, l []api.Op, cols int, next bool) {
	t.Helper()
	degree, no := answer(l, cols, next)
	checks(t, l, cols, next, degree, no)
	if degree < 0 || degree > 4 {
		t.Errorf("degree %d of %.400s", degree, text(l))
	}
}

// text tells operations by kinds and Ns.
func text(l []api.Op) string {
	var out []string
	for _, o := range l {
		out = append(out, strconv.Itoa(o.Kind)+":"+strconv.FormatUint(o.N, 10))
	}
	return strings.Join(out, " ")
}

// P16.1, the chapter's example: column times the next row's.
func TestExample(t *testing.T) {
	for _, n := range []int{0, 1, 7} {
		l := []api.Op{{Kind: api.OpCur, N: uint64(n)}, {Kind: api.OpNext, N: uint64(n)}, {Kind: api.OpMul}}
		checks(t, l, n+1, true, 2, api.OK)
		checks(t, l, 8, true, 2, api.OK)
		wrong(t, l, n+1, false, api.ErrOp)
		wrong(t, l, n, true, api.ErrOp)
	}
}

// P16.1, P16.2: ordinary operations, well made, cut, with another one among them, or in another order, as another program checked them.
func TestWritten(t *testing.T) {
	for _, x := range []struct {
		text   string
		cols   int
		next   bool
		degree int
		no     api.Errno
	}{
		{"n3 c0 k1 c2 * k5 c4 + n5 c2 - - - + -", 6, true, 1, api.OK},
		{"c0 + n0 c1 c2 k18446744069414584320 k0 n1 + - + k5 k0 + - + + *", 3, true, 0, api.ErrStack},
		{"k1", 2, true, 0, api.OK},
		{"n1 n0 c3 - +", 4, false, 0, api.ErrOp},
		{"c0 c3 c6 c6 - n6 k18446744069414584320 c5 + 6:18446744069414584321 + n1 + - -", 8, true, 0, api.ErrOp},
		{"c1 k0 - c1 + n2 c4 c7 c0 c3 k0 + * + + * *", 8, true, 4, api.OK},
		{"c4 k1 n1 + c2 + + + c4 c0 k1 + - c3 - -", 5, true, 0, api.ErrStack},
		{"c0 c0 c0 - * c4 - c1 k0 k18446744069414584320 + k1 * - *", 6, true, 3, api.OK},
		{"c0", 1, true, 1, api.OK},
		{"n1 c1 * n1 k1 - k5 k5 k17577947295787167560 + c1 k1 c0 + + - + * +", 2, true, 2, api.OK},
		{"c0 n1 + * c0 k5 + +", 2, true, 0, api.ErrStack},
		{"k0 c0 -", 1, true, 1, api.OK},
		{"c1 c2 + c1 +", 5, true, 1, api.OK},
		{"k5 k5 7:0", 7, true, 0, api.ErrOp},
		{"c0 n0 k0 c0 k1 + n0 - + - -", 1, false, 0, api.ErrOp},
		{"k18446744069414584320", 7, true, 0, api.OK},
		{"c3", 3, true, 0, api.ErrOp},
		{"c0 k5 + c0 c0 c0 k18446744069414584320 k0 - c0 - - - * 0:0", 1, true, 0, api.ErrOp},
		{"k0 n3 * n1 c1 * c1 c0 k5 * + + + c0 c0 c1 * + +", 4, true, 2, api.OK},
		{"c2 k0 - n3 k12432070302032273548 k0 - - n2 + c0 n2 - n2 * - -", 5, true, 2, api.OK},
		{"k18446744069414584320 - k0 c0 - k18446744069414584320 * * k0", 1, false, 0, api.ErrStack},
		{"c0 k0 c6 + k0 c3 c4 + c2 + + * +", 7, true, 2, api.OK},
		{"- * c0 n0 k18446744069414584320 k18446744069414584320 - k0 + n0 - + c0 c0 *", 1, true, 0, api.ErrStack},
		{"k1 k0 + c3 c0 +", 6, true, 0, api.ErrStack},
		{"k5", 5, true, 0, api.OK},
		{"n0 c0 - c0 n1 k0 * c0 k1000123767826636088 * * + n1 c0 c0 + - + *", 2, true, 3, api.OK},
		{"k18446744069414584320", 3, true, 0, api.OK},
		{"c0 n0 c0 n0 - - * n0 + n0 k5 - * k0 + k9342432372201410083 *", 1, true, 3, api.OK},
		{"c0 k5 k18446744069414584320 n0 + c0 * + * c0 n0 c0 k0 + - - *", 1, true, 4, api.OK},
		{"k9417114376493410539 c3 n4 * n6 * +", 7, true, 3, api.OK},
		{"c2 k5 k5 k18446744069414584320 - n0 k5 c0 * * * k1 + + + n0 c4 * *", 6, true, 4, api.OK},
		{"c0 n0 n0 + * c0 k5 k1 - - * k12522831813825502984 + n0 k1 k18446744069414584320 - + *", 1, true, 4, api.OK},
		{"k18446744069414584320 n2 - n2 c2 * * c0 n0 c2 k1 n3 - + + * *", 5, true, 0, api.ErrDegree},
		{"c0 n1 * c1 c1 c1 * * * k5 n2 c1 - - -", 3, true, 0, api.ErrDegree},
		{"c2 c2 n0 * c2 * - k1 - c3 n2 c0 c5 + - * * c5 *", 6, true, 0, api.ErrDegree},
		{"c0 n0 n2 k5 c3 n1 + n2 * + * * *", 4, true, 0, api.ErrDegree},
		{"c2 c2 * c1 c1 - c3 * c1 c2 c1 n1 - k14710829385765356096 * + - * *", 4, true, 0, api.ErrDegree},
		{"c1 c2 c0 - n2 n2 * + n2 * c1 c2 n2 c0 * + + * *", 3, true, 0, api.ErrDegree},
	} {
		checks(t, ops(x.text), x.cols, x.next, x.degree, x.no)
	}
}

// P16.1: degrees that are written out.
func TestDegrees(t *testing.T) {
	for _, x := range []struct {
		text   string
		degree int
	}{
		{"k0", 0}, {"k1", 0}, {"k18446744069414584320", 0}, {"c0", 1}, {"n0", 1}, {"c7", 1}, {"n7", 1},
		{"k1 k2 +", 0}, {"k1 k2 -", 0}, {"k1 k2 *", 0},
		{"c0 k2 +", 1}, {"c0 k2 -", 1}, {"c0 k2 *", 1}, {"k2 c0 +", 1}, {"k2 c0 -", 1}, {"k2 c0 *", 1},
		{"n0 k2 +", 1}, {"n0 k2 -", 1}, {"n0 k2 *", 1}, {"k2 n0 +", 1}, {"k2 n0 -", 1}, {"k2 n0 *", 1},
		{"c0 c1 +", 1}, {"c0 c1 -", 1}, {"c0 c1 *", 2}, {"c0 n1 +", 1}, {"n0 c1 -", 1}, {"n0 n0 *", 2}, {"c3 c3 *", 2}, {"c3 c3 -", 1},
		{"c0 c0 * c1 +", 2}, {"c0 c0 * c1 -", 2}, {"c0 c0 * c1 *", 3}, {"c1 c0 c0 * +", 2}, {"c1 c0 c0 * -", 2}, {"c1 c0 c0 * *", 3},
		{"c0 c0 * n0 n0 * *", 4}, {"c0 c0 * n0 n0 * +", 2}, {"c0 c0 * n0 n0 * -", 2}, {"c0 c0 * c0 * n0 *", 4}, {"c0 c0 c0 n0 * * *", 4}, {"c0 c0 n0 * * c0 c0 * -", 3},
		{"k0 c0 c0 * c0 * c0 * *", 4}, {"c0 c0 * c0 * c0 * k0 *", 4}, {"k1 k2 k3 k4 * * *", 0}, {"k1 k2 * c1 * k3 k4 c0 * - *", 2},
		{"c0 c0 - c0 c0 - *", 2}, {"k0 c0 * k0 c0 * *", 2}, {"c0 c0 * c0 c0 * -", 2},
	} {
		checks(t, ops(x.text), 8, true, x.degree, api.OK)
	}
}

// P16.1: of no operations there is no one value, whatever there is else.
func TestNone(t *testing.T) {
	for _, cols := range edges() {
		for _, next := range []bool{false, true} {
			wrong(t, nil, cols, next, api.ErrStack)
			wrong(t, []api.Op{}, cols, next, api.ErrStack)
		}
	}
}

// P16.1: up to 256 operations are looked at; of more, each of them right or not, there are too many.
func TestMany(t *testing.T) {
	for _, x := range []struct {
		text   string
		degree int
	}{{"k5", 0}, {"c0", 1}, {"n1", 1}, {"k5 c1 *", 1}, {"c0 n0 *", 2}} {
		for _, n := range []int{1, 3, 64, 127, 128, 129, 200, 1000} {
			l := ops(x.text)
			for len(l) < 2*n-1 {
				l = append(l, ops("k7 +")...)
			}
			if len(l) > 256 {
				wrong(t, l, 2, true, api.ErrLimit)
				continue
			}
			checks(t, l, 2, true, x.degree, api.OK)
		}
	}
	most := product(128, "k1")
	checks(t, most, 0, false, 0, api.OK)
	for _, o := range ops("k1 c0 n0") {
		// As each operation puts one or leaves one less, 256 never leave one alone.
		wrong(t, append(slices.Clone(most), o), 1, true, api.ErrStack)
		wrong(t, append(slices.Clone(most), o, api.Op{Kind: api.OpAdd}), 1, true, api.ErrLimit)
	}
	wrong(t, append(slices.Clone(most), ops("+")...), 1, true, api.ErrStack)
	wrong(t, append(slices.Clone(most), ops("0:0")...), 1, true, api.ErrOp)
	wrong(t, append(slices.Clone(most), ops("n0")...), 1, false, api.ErrOp)
	wrong(t, append(slices.Clone(most), ops("c1")...), 1, true, api.ErrOp)
}

// P16.1: that there are too many is told ahead of all that is wrong else, and where all is right.
func TestTooMany(t *testing.T) {
	for _, n := range []int{257, 258, 259, 512, 513, 1000, 1 << 16, 1<<16 + 1, 1 << 20} {
		for _, s := range []string{"k1", "c0", "n0", "c1", "n1", "+", "-", "*", "0:0", "7:0", "4:1", "3:18446744069414584321", "1:256", "-1:0"} {
			for _, next := range []bool{false, true} {
				wrong(t, times(n, s), 1, next, api.ErrLimit)
				wrong(t, times(n, s), 0, next, api.ErrLimit)
			}
		}
	}
	for _, first := range ops("0:0 7:0 -1:5 4:1 5:1 6:1 1:256 2:256 3:18446744069414584321 n0 c1 n1 + - *") {
		l := append([]api.Op{first}, product(128, "k1")...)
		want := api.ErrOp
		if first.Kind > 3 && first.Kind < 7 && first.N == 0 {
			want = api.ErrStack
		}
		wrong(t, l, 1, false, want)
		wrong(t, append(l, ops("k1")...), 1, false, api.ErrLimit)
		wrong(t, append(l, ops("k1 *")...), 1, false, api.ErrLimit)
	}
	wrong(t, product(129, "k1"), 1, true, api.ErrLimit)
	wrong(t, product(129, "c0"), 1, true, api.ErrLimit)
	wrong(t, product(128, "c0"), 1, true, api.ErrDegree)
}

// notWritten are operations that layer 15 says may not be written.
func notWritten() []api.Op {
	var out []api.Op
	for _, kind := range []int{0, 7, 8, 9, 127, 128, 255, 256, -1, -2, -3, -4, -5, -6, -250, -255, math.MaxInt32, math.MinInt32, math.MaxInt, math.MinInt} {
		for _, n := range []uint64{0, 1, 255, 256, api.P - 1, top} {
			out = append(out, api.Op{Kind: kind, N: n})
		}
	}
	for kind := 1; kind <= 6; kind++ {
		for _, other := range []int{kind + 256, kind - 256, kind + 1<<16, kind + 1<<32, kind - 1<<32, kind + 1<<62, kind + math.MinInt, kind << 8} {
			out = append(out, api.Op{Kind: other}, api.Op{Kind: other, N: 1})
		}
		for _, n := range []uint64{limits[kind], limits[kind] + 1, 1 << 8, 1 << 16, 1 << 31, 1 << 32, 1 << 40, 1<<63 - 1, 1 << 63, top - 1, top} {
			if n >= limits[kind] {
				out = append(out, api.Op{Kind: kind, N: n})
			}
		}
	}
	return out
}

// P16.1: each operation that may not be written is told, wherever it stands, and however many columns there are.
func TestNotWritten(t *testing.T) {
	for _, o := range notWritten() {
		for _, cols := range edges() {
			wrong(t, []api.Op{o}, cols, true, api.ErrOp)
			wrong(t, []api.Op{o}, cols, false, api.ErrOp)
		}
		for _, head := range []string{"k1", "c0", "k1 k2", "c0 c0 * n0", "k1 k1 k1 k1 k1 k1 k1 k1 k1 k1 k1 k1 k1 k1 k1 k1", "c0 c0 * c0 * c0 * c0 *"} {
			for _, tail := range []string{"", "+", "*", "k1", "+ +", "0:0", "k1 k1"} {
				wrong(t, slices.Concat(ops(head), []api.Op{o}, ops(tail)), 256, true, api.ErrOp)
			}
		}
	}
}

// P16.1: an operation that asks for the next row is told where there is none, and taken where there is one; of all others it is the same.
func TestNext(t *testing.T) {
	for n := range uint64(256) {
		l := []api.Op{{Kind: api.OpNext, N: n}}
		checks(t, l, 256, true, 1, api.OK)
		wrong(t, l, 256, false, api.ErrOp)
	}
	for _, s := range []string{"n0", "n0 n0 *", "c0 n0 -", "n0 c0 +", "c0 c0 * c0 * n0 *", "k1 n0 *", "c0 k1 + k2 n0 - *", "n0 k1 k1"} {
		wrong(t, ops(s), 1, false, api.ErrOp)
		same := ops(strings.ReplaceAll(s, "n", "c"))
		degree, no := answer(same, 1, true)
		checks(t, ops(s), 1, true, degree, no)
		checks(t, same, 1, true, degree, no)
		checks(t, same, 1, false, degree, no)
	}
}

// P16.1: a column is taken just where it is below cols, of both rows.
func TestColumns(t *testing.T) {
	for n := range 256 {
		for _, kind := range []int{api.OpCur, api.OpNext} {
			l := []api.Op{{Kind: kind, N: uint64(n)}}
			for _, cols := range append(edges(), n-1, n, n+1, n+2, n-256, n+256) {
				if cols > n {
					checks(t, l, cols, true, 1, api.OK)
				} else {
					wrong(t, l, cols, true, api.ErrOp)
				}
			}
		}
	}
	for _, cols := range edges() {
		for _, l := range [][]api.Op{ops("k0"), ops("k7 k8 -"), sum(16, "k3"), product(100, "k4")} {
			checks(t, l, cols, false, 0, api.OK)
			checks(t, l, cols, true, 0, api.OK)
		}
		for _, s := range []string{"c256", "n256", "k1 c256 *", "c18446744073709551615", "n9223372036854775808"} {
			wrong(t, ops(s), cols, true, api.ErrOp)
		}
	}
	for _, s := range []string{"c0 c1 c2 + -", "c2 c1 c0 + -", "c1 c2 n0 + -", "k1 k2 n2 + -"} {
		checks(t, ops(s), 3, true, 1, api.OK)
		wrong(t, ops(s), 2, true, api.ErrOp)
		wrong(t, ops(s), 0, true, api.ErrOp)
		wrong(t, ops(s), -3, true, api.ErrOp)
	}
}

// P16.1: what takes two is told on none and on one, and leaves one of two; of three it leaves two, which is one too many in the end.
func TestTwo(t *testing.T) {
	for _, two := range []string{"+", "-", "*"} {
		for _, one := range []string{"k5", "c0", "n1"} {
			wrong(t, ops(two), 2, true, api.ErrStack)
			wrong(t, ops(one+" "+two), 2, true, api.ErrStack)
			for _, other := range []string{"k7", "c1", "n0"} {
				l := ops(one + " " + other + " " + two)
				degree, _ := answer(l, 2, true)
				checks(t, l, 2, true, degree, api.OK)
				wrong(t, append(l, ops(two)...), 2, true, api.ErrStack)
				wrong(t, append(ops(one), l...), 2, true, api.ErrStack)
				checks(t, append(append(ops("k3"), l...), ops("-")...), 2, true, degree, api.OK)
				// Values that come too late don't count, though there are enough in the end.
				wrong(t, ops(two+" "+one+" "+other), 2, true, api.ErrStack)
				wrong(t, ops(one+" "+two+" "+other), 2, true, api.ErrStack)
				wrong(t, ops(one+" "+other+" "+two+" "+two+" "+one), 2, true, api.ErrStack)
			}
		}
	}
}

// P16.1: a stack of 16 may be, one of 17 may not, even where it is taken down to one again.
func TestDepth(t *testing.T) {
	for _, s := range []string{"k5", "c0", "n1"} {
		degree, _ := answer(ops(s), 2, true)
		for n := 1; n <= 40; n++ {
			l := sum(n, s)
			if n > 16 {
				wrong(t, l, 2, true, api.ErrStack)
				continue
			}
			checks(t, l, 2, true, degree, api.OK)
			if n > 1 {
				wrong(t, l[:len(l)-1], 2, true, api.ErrStack)
				wrong(t, l[:n], 2, true, api.ErrStack)
			}
		}
		full := times(16, s)
		checks(t, slices.Concat(full, times(15, "-")), 2, true, degree, api.OK)
		// From 16 down and up again, as often as there is room for.
		checks(t, slices.Concat(full, times(100, "- "+s), times(15, "+")), 2, true, degree, api.OK)
		wrong(t, slices.Concat(full, times(100, "- "+s), ops(s), times(16, "+")), 2, true, api.ErrStack)
		wrong(t, slices.Concat(full, ops("- - "+s+" "+s+" "+s), times(16, "+")), 2, true, api.ErrStack)
	}
	checks(t, sum(16, "k1"), 0, false, 0, api.OK)
	wrong(t, sum(17, "k1"), 0, false, api.ErrStack)
}

// P16.1: in the end there is one value, no more.
func TestEnd(t *testing.T) {
	for _, s := range []string{"k1", "c0", "n0", "k1 c0 *", "c0 n0 *", "c0 c0 * c0 * c0 *"} {
		degree, _ := answer(ops(s), 1, true)
		checks(t, ops(s), 1, true, degree, api.OK)
		for n := 2; n <= 15; n++ {
			wrong(t, times(n, s), 1, true, api.ErrStack)
			wrong(t, append(times(n, s), ops("k1 -")...), 1, true, api.ErrStack)
			wrong(t, append(times(n, s), times(n, "+")...), 1, true, api.ErrStack)
			checks(t, append(times(n, s), times(n-1, "+")...), 1, true, degree, api.OK)
		}
	}
}

// P16.1, P16.2: degrees up to 4 are told, those above are too great, however they came about.
func TestDegreeLimit(t *testing.T) {
	for _, s := range []string{"c0", "n0", "c7"} {
		for n := 1; n <= 100; n++ {
			l := product(n, s)
			if n <= 4 {
				checks(t, l, 8, true, n, api.OK)
				checks(t, append(l, ops("k1 *")...), 8, true, n, api.OK)
				checks(t, append(l, ops("k1 +")...), 8, true, n, api.OK)
				checks(t, append(ops("c1"), append(l, ops("-")...)...), 8, true, n, api.OK)
				continue
			}
			wrong(t, l, 8, true, api.ErrDegree)
		}
	}
	// Of a and b of these degrees, both ways, what adds and what multiplies.
	for a := range 7 {
		for b := range 7 {
			l := append(powers(a), powers(b)...)
			want := map[string]int{"+": max(a, b), "-": max(a, b), "*": a + b}
			for two, degree := range want {
				if degree > 4 {
					wrong(t, append(slices.Clone(l), ops(two)...), 1, false, api.ErrDegree)
				} else {
					checks(t, append(slices.Clone(l), ops(two)...), 1, false, degree, api.OK)
				}
			}
		}
	}
}

// powers is a column times itself, so that the degree is n.
func powers(n int) []api.Op {
	if n == 0 {
		return ops("k1")
	}
	return product(n, "c0")
}

// P16.1: a degree above 4 is told whatever comes behind; but what is wrong behind it, or with the stack in the end, comes ahead of it.
func TestGreatDegree(t *testing.T) {
	for _, n := range []int{5, 6, 7, 8, 9, 16, 60} {
		for _, tail := range []string{"", "k0 *", "k0 +", "c0 +", "c0 -", "c0 *", "k1 k2 + *", "c0 c0 * -", "c0 c0 * c0 * c0 * +"} {
			l := append(powers(n), ops(tail)...)
			wrong(t, l, 1, true, api.ErrDegree)
			wrong(t, slices.Concat(ops("k1"), l, ops("*")), 1, true, api.ErrDegree)
			wrong(t, slices.Concat(ops("c0"), l, ops("-")), 1, true, api.ErrDegree)
			wrong(t, slices.Concat(l, powers(n), ops("-")), 1, true, api.ErrDegree)
			wrong(t, slices.Concat(ops("k1 k1"), l, ops("- +")), 1, true, api.ErrDegree)
			wrong(t, slices.Concat(l, ops("k1")), 1, true, api.ErrStack)
			wrong(t, slices.Concat(ops("c0"), l), 1, true, api.ErrStack)
			wrong(t, slices.Concat(l, ops("+")), 1, true, api.ErrStack)
			wrong(t, slices.Concat(l, ops("k1 + -")), 1, true, api.ErrStack)
			wrong(t, slices.Concat(l, times(16, "k1")), 1, true, api.ErrStack)
			wrong(t, slices.Concat(l, ops("c1")), 1, true, api.ErrOp)
			wrong(t, slices.Concat(l, ops("k1 + 7:0")), 1, true, api.ErrOp)
			wrong(t, slices.Concat(l, ops("n0 +")), 1, false, api.ErrOp)
		}
	}
}

// P16.1: which error comes first, of two.
func TestFirst(t *testing.T) {
	for _, x := range []struct {
		text string
		no   api.Errno
	}{
		{"+ 7:0", api.ErrStack}, {"7:0 +", api.ErrOp}, {"k1 + n0", api.ErrStack}, {"n0 +", api.ErrOp}, {"k1 * c1", api.ErrStack}, {"c1 * k1", api.ErrOp},
		{"4:1", api.ErrOp}, {"5:1", api.ErrOp}, {"6:1", api.ErrOp}, {"k1 6:1", api.ErrOp}, {"k1 5:18446744073709551615", api.ErrOp},
		{"k1 k1 + + 4:1", api.ErrStack}, {"k1 k1 4:1 + +", api.ErrOp}, {"k1 k1", api.ErrStack}, {"k1 k1 0:0", api.ErrOp}, {"k1 k1 c1", api.ErrOp}, {"k1 k1 n0", api.ErrOp},
		{"1:256 +", api.ErrOp}, {"+ 1:256", api.ErrStack}, {"3:18446744069414584321 -", api.ErrOp}, {"- 3:18446744069414584321", api.ErrStack},
	} {
		wrong(t, ops(x.text), 1, false, x.no)
	}
	full := times(16, "k1")
	for _, x := range []struct {
		text string
		no   api.Errno
	}{
		{"7:0", api.ErrOp}, {"c1", api.ErrOp}, {"n0", api.ErrOp}, {"1:256", api.ErrOp}, {"3:18446744069414584321", api.ErrOp}, {"4:1", api.ErrOp},
		{"k1 7:0", api.ErrStack}, {"c0 c1", api.ErrStack}, {"k1 n0", api.ErrStack}, {"k1 + c1", api.ErrStack}, {"+ c1", api.ErrOp}, {"+ k1 n0", api.ErrOp}, {"+ k1 k1 n0", api.ErrStack},
	} {
		wrong(t, slices.Concat(full, ops(x.text)), 1, false, x.no)
		wrong(t, slices.Concat(full, ops(x.text), times(15, "+")), 1, false, x.no)
	}
}

// P1, P16.1, P16.2: all of up to six operations of a few, of rows of one column and of none, with and without the next one.
func TestAll(t *testing.T) {
	walk := func(letters []api.Op, most int, each func([]api.Op)) {
		var more func(l []api.Op)
		more = func(l []api.Op) {
			each(l)
			for i := 0; i < len(letters) && len(l) < most; i++ {
				more(append(l, letters[i]))
			}
		}
		more(make([]api.Op, 0, most))
	}
	walk(ops("c0 n0 k1 + - * c1 7:0"), 6, func(l []api.Op) {
		alike(t, l, 1, true)
		alike(t, l, 1, false)
		alike(t, l, 2, false)
		alike(t, l, 0, true)
	})
	walk(ops("c0 k1 + *"), 9, func(l []api.Op) { alike(t, l, 1, false) })
	walk(ops("c0 *"), 17, func(l []api.Op) { alike(t, l, 1, false) })
}

// rule is operations that leave one value, of so many columns and constants, always the same ones of one seed.
func rule(leaves int, seed uint64) []api.Op {
	var l []api.Op
	height, put := 0, 0
	for i := uint64(0); put < leaves || height > 1; i++ {
		x := ordinary(2, seed*1000+i)[1]
		if put < leaves && height < 16 && (height < 2 || x%16 < 9) {
			kind := 1 + int(x>>8%16)/7
			l = append(l, api.Op{Kind: kind, N: x >> 16 % min(limits[kind], 3)})
			height++
			put++
			continue
		}
		l = append(l, api.Op{Kind: []int{4, 5, 4, 5, 6}[x>>8%5]})
		height--
	}
	return l
}

// P1, P16.1, P16.2: rules of all lengths, and with one operation less, more, or another; each degree and each error is among the answers.
func TestAny(t *testing.T) {
	odd := append(notWritten(), ops("c0 c1 c2 c3 n0 n1 n2 n3 k0 k7 + - * c255 n255")...)
	seen := map[[2]int]int{}
	for seed := range uint64(6000) {
		x := ordinary(5, seed+7)
		l := rule(1+int(x[0]%12), seed)
		if seed%8 == 0 {
			l = rule(1+int(x[0]%140), seed)
		}
		cols, next := 2+int(x[1]%3), x[1]>>8%8 > 0
		i := int(x[2] % uint64(len(l)))
		o := odd[x[3]%uint64(len(odd))]
		with := slices.Clone(l)
		with[i] = o
		for _, one := range [][]api.Op{l, with, slices.Insert(slices.Clone(l), i, o), slices.Delete(slices.Clone(l), i, i+1)} {
			alike(t, one, cols, next)
			for _, other := range edges()[seed%8*4:][:4] {
				alike(t, one, other, next)
			}
			degree, no := shape.Check(one, cols, next)
			seen[[2]int{degree, int(no)}]++
		}
	}
	for _, x := range [][2]int{{0, 0}, {1, 0}, {2, 0}, {3, 0}, {4, 0}, {0, int(api.ErrLimit)}, {0, int(api.ErrOp)}, {0, int(api.ErrStack)}, {0, int(api.ErrDegree)}} {
		if seen[x] < 20 {
			t.Errorf("%d, %d is among the answers %d times alone", x[0], x[1], seen[x])
		}
	}
	if len(seen) != 9 {
		t.Errorf("%d answers", len(seen))
	}
}

// Rules 3 and 4: what is handed in is as it was, its spare room too, and an answer hangs on its arguments alone.
func TestKept(t *testing.T) {
	all := slices.Concat(ops("c0 n1 * k5 - c2 *"), sum(16, "k3"), powers(9), ops("7:0 -1:5 4:1"))
	before := slices.Clone(all)
	for n := range len(all) + 1 {
		for range 2 {
			alike(t, all[:n], 3, true)
			alike(t, all[n:], 3, true)
			alike(t, all[:n:n], 2, false)
		}
		if !slices.Equal(all, before) {
			t.Fatal("what was handed in has changed")
		}
	}
	l := ops("c0 n1 *")
	checks(t, l, 2, true, 2, api.OK)
	l[2] = api.Op{Kind: api.OpAdd}
	checks(t, l, 2, true, 1, api.OK)
	wrong(t, l, 1, true, api.ErrOp)
	wrong(t, l, 2, false, api.ErrOp)
	checks(t, l, 2, true, 1, api.OK)
}

// Rule 6: many may call at once, of the same operations too.
func TestAtOnce(t *testing.T) {
	var wait sync.WaitGroup
	shared := rule(120, 3)
	for k := range uint64(8) {
		wait.Go(func() {
			for i := range uint64(50) {
				alike(t, shared, 3, true)
				alike(t, rule(int(5+i), k*100+i), 3, i%2 == 0)
				checks(t, sum(16, "k3"), 0, false, 0, api.OK)
				wrong(t, powers(5), 1, false, api.ErrDegree)
			}
		})
	}
	wait.Wait()
}
