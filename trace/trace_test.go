package trace_test

import (
	"encoding/binary"
	"fmt"
	"math"
	"math/big"
	"slices"
	"strconv"
	"strings"
	"sync"
	"testing"

	"assayer/air"
	"assayer/api"
	"assayer/trace"
)

const top = math.MaxUint64

// number is the one that a word tells.
func number(s string) uint64 {
	n, bad := strconv.ParseUint(s, 10, 64)
	if bad != nil {
		panic("no number: " + s)
	}
	return n
}

// bytesOf is the bytes of a text's operations, by another means than layer 15: c, n or k and a number (a column, the next row's, a constant), +, - and *.
func bytesOf(s string) string {
	var out []byte
	for _, word := range strings.Fields(s) {
		kind := strings.Index(" cnk+-*", word[:1])
		all := binary.LittleEndian.AppendUint64([]byte{byte(kind)}, number("0"+word[1:]))
		out = append(out, all[:[]int{0, 2, 2, 9, 1, 1, 1}[kind]]...)
	}
	return string(out)
}

// parts are what stands between the marks of a text; none of an empty one.
func parts(s, mark string) []string {
	if strings.TrimSpace(s) == "" {
		return nil
	}
	return strings.Split(s, mark)
}

// made is the one that a text tells: Cols and Log, then Steps, Rules and Bounds, with | between them, and ; between two of a kind.
func made(s string) api.Air {
	fields := strings.Split(s+"|||", "|")
	words := strings.Fields(fields[0])
	a := api.Air{Cols: int(number(words[0])), Log: int(number(words[1]))}
	for _, x := range parts(fields[1], ";") {
		a.Steps = append(a.Steps, bytesOf(x))
	}
	for _, x := range parts(fields[2], ";") {
		a.Rules = append(a.Rules, bytesOf(x))
	}
	for _, x := range parts(fields[3], ";") {
		words := strings.Fields(x)
		a.Bounds = append(a.Bounds, api.Bound{Col: int(number(words[0])), Row: int(number(words[1]))})
	}
	return a
}

// numbers are those of a text.
func numbers(s string) []uint64 {
	var l []uint64
	for _, word := range strings.Fields(s) {
		l = append(l, number(word))
	}
	return l
}

// lines are the rows of a text, with / between two.
func lines(s string) [][]uint64 {
	var l [][]uint64
	for _, x := range parts(s, "/") {
		l = append(l, numbers(x))
	}
	return l
}

// copied shares nothing with the rows.
func copied(rows [][]uint64) [][]uint64 {
	l := make([][]uint64, len(rows))
	for i, row := range rows {
		l[i] = slices.Clone(row)
	}
	return l
}

// with is the rows with another number at one place, and shares nothing with them.
func with(rows [][]uint64, row, col int, n uint64) [][]uint64 {
	l := copied(rows)
	l[row][col] = n
	return l
}

// more is one more than a number as it is kept, as it is kept.
func more(n uint64) uint64 { return (n + 1) % api.P }

// same is whether rows are the same.
func same(a, b [][]uint64) bool {
	return slices.EqualFunc(a, b, slices.Equal[[]uint64])
}

// modulo is the field's size as a number of no bound.
var modulo = new(big.Int).SetUint64(api.P)

// worth is what operations leave, by other means: as of a tree, from right to left, with numbers of no bound; and what is ahead of all that the last operation takes.
func worth(l []api.Op, cur, next []uint64) (*big.Int, []api.Op) {
	o, rest := l[len(l)-1], l[:len(l)-1]
	switch o.Kind {
	case api.OpCur:
		return new(big.Int).SetUint64(cur[o.N]), rest
	case api.OpNext:
		return new(big.Int).SetUint64(next[o.N]), rest
	case api.OpConst:
		return new(big.Int).SetUint64(o.N), rest
	}
	right, rest := worth(rest, cur, next)
	left, rest := worth(rest, cur, next)
	switch o.Kind {
	case api.OpAdd:
		left.Add(left, right)
	case api.OpSub:
		left.Sub(left, right)
	default:
		left.Mul(left, right)
	}
	return left.Mod(left, modulo), rest
}

// makeOf is the rows that the steps make, by other means, out of layer 18's rules: of next, a step's operations and less, all but the first and the last.
func makeOf(a api.Air, first []uint64) ([][]uint64, api.Errno) {
	if air.Check(a) != api.OK || len(a.Steps) == 0 || !wide(first, a.Cols) {
		return nil, api.ErrArg
	}
	rules, _ := air.Rules(a)
	rows := [][]uint64{slices.Clone(first)}
	for i := range air.Size(a) - 1 {
		var next []uint64
		for _, l := range rules[:a.Cols] {
			n, _ := worth(l[1:len(l)-1], rows[i], nil)
			next = append(next, n.Uint64())
		}
		rows = append(rows, next)
	}
	return rows, api.OK
}

// wide is whether there are n numbers as they are kept, by other means.
func wide(l []uint64, n int) bool {
	for _, x := range l {
		if x > api.P-1 {
			n = -1
		}
	}
	return len(l) == n
}

// wholeOf is whether rows and public values are as they must be, by other means.
func wholeOf(a api.Air, public []uint64, rows [][]uint64) bool {
	narrow := slices.ContainsFunc(rows, func(row []uint64) bool { return !wide(row, a.Cols) })
	return air.Check(a) == api.OK && wide(public, len(a.Bounds)) && len(rows) == air.Size(a) && !narrow
}

// checkOf is where rows break a rule first, by other means: of all that is broken anywhere the first one.
func checkOf(a api.Air, public []uint64, rows [][]uint64) (api.Fail, api.Errno) {
	if !wholeOf(a, public, rows) {
		return api.Fail{}, api.ErrArg
	}
	all, _ := air.Rules(a)
	var fails []api.Fail
	for j, b := range a.Bounds {
		if rows[b.Row][b.Col] != public[j] {
			fails = append(fails, api.Fail{Row: b.Row, Rule: len(all) + j})
		}
	}
	for j, l := range all {
		for i := range len(rows) - 1 {
			if n, _ := worth(l, rows[i], rows[i+1]); n.Sign() != 0 {
				fails = append(fails, api.Fail{Row: i, Rule: j})
			}
		}
	}
	if len(fails) == 0 {
		return api.Fail{}, api.OK
	}
	return slices.MinFunc(fails, func(x, y api.Fail) int {
		if x.Row != y.Row {
			return x.Row - y.Row
		}
		return x.Rule - y.Rule
	}), api.ErrTrace
}

// brief tells anything, in no more than 300 bytes.
func brief(x any) string {
	s := fmt.Sprint(x)
	return s[:min(len(s), 300)]
}

// makes holds what Make answers; beside an error there are no rows.
func makes(t *testing.T, a api.Air, first []uint64, want [][]uint64, no api.Errno) {
	t.Helper()
	got, e := trace.Make(a, first)
	if e != no || !same(got, want) || e != api.OK && len(got) > 0 {
		t.Errorf("Make of %.300x, %d: %s, %d, not %s, %d", air.Print(a), first, brief(got), e, brief(want), no)
	}
}

// keeps holds that rows and public values are whole, and break this rule first, or none.
func keeps(t *testing.T, a api.Air, public []uint64, rows [][]uint64, want api.Fail, no api.Errno) {
	t.Helper()
	if !trace.Whole(a, public, rows) {
		t.Errorf("Whole of %.300x, %d, %s", air.Print(a), public, brief(rows))
	}
	checks(t, a, public, rows, want, no)
}

// checks holds what Check answers.
func checks(t *testing.T, a api.Air, public []uint64, rows [][]uint64, want api.Fail, no api.Errno) {
	t.Helper()
	if got, e := trace.Check(a, public, rows); got != want || e != no {
		t.Errorf("Check of %.300x, %d, %s: %v, %d, not %v, %d", air.Print(a), public, brief(rows), got, e, want, no)
	}
}

// unwhole holds that rows and public values aren't whole.
func unwhole(t *testing.T, a api.Air, public []uint64, rows [][]uint64) {
	t.Helper()
	if trace.Whole(a, public, rows) {
		t.Errorf("Whole of %.300x, %d, %s", air.Print(a), public, brief(rows))
	}
	checks(t, a, public, rows, api.Fail{}, api.ErrArg)
}

// publics holds what Public answers.
func publics(t *testing.T, a api.Air, rows [][]uint64, want []uint64) {
	t.Helper()
	if got := trace.Public(a, rows); !slices.Equal(got, want) {
		t.Errorf("Public of %.300x, %s: %d, not %d", air.Print(a), brief(rows), got, want)
	}
}

// alike holds that all that is told is as it is by the other means.
func alike(t *testing.T, a api.Air, public []uint64, rows [][]uint64) {
	t.Helper()
	if got := trace.Whole(a, public, rows); got != wholeOf(a, public, rows) {
		t.Errorf("Whole of %.300x, %d, %s: %t", air.Print(a), public, brief(rows), got)
	}
	want, no := checkOf(a, public, rows)
	checks(t, a, public, rows, want, no)
	var first []uint64
	if len(rows) > 0 {
		first = rows[0]
	}
	all, no := makeOf(a, first)
	makes(t, a, first, all, no)
}

// kept holds that rows which Make tells are whole, with their own public values, and break nothing where there are no other rules.
func kept(t *testing.T, a api.Air, first []uint64) [][]uint64 {
	t.Helper()
	a.Rules = nil
	rows, no := trace.Make(a, first)
	if no != api.OK || len(rows) != air.Size(a) || !slices.Equal(rows[0], first) {
		t.Errorf("Make of %.300x, %d: %d rows, %d", air.Print(a), first, len(rows), no)
		return nil
	}
	keeps(t, a, trace.Public(a, rows), rows, api.Fail{}, api.OK)
	return rows
}

// ordinary are n numbers over all 64 bits, always the same ones of one seed.
func ordinary(n int, seed uint64) []uint64 {
	x := 0x9e3779b97f4a7c15 ^ seed<<20
	out := make([]uint64, n)
	for i := range out {
		x ^= x << 13
		x ^= x >> 7
		x ^= x << 17
		out[i] = x
	}
	return out
}

// row is n numbers as they are kept, always the same ones of one seed.
func row(n int, seed uint64) []uint64 {
	l := ordinary(n+5, seed)[5:]
	for i := range l {
		l[i] %= api.P
	}
	return l
}

// unkept are numbers that aren't as they are kept.
func unkept() []uint64 { return []uint64{api.P, api.P + 1, api.P + 7, top - 1, top} }

// some is one that may be, with steps, another rule that rows made by them keep, and Bounds: rows of two numbers, each the sum of the two ahead.
func some(log int) api.Air {
	a := made("2 2 | c1 ; c0 c1 + | n1 n0 - c0 -")
	a.Log = log
	a.Bounds = []api.Bound{{Col: 0, Row: 0}, {Col: 1, Row: 1<<log - 1}}
	return a
}

// P19.1, P19.2, the chapter's example: 1, 1; 1, 2; 2, 3; 3, 5.
func TestExample(t *testing.T) {
	a := made("2 2 | c1 ; c0 c1 + | | 0 0 ; 1 3")
	rows := [][]uint64{{1, 1}, {1, 2}, {2, 3}, {3, 5}}
	makes(t, a, []uint64{1, 1}, rows, api.OK)
	publics(t, a, rows, []uint64{1, 5})
	keeps(t, a, []uint64{1, 5}, rows, api.Fail{}, api.OK)
	keeps(t, a, []uint64{1, 6}, rows, api.Fail{Row: 3, Rule: 3}, api.ErrTrace)
	keeps(t, a, []uint64{0, 5}, rows, api.Fail{Row: 0, Rule: 2}, api.ErrTrace)
	keeps(t, a, []uint64{1, 5}, with(rows, 2, 1, 4), api.Fail{Row: 1, Rule: 1}, api.ErrTrace)
	unwhole(t, a, nil, rows)
	unwhole(t, a, []uint64{1, 5}, rows[:3])
	makes(t, a, []uint64{api.P, 0}, nil, api.ErrArg)
	makes(t, api.Air{Cols: 1}, []uint64{1}, nil, api.ErrArg)
}

// P19.1, P19.2: rows that are made, and rows of which one or two are others, as another program told them.
func TestWritten(t *testing.T) {
	for _, x := range []struct {
		text, made, public, rows string
		fail                     api.Fail
		no                       api.Errno
	}{
		{"4 0 | c3 ; c2 k7 + ; k1 k0 - ; k0 c3 - |  | 3 0", "2 5 1 2", "1", "2 5 1 4294967298", api.Fail{Row: 0, Rule: 4}, api.ErrTrace},
		{"2 1 | k0 c1 k13009214316216421874 + - ; c0 c1 - | c0 n1 - c0 n1 - - ; n0 c1 + n0 c1 + - | ", "5 9223372036854775808 / 14660901785757970960 9223372032559808518", "", "4 9223372041149743104 / 14660901785757970960 9223372032559808518", api.Fail{Row: 0, Rule: 0}, api.ErrTrace},
		{"2 3 |  |  | 1 0 ; 0 1", "", "3635538388677623345 4294967296", "5 3635538388677623345 / 4294967296 4818274270938459630 / 18446744069414584320 18446744069414584320 / 9310275304089948094 5 / 1 18446744069414584320 / 4294967296 4294967296 / 11730774567436158741 4294967296 / 5847618675648686685 18446744069414584320", api.Fail{}, api.OK},
		{"1 1 | k18446744069414584320 k1 c0 + + | n0 k18446744069414584320 k1 c0 + + - ; n0 k18446744069414584320 k1 c0 + + - | 0 0", "4607873230567295356 / 4607873230567295356", "4607873230567295356", "4607873230567295356 / 4607873230567295356", api.Fail{}, api.OK},
		{"4 1 | c3 ; c2 c0 c0 + - ; c0 c0 + ; k4294967296 c1 * c1 - |  | 2 0 ; 1 1 ; 3 0", "5149583415095559417 0 1 3020903947385541334 / 3020903947385541334 8147577239223465488 10299166830191118834 0", "1 8147577239223465488 3020903947385541334", "5149583415095559417 0 1 3020903947385541334 / 3020903947385541334 8147577239223465488 10299166830191118834 0", api.Fail{}, api.OK},
		{"1 2 |  | c0 c0 * c0 c0 * - ; k1 k4294967296 - k1 k4294967296 - - | 0 0 ; 0 3 ; 0 2", "", "5 1 4294967297", "5 / 1301896859524479937 / 1 / 1", api.Fail{Row: 2, Rule: 4}, api.ErrTrace},
		{"8 1 | c7 ; k18446744069414584320 c5 + c2 + ; k7 ; c1 c0 - c4 - ; c2 c2 * c3 * ; k6446035054883323773 ; c6 ; c0 c0 - | n5 k6446035054883323773 - | ", "6154713725265682277 18446744069414584320 6061979848018753973 9223372036854775808 5 2 2 18446744069414584320 / 18446744069414584320 6061979848018753974 7 12292030344148902038 13713213043939615436 6446035054883323773 2 0", "", "6154713725265682277 18446744069414584320 6061979848018753973 9223372036854775808 5 2 2 18446744069414584320 / 18446744069414584320 6061979848018753974 7 12292030344148902038 13713213043939615436 6446035054883323773 1 0", api.Fail{Row: 0, Rule: 6}, api.ErrTrace},
		{"2 0 |  | c0 c0 - c0 c0 - - ; n0 c0 - n0 c0 - - | ", "", "", "9223372041149743104 4294967296", api.Fail{}, api.OK},
		{"1 2 |  | c0 c0 - c0 c0 - - ; n0 c0 * n0 c0 * - | 0 0", "", "4294967296", "4294967296 / 18446744069414584320 / 4294967297 / 1", api.Fail{}, api.OK},
		{"2 1 |  | n1 c1 + n1 c1 + - | 0 0 ; 1 1", "", "2 1", "2 9223372036854775808 / 9223372036854775808 4294967297", api.Fail{Row: 1, Rule: 2}, api.ErrTrace},
		{"8 0 | c6 ; k0 c5 - c2 + ; c6 ; c7 k4294967296 + c1 + ; c5 c5 * ; c7 c7 + ; c7 c6 - ; k1 c5 * | n3 c7 k4294967296 + c1 + - | 1 0", "1 0 0 12589918033814081934 1 0 4294967296 18446744069414584320", "0", "1 0 0 12589918033814081934 1 0 4294967296 18446744069414584320", api.Fail{}, api.OK},
		{"3 0 | k0 c0 * ; c2 c1 - k1 * ; c1 |  | 0 0", "6869206736932029782 1 9223372036854775808", "6869206736932029783", "6869206736932029782 0 9223372036854775808", api.Fail{Row: 0, Rule: 3}, api.ErrTrace},
		{"2 2 | c0 c0 c1 * * ; c1 |  | 0 3 ; 1 1", "4294967296 18446744069414584320 / 18446744065119617026 18446744069414584320 / 4294967296 18446744069414584320 / 18446744065119617026 18446744069414584320", "18446744065119617026 4294967295", "4294967296 18446744069414584320 / 18446744065119617025 18446744069414584320 / 4294967296 18446744069414584320 / 18446744065119617026 18446744069414584320", api.Fail{Row: 0, Rule: 0}, api.ErrTrace},
		{"1 1 | c0 c0 - c0 * | n0 c0 c0 - c0 * - | 0 1 ; 0 0", "6938553410284012363 / 0", "0 6938553410284012364", "6938553410284012362 / 0", api.Fail{Row: 0, Rule: 3}, api.ErrTrace},
		{"1 2 | c0 | n0 c0 - | 0 3 ; 0 1 ; 0 0", "4294967296 / 4294967296 / 4294967296 / 4294967296", "4294967296 4294967296 4294967296", "4294967296 / 4294967295 / 4294967296 / 4294967296", api.Fail{Row: 0, Rule: 0}, api.ErrTrace},
		{"2 3 |  | c0 c1 * c0 c1 * - ; n1 k4294967296 + n1 k4294967296 + - | 1 4 ; 1 3", "", "2 9223372036854775808", "18446744069414584320 18446744069414584320 / 18446744069414584320 5 / 18446744069414584320 5223101717205101617 / 4294967295 9223372036854775808 / 1 2 / 1 0 / 2 9223372036854775808 / 17394180523462591249 5", api.Fail{}, api.OK},
		{"3 2 | c0 ; c0 ; c2 c0 - | c0 n2 + | 2 2 ; 1 2 ; 0 2", "18446744069414584320 5 9223372036854775808 / 18446744069414584320 18446744069414584320 9223372036854775809 / 18446744069414584320 18446744069414584320 9223372036854775810 / 18446744069414584320 18446744069414584320 9223372036854775811", "9223372036854775810 18446744069414584320 18446744069414584320", "18446744069414584320 5 9223372036854775808 / 18446744069414584320 18446744069414584320 9223372036854775809 / 18446744069414584320 18446744069414584320 9223372036854775810 / 18446744069414584320 18446744069414584320 9223372036854775811", api.Fail{Row: 0, Rule: 3}, api.ErrTrace},
		{"4 2 |  | c2 c0 - c2 c0 - - | 0 1", "", "4294967296", "13743603143477167226 2 13926806301680703922 2 / 0 2 2 5 / 16787053156248951739 8738918758142854005 11844378864507990854 7549725675641275829 / 18446744069414584320 18446744069414584320 7446994010348088323 2", api.Fail{Row: 1, Rule: 1}, api.ErrTrace},
		{"2 1 |  | c1 k4294967296 + c1 k4294967296 + - | ", "", "", "14326415970359321608 12249830340425918673 / 17657738425445172155 9223372036854775808", api.Fail{}, api.OK},
		{"2 3 | c0 ; c1 c0 * | n0 c0 - ; n0 c0 - | 0 2 ; 1 7 ; 1 6", "18446744069414584320 5 / 18446744069414584320 18446744069414584316 / 18446744069414584320 5 / 18446744069414584320 18446744069414584316 / 18446744069414584320 5 / 18446744069414584320 18446744069414584316 / 18446744069414584320 5 / 18446744069414584320 18446744069414584316", "18446744069414584320 18446744069414584316 5", "18446744069414584320 5 / 18446744069414584320 18446744069414584316 / 18446744069414584320 5 / 18446744069414584320 18446744069414584316 / 18446744069414584320 5 / 18446744069414584320 18446744069414584316 / 18446744069414584320 5 / 18446744069414584320 18446744069414584316", api.Fail{}, api.OK},
		{"2 2 |  |  | 1 3 ; 1 1 ; 1 0", "", "2163844128431536104 1 2", "5 1 / 5643017419250292825 1 / 12598381802031495569 12944915005868427178 / 18446744069414584320 2163844128431536104", api.Fail{Row: 0, Rule: 2}, api.ErrTrace},
		{"4 2 | c0 ; k1 c1 k0 + * ; c3 ; c1 c2 c0 * + |  | 0 1 ; 2 1 ; 3 2", "2 4294967296 9223372036854775808 2 / 2 4294967296 2 8589934591 / 2 4294967296 8589934591 4294967300 / 2 4294967296 4294967300 21474836478", "2 2 4294967300", "2 4294967296 9223372036854775808 2 / 2 4294967296 2 8589934591 / 2 4294967296 8589934591 4294967299 / 2 4294967296 4294967300 21474836478", api.Fail{Row: 1, Rule: 3}, api.ErrTrace},
		{"4 0 | c3 ; k7 c1 c1 * * ; c1 c0 c0 - + ; c3 |  | ", "1 4294967296 1 18446744069414584320", "", "1 4294967296 1 18446744069414584319", api.Fail{}, api.OK},
		{"2 1 | c1 c0 c0 * + ; c0 c1 - |  | 0 1 ; 0 0 ; 1 1", "2 1 / 5 1", "5 3 1", "2 1 / 5 1", api.Fail{Row: 0, Rule: 3}, api.ErrTrace},
		{"1 1 |  | n0 c0 + n0 c0 + - ; n0 c0 - n0 c0 - - ; n0 k4294967296 + | 0 0", "", "18446744069414584320", "18446744069414584320 / 18446744069414584320", api.Fail{Row: 0, Rule: 2}, api.ErrTrace},
		{"8 1 | c4 c7 c5 + * ; c0 c6 + ; c5 c4 c5 - * ; c2 c4 * c5 * ; c5 c2 - ; c6 k7 * c4 + ; k1 ; c7 c3 + | n7 c7 c3 + - | 2 1", "14825868780937202528 17767992692879667749 9223372036854775808 4294967296 9223372036854775808 5 2 5 / 21474836475 14825868780937202530 9223372045444710373 18446744064045875201 9223372032559808518 9223372036854775822 1 4294967301", "9223372045444710372", "14825868780937202528 17767992692879667749 9223372036854775808 4294967296 9223372036854775808 5 2 5 / 21474836475 14825868780937202530 9223372045444710373 18446744064045875201 9223372032559808518 9223372036854775822 1 4294967301", api.Fail{Row: 1, Rule: 9}, api.ErrTrace},
		{"4 1 |  |  | 2 0 ; 0 0", "", "0 4294967296", "4294967296 12756002382799152533 0 2 / 1 5919154696838406135 1 2", api.Fail{}, api.OK},
		{"2 2 |  | n0 n1 - | ", "", "", "4294967296 9223372036854775808 / 1 4294967296 / 0 0 / 2 0", api.Fail{Row: 0, Rule: 0}, api.ErrTrace},
		{"2 2 | c0 ; k14862804869323188707 | n0 c0 - | 0 1 ; 1 3 ; 1 2", "2 5 / 2 14862804869323188707 / 2 14862804869323188707 / 2 14862804869323188707", "2 14862804869323188707 14862804869323188706", "2 5 / 2 14862804869323188707 / 2 14862804869323188707 / 2 14862804869323188707", api.Fail{Row: 2, Rule: 5}, api.ErrTrace},
		{"8 1 |  | k0 n4 + k0 n4 + - ; n4 c5 - n4 c5 - - | 7 1 ; 6 1", "", "5 0", "15986465359255570318 4361018560901073448 14918745209393000614 9223372036854775808 13898334023892158054 1 5 0 / 0 0 1 2 5326581481519812372 0 4294967296 5", api.Fail{Row: 1, Rule: 3}, api.ErrTrace},
		{"3 2 | c2 c1 + ; k18446744069414584320 k7 - ; k7 c2 + | n2 k7 c2 + - ; n2 n0 * n2 n0 * - | 0 3 ; 1 2 ; 0 2", "8925362633907269924 18446744069414584320 9223372036854775808 / 9223372036854775807 18446744069414584313 9223372036854775815 / 9223372036854775807 18446744069414584313 9223372036854775822 / 9223372036854775814 18446744069414584313 9223372036854775829", "9223372036854775814 18446744069414584313 9223372036854775807", "8925362633907269924 18446744069414584320 9223372036854775808 / 9223372036854775807 18446744069414584313 9223372036854775815 / 9223372036854775807 18446744069414584313 9223372036854775822 / 9223372036854775814 18446744069414584313 9223372036854775829", api.Fail{}, api.OK},
		{"4 2 | c3 c3 - k1 + ; k7 c2 + ; c3 c1 + ; k0 | n1 k7 c2 + - | 3 1", "18446744069414584320 0 1 2208017992115323929 / 1 8 2208017992115323929 0 / 1 2208017992115323936 8 0 / 1 15 2208017992115323936 0", "0", "18446744069414584320 0 1 2208017992115323929 / 1 8 2208017992115323929 0 / 1 2208017992115323936 9 0 / 1 15 2208017992115323936 0", api.Fail{Row: 1, Rule: 2}, api.ErrTrace},
		{"1 0 |  | c0 c0 * c0 c0 * - ; n0 n0 * n0 n0 * - | ", "", "", "2", api.Fail{}, api.OK},
		{"2 2 | k18446744069414584320 c1 - ; c0 | n1 c0 - ; n0 k18446744069414584320 c1 - - | 1 0 ; 1 3 ; 1 2", "9223372036854775808 4294967296 / 18446744065119617024 9223372036854775808 / 9223372032559808512 18446744065119617024 / 4294967296 9223372032559808512", "4294967296 9223372032559808513 18446744065119617023", "9223372036854775808 4294967296 / 18446744065119617024 9223372036854775808 / 9223372032559808512 18446744065119617024 / 4294967296 9223372032559808512", api.Fail{Row: 2, Rule: 6}, api.ErrTrace},
		{"1 2 | c0 k0 k4294967296 - * |  | 0 3 ; 0 2 ; 0 0", "5 / 18446744047939747841 / 21474836475 / 5", "6 21474836475 5", "5 / 18446744047939747841 / 21474836475 / 5", api.Fail{Row: 3, Rule: 1}, api.ErrTrace},
		{"1 3 |  |  | 0 6", "", "4294967301", "18446744069414584320 / 2 / 5571572807269897957 / 16775883199343092838 / 9223372036854775808 / 4294967296 / 5 / 4294967297", api.Fail{Row: 6, Rule: 0}, api.ErrTrace},
		{"1 1 | c0 c0 * c0 - | n0 c0 c0 * c0 - - ; n0 c0 c0 * c0 - - ; c0 c0 + | ", "11164753964013735297 / 5551784776363940893", "", "11164753964013735297 / 5551784776363940893", api.Fail{Row: 0, Rule: 3}, api.ErrTrace},
		{"3 2 | k0 k1 c2 + * ; c0 c0 * ; c1 c0 * c2 + |  | 2 3 ; 2 1", "4294967296 2390586512648818413 5 / 0 4294967295 10696859115215580737 / 0 0 10696859115215580737 / 0 0 10696859115215580737", "10696859115215580737 10696859115215580738", "4294967296 2390586512648818413 5 / 0 4294967295 10696859115215580737 / 0 0 10696859115215580737 / 0 0 10696859115215580737", api.Fail{Row: 1, Rule: 4}, api.ErrTrace},
		{"2 2 | c1 ; c0 c0 c0 * + | n1 c0 c0 c0 * + - ; n1 c0 c0 c0 * + - | 1 0 ; 1 3 ; 0 2", "0 18446744069414584320 / 18446744069414584320 0 / 0 0 / 0 0", "18446744069414584319 0 0", "0 18446744069414584320 / 18446744069414584320 0 / 0 0 / 0 0", api.Fail{Row: 0, Rule: 4}, api.ErrTrace},
		{"1 1 |  | c0 c0 - c0 c0 - - ; c0 n0 * | ", "", "", "4294967296 / 1", api.Fail{Row: 0, Rule: 1}, api.ErrTrace},
	} {
		a, public, rows := made(x.text), numbers(x.public), lines(x.rows)
		keeps(t, a, public, rows, x.fail, x.no)
		alike(t, a, public, rows)
		if len(a.Steps) == 0 {
			makes(t, a, rows[0], nil, api.ErrArg)
			continue
		}
		all := lines(x.made)
		makes(t, a, all[0], all, api.OK)
		kept(t, a, all[0])
	}
}

// P19.1, P19.3: as many rows as the Log says, from one alone on, of one column to 8.
func TestSizes(t *testing.T) {
	for log, size := range []int{1, 2, 4, 8, 16, 32, 64, 128, 256, 512, 1024} {
		for cols := 1; cols <= 8; cols++ {
			a := api.Air{Cols: cols, Log: log}
			for c := range cols {
				// The next column's square, and this one's.
				next := "c" + strconv.Itoa((c+1)%cols)
				a.Steps = append(a.Steps, bytesOf(next+" "+next+" * c"+strconv.Itoa(c)+" +"))
			}
			first := row(cols, uint64(log))
			rows := kept(t, a, first)
			want, no := makeOf(a, first)
			makes(t, a, first, want, no)
			if no != api.OK || len(rows) != size {
				t.Errorf("%d rows of the Log %d and %d columns: %d", len(rows), log, cols, no)
			}
		}
	}
	// Written out: one column that doubles, from the first row on to the 64th; and the sum of the two ahead.
	var want [][]uint64
	for i := range uint(64) {
		x := new(big.Int).Lsh(big.NewInt(3), i)
		want = append(want, []uint64{x.Mod(x, modulo).Uint64()})
	}
	makes(t, made("1 6 | c0 c0 +"), []uint64{3}, want, api.OK)
	makes(t, some(0), []uint64{4, 9}, [][]uint64{{4, 9}}, api.OK)
	makes(t, some(1), []uint64{4, 9}, [][]uint64{{4, 9}, {9, 13}}, api.OK)
	makes(t, some(2), []uint64{0, api.P - 1}, [][]uint64{{0, api.P - 1}, {api.P - 1, api.P - 1}, {api.P - 1, api.P - 2}, {api.P - 2, api.P - 3}}, api.OK)
}

// wrongs are ones that may not be, for each reason that layer 18 tells, each with the error that it tells of it; all but the one thing is as it may be, of rows of two numbers.
func wrongs() []struct {
	a  api.Air
	no api.Errno
} {
	var l []struct {
		a  api.Air
		no api.Errno
	}
	add := func(no api.Errno, change func(a *api.Air)) {
		a := some(2)
		change(&a)
		l = append(l, struct {
			a  api.Air
			no api.Errno
		}{a, no})
	}
	for _, n := range []int{-1, 11, 12, 32, 62, 63, 64, 65, math.MaxInt, math.MinInt} {
		add(api.ErrArg, func(a *api.Air) { a.Log, a.Bounds = n, nil })
	}
	for _, n := range []int{-1, 0, 1, 3, 9, math.MaxInt, math.MinInt} {
		add(api.ErrArg, func(a *api.Air) { a.Cols = n })
	}
	add(api.ErrArg, func(a *api.Air) { a.Cols, a.Steps, a.Rules, a.Bounds = 0, nil, nil, nil })
	add(api.ErrArg, func(a *api.Air) { a.Cols, a.Steps = 9, slices.Repeat([]string{bytesOf("c0")}, 9) })
	add(api.ErrArg, func(a *api.Air) { a.Steps = a.Steps[:1] })
	add(api.ErrArg, func(a *api.Air) { a.Steps = append(a.Steps, bytesOf("c0")) })
	add(api.ErrArg, func(a *api.Air) { a.Rules = slices.Repeat([]string{bytesOf("k0")}, 17) })
	add(api.ErrArg, func(a *api.Air) {
		a.Log, a.Bounds = 4, nil
		for i := range 17 {
			a.Bounds = append(a.Bounds, api.Bound{Col: i / 16, Row: i % 16})
		}
	})
	for _, b := range []api.Bound{{Col: 2}, {Row: 4}, {Col: -1}, {Row: -1}, {}, {Col: 1, Row: 3}, {Col: math.MaxInt}, {Row: math.MinInt}} {
		add(api.ErrArg, func(a *api.Air) { a.Bounds = append(a.Bounds, b) })
		add(api.ErrArg, func(a *api.Air) { a.Bounds = append([]api.Bound{b}, a.Bounds...) })
	}
	for s, no := range map[string]api.Errno{
		"\x00":                              api.ErrOp,
		"\x07":                              api.ErrOp,
		bytesOf("c2"):                       api.ErrOp,
		bytesOf("n2"):                       api.ErrOp,
		"\x01":                              api.ErrForm,
		"\x03\x00":                          api.ErrForm,
		bytesOf("k18446744069414584321"):    api.ErrForm,
		"":                                  api.ErrStack,
		bytesOf("c0 +"):                     api.ErrStack,
		bytesOf("c0 c1"):                    api.ErrStack,
		bytesOf(sum(17)):                    api.ErrStack,
		bytesOf("c0 c0 * c0 * c0 * c0 *"):   api.ErrDegree,
		bytesOf(long(128)):                  api.ErrLimit,
		strings.Repeat(bytesOf("c0"), 5000): api.ErrLimit,
	} {
		add(no, func(a *api.Air) { a.Steps[0] = s })
		add(no, func(a *api.Air) { a.Steps[1] = s })
		add(no, func(a *api.Air) { a.Rules[0] = s })
		add(no, func(a *api.Air) { a.Rules = append(slices.Repeat([]string{bytesOf("k0")}, 15), s) })
	}
	add(api.ErrOp, func(a *api.Air) { a.Steps[0] = bytesOf("n0") })
	return l
}

// sum is so many columns put down, and then added up: a stack as deep.
func sum(n int) string { return strings.Repeat("c0 ", n) + strings.Repeat("+ ", n-1) }

// long is a column, and a constant added to it n times: 1 + 2 n operations.
func long(n int) string { return "c0" + strings.Repeat(" k1 +", n) }

// P19.1, P19.2: of one that may not be there are no rows, and none are whole; it is ErrArg that is told, whatever layer 18 tells.
func TestMayNot(t *testing.T) {
	good := some(2)
	rows := kept(t, good, []uint64{1, 1})
	keeps(t, good, []uint64{1, 5}, rows, api.Fail{}, api.OK)
	for _, x := range wrongs() {
		if no := air.Check(x.a); no != x.no {
			t.Fatalf("%.100x is told %d, not %d", air.Print(x.a), no, x.no)
		}
		makes(t, x.a, []uint64{1, 1}, nil, api.ErrArg)
		makes(t, x.a, nil, nil, api.ErrArg)
		// As many, and as wide, as its fields say, too.
		makes(t, x.a, make([]uint64, min(9, max(0, x.a.Cols))), nil, api.ErrArg)
		unwhole(t, x.a, []uint64{1, 5}, rows)
		unwhole(t, x.a, nil, nil)
		public := make([]uint64, len(x.a.Bounds))
		for _, n := range []int{1, 2, 4, 16, 2048} {
			all := make([][]uint64, n)
			for i := range all {
				all[i] = make([]uint64, min(9, max(0, x.a.Cols)))
			}
			unwhole(t, x.a, public, all)
		}
	}
}

// P19.1, P19.2: without steps nothing is made, yet rows may be whole, and keep the other rules and the Bounds.
func TestNoSteps(t *testing.T) {
	for _, steps := range [][]string{nil, {}} {
		for log := range 7 {
			for cols := 1; cols <= 8; cols++ {
				a := api.Air{Cols: cols, Log: log, Steps: steps}
				rows := make([][]uint64, 1<<log)
				for i := range rows {
					rows[i] = row(cols, uint64(i))
				}
				makes(t, a, rows[0], nil, api.ErrArg)
				keeps(t, a, nil, rows, api.Fail{}, api.OK)
				keeps(t, a, []uint64{}, rows, api.Fail{}, api.OK)
			}
		}
	}
	a := made("2 2 | | n0 c1 -")
	rows := [][]uint64{{5, 1}, {1, 7}, {7, 7}, {7, 0}}
	makes(t, a, rows[0], nil, api.ErrArg)
	keeps(t, a, nil, rows, api.Fail{}, api.OK)
	keeps(t, a, nil, with(rows, 2, 0, 8), api.Fail{Row: 1}, api.ErrTrace)
	a.Bounds = []api.Bound{{Col: 1, Row: 2}}
	publics(t, a, rows, []uint64{7})
	keeps(t, a, []uint64{8}, rows, api.Fail{Row: 2, Rule: 1}, api.ErrTrace)
}

// P19.1: a first row has as many numbers as columns, all as they are kept.
func TestFirst(t *testing.T) {
	for cols := 1; cols <= 8; cols++ {
		for log := range 4 {
			a := api.Air{Cols: cols, Log: log}
			for c := range cols {
				a.Steps = append(a.Steps, bytesOf("c"+strconv.Itoa(cols-1-c)))
			}
			first := row(cols, 3)
			kept(t, a, first)
			kept(t, a, slices.Repeat([]uint64{0}, cols))
			kept(t, a, slices.Repeat([]uint64{api.P - 1}, cols))
			for n := range 20 {
				if n != cols {
					makes(t, a, make([]uint64, n), nil, api.ErrArg)
				}
			}
			makes(t, a, nil, nil, api.ErrArg)
			makes(t, a, first[:cols-1], nil, api.ErrArg)
			makes(t, a, append(slices.Clone(first), 1), nil, api.ErrArg)
			for c := range cols {
				for _, n := range unkept() {
					bad := slices.Clone(first)
					bad[c] = n
					makes(t, a, bad, nil, api.ErrArg)
				}
				good := slices.Clone(first)
				good[c] = api.P - 1
				kept(t, a, good)
			}
		}
	}
}

// P19.1: what steps of each kind make.
func TestSteps(t *testing.T) {
	// One that reads all columns, constants alone, one column as it is, and a product.
	a := made("8 2 | c0 c1 + c2 + c3 + c4 + c5 + c6 + c7 + ; k7 ; c1 ; c2 ; c3 ; c4 ; c5 ; c6 c7 *")
	makes(t, a, []uint64{1, 2, 3, 4, 5, 6, 7, 8}, lines("1 2 3 4 5 6 7 8 / 36 7 2 3 4 5 6 56 / 119 7 7 2 3 4 5 336 / 483 7 7 7 2 3 4 1680"), api.OK)
	// Each reads the row ahead alone, not what was made of it so far.
	makes(t, made("3 2 | c2 ; c0 ; c1"), []uint64{1, 2, 3}, lines("1 2 3 / 3 1 2 / 2 3 1 / 1 2 3"), api.OK)
	makes(t, made("2 1 | c1 ; c0"), []uint64{1, 2}, lines("1 2 / 2 1"), api.OK)
	for n, want := range map[string]uint64{"k0": 0, "k5": 5, "k18446744069414584320": api.P - 1, "k2 k3 -": api.P - 1, "k4294967296 k4294967296 *": 1<<32 - 1, "k18446744069414584320 k1 +": 0} {
		makes(t, made("1 2 | "+n), []uint64{9}, [][]uint64{{9}, {want}, {want}, {want}}, api.OK)
		makes(t, made("1 0 | "+n), []uint64{9}, [][]uint64{{9}}, api.OK)
		makes(t, made("2 1 | c0 ; "+n), []uint64{9, 4}, [][]uint64{{9, 4}, {9, want}}, api.OK)
	}
	// All ends of what a step may be: the most operations, the deepest stack, the greatest degree.
	makes(t, made("1 1 | "+long(127)), []uint64{api.P - 1}, [][]uint64{{api.P - 1}, {126}}, api.OK)
	makes(t, made("1 1 | "+sum(16)), []uint64{3}, [][]uint64{{3}, {48}}, api.OK)
	makes(t, made("1 1 | c0 c0 * c0 * c0 *"), []uint64{1 << 16}, [][]uint64{{1 << 16}, {1<<32 - 1}}, api.OK)
	for _, s := range []string{long(127), sum(16), "c0 c0 * c0 * c0 *", "c0", "k3"} {
		a := made("1 6 | " + s)
		rows := kept(t, a, []uint64{77})
		want, no := makeOf(a, []uint64{77})
		makes(t, a, []uint64{77}, want, no)
		for i := 1; i < len(rows); i++ {
			broken := with(rows, i, 0, more(rows[i][0]))
			keeps(t, a, nil, broken, api.Fail{Row: i - 1}, api.ErrTrace)
		}
	}
}

// P19.1: rows are made by the steps alone: other rules and Bounds may be broken by them.
func TestStepsAlone(t *testing.T) {
	a := made("1 2 | c0 k1 + | n0 c0 - ; n0 k3 -")
	rows := lines("5 / 6 / 7 / 8")
	makes(t, a, []uint64{5}, rows, api.OK)
	keeps(t, a, nil, rows, api.Fail{Row: 0, Rule: 1}, api.ErrTrace)
	a.Bounds = []api.Bound{{Row: 3}}
	makes(t, a, []uint64{5}, rows, api.OK)
	publics(t, a, rows, []uint64{8})
}

// P19.1: the numbers at the Bounds' places, in the Bounds' order.
func TestPublic(t *testing.T) {
	for _, log := range []int{0, 1, 2, 6, 10} {
		for cols := 1; cols <= 8; cols++ {
			rows := make([][]uint64, 1<<log)
			for i := range rows {
				for c := range cols {
					rows[i] = append(rows[i], uint64(1000*c+i))
				}
			}
			a := api.Air{Cols: cols, Log: log}
			publics(t, a, rows, nil)
			keeps(t, a, nil, rows, api.Fail{}, api.OK)
			var want []uint64
			for i, x := range ordinary(40, uint64(log)) {
				b := api.Bound{Col: int(x >> 20 % uint64(cols)), Row: int(x >> 40 % uint64(len(rows)))}
				if i == 0 {
					b.Row = len(rows) - 1
				}
				if slices.Contains(a.Bounds, b) || len(want) == 16 {
					continue
				}
				a.Bounds = append(a.Bounds, b)
				want = append(want, uint64(1000*b.Col+b.Row))
				publics(t, a, rows, want)
				keeps(t, a, want, rows, api.Fail{}, api.OK)
			}
		}
	}
	rows := lines("1 2 3 / 4 5 6")
	for s, want := range map[string]string{
		"":                                      "",
		"0 0":                                   "1",
		"2 1":                                   "6",
		"0 1 ; 0 0":                             "4 1",
		"1 0 ; 1 1":                             "2 5",
		"2 0 ; 1 0 ; 0 0":                       "3 2 1",
		"0 1 ; 1 1 ; 2 1":                       "4 5 6",
		"2 1 ; 0 0 ; 1 1 ; 2 0 ; 0 1 ; 1 0":     "6 1 5 3 4 2",
		"0 0 ; 1 0 ; 2 0 ; 0 1 ; 1 1 ; 2 1    ": "1 2 3 4 5 6",
	} {
		a := made("3 1 | | | " + s)
		publics(t, a, rows, numbers(want))
		keeps(t, a, numbers(want), rows, api.Fail{}, api.OK)
	}
}

// P19.1: an answer is as it is kept, of rows that aren't too.
func TestPublicUnkept(t *testing.T) {
	a := made("2 1 | | | 0 0 ; 1 0 ; 0 1 ; 1 1")
	for _, n := range append(unkept(), 0, 1, api.P-1, api.P-2, 1<<32, 1<<63) {
		for i := range 4 {
			rows, want := lines("5 6 / 7 8"), numbers("5 6 7 8")
			rows[i/2][i%2] = n
			want[i] = new(big.Int).Mod(new(big.Int).SetUint64(n), modulo).Uint64()
			publics(t, a, rows, want)
			alike(t, a, want, rows)
		}
	}
}

// P19.2: there are as many rows as the Log says, each as wide as Cols, all numbers as they are kept.
func TestWholeRows(t *testing.T) {
	for _, log := range []int{0, 1, 2, 6} {
		for cols := 1; cols <= 8; cols++ {
			a := api.Air{Cols: cols, Log: log, Bounds: []api.Bound{{Col: cols - 1, Row: 1<<log - 1}}}
			rows := make([][]uint64, 1<<log)
			for i := range rows {
				rows[i] = row(cols, uint64(i+cols))
			}
			public := trace.Public(a, rows)
			keeps(t, a, public, rows, api.Fail{}, api.OK)
			// One more, one fewer, as many as of other Logs, none.
			unwhole(t, a, public, append(copied(rows), rows[0]))
			unwhole(t, a, public, rows[:len(rows)-1])
			unwhole(t, a, public, rows[1:])
			unwhole(t, a, public, append(copied(rows), rows...))
			unwhole(t, a, public, rows[:len(rows)/2])
			unwhole(t, a, public, nil)
			unwhole(t, a, public, [][]uint64{})
			for _, i := range []int{0, len(rows) / 2, len(rows) - 1} {
				narrow, wide, none := copied(rows), copied(rows), copied(rows)
				narrow[i] = narrow[i][:cols-1]
				wide[i] = append(wide[i], 1)
				none[i] = nil
				unwhole(t, a, public, narrow)
				unwhole(t, a, public, wide)
				unwhole(t, a, public, none)
				for c := range cols {
					for _, n := range unkept() {
						unwhole(t, a, public, with(rows, i, c, n))
					}
					good := with(rows, i, c, api.P-1)
					keeps(t, a, trace.Public(a, good), good, api.Fail{}, api.OK)
				}
			}
		}
	}
}

// P19.2: there are as many public values as Bounds, all as they are kept.
func TestWholePublic(t *testing.T) {
	rows := make([][]uint64, 16)
	for i := range rows {
		rows[i] = row(2, uint64(i))
	}
	for n := range 17 {
		a := api.Air{Cols: 2, Log: 4}
		for i := range n {
			a.Bounds = append(a.Bounds, api.Bound{Col: i % 2, Row: 15 - i})
		}
		public := trace.Public(a, rows)
		keeps(t, a, public, rows, api.Fail{}, api.OK)
		unwhole(t, a, append(slices.Clone(public), 0), rows)
		unwhole(t, a, append(slices.Clone(public), public...), append(copied(rows), rows...))
		for k := range n {
			unwhole(t, a, public[:k], rows)
			unwhole(t, a, public[k+1:], rows)
			for _, x := range unkept() {
				bad := slices.Clone(public)
				bad[k] = x
				unwhole(t, a, bad, rows)
			}
			// Another one as it is kept is whole all the same, and broken.
			other := slices.Clone(public)
			other[k] = more(other[k])
			keeps(t, a, other, rows, api.Fail{Row: 15 - k, Rule: k}, api.ErrTrace)
		}
	}
	// A public value that is alike modulo P isn't one as it is kept.
	a := made("1 0 | | | 0 0")
	keeps(t, a, []uint64{0}, [][]uint64{{0}}, api.Fail{}, api.OK)
	unwhole(t, a, []uint64{api.P}, [][]uint64{{0}})
	unwhole(t, a, []uint64{0}, [][]uint64{{api.P}})
	unwhole(t, a, []uint64{api.P}, [][]uint64{{api.P}})
}

// P19.2: that rows aren't whole comes ahead of what they break, wherever both are.
func TestWholeFirst(t *testing.T) {
	a := some(2)
	rows := with(lines("1 1 / 1 2 / 2 3 / 3 5"), 1, 0, 9)
	keeps(t, a, []uint64{7, 5}, rows, api.Fail{Row: 0, Rule: 0}, api.ErrTrace)
	unwhole(t, a, []uint64{7, api.P}, rows)
	unwhole(t, a, []uint64{7}, rows)
	unwhole(t, a, []uint64{7, 5, 0}, rows)
	unwhole(t, a, []uint64{7, 5}, with(rows, 3, 1, api.P))
	unwhole(t, a, []uint64{7, 5}, append(copied(rows), rows[3]))
	rows[3] = rows[3][:1]
	unwhole(t, a, []uint64{7, 5}, rows)
}

// P19.2: the first row that breaks a rule; in the last one no rule but the Bounds is asked.
func TestBrokenRow(t *testing.T) {
	for _, log := range []int{0, 1, 2, 6} {
		last := 1<<log - 1
		a := some(log)
		rows := kept(t, a, []uint64{1, 1})
		public := trace.Public(a, rows)
		keeps(t, a, public, rows, api.Fail{}, api.OK)
		a.Bounds, public = nil, nil
		for i := range rows {
			// The first column's step is broken ahead of row i; in the first row, behind it, of the second column.
			want := api.Fail{Row: i - 1}
			if i == 0 {
				want = api.Fail{Row: 0, Rule: 1}
			}
			if last == 0 {
				keeps(t, a, public, with(rows, i, 0, 99), api.Fail{}, api.OK)
				continue
			}
			keeps(t, a, public, with(rows, i, 0, more(rows[i][0])), want, api.ErrTrace)
			// One rule in this row and in any later one.
			for j := i + 1; j <= last && i > 0; j++ {
				keeps(t, a, public, with(with(rows, i, 0, more(rows[i][0])), j, 0, more(rows[j][0])), want, api.ErrTrace)
			}
		}
		// The Bounds of the last row are asked all the same.
		a.Bounds = []api.Bound{{Col: 0, Row: last}, {Col: 1, Row: last}}
		public = slices.Clone(rows[last])
		keeps(t, a, public, rows, api.Fail{}, api.OK)
		public[1] = more(public[1])
		keeps(t, a, public, rows, api.Fail{Row: last, Rule: 4}, api.ErrTrace)
		public[0] = more(public[0])
		keeps(t, a, public, rows, api.Fail{Row: last, Rule: 3}, api.ErrTrace)
	}
	// Rules that nothing keeps: of two rows or more the first one is told, of one row alone none is asked.
	for _, s := range []string{"k1", "c0 c0 - k1 +", "n0 n0 - k7 -"} {
		for log := range 7 {
			a := made("1 0 | | " + s)
			a.Log = log
			rows := slices.Repeat([][]uint64{{4}}, 1<<log)
			if log == 0 {
				keeps(t, a, nil, rows, api.Fail{}, api.OK)
			} else {
				keeps(t, a, nil, rows, api.Fail{}, api.ErrTrace)
			}
		}
	}
	// One that leaves 0 at some pairs of rows alone; the last row is the next one of none, not even of itself or of the first.
	a := made("1 3 | | n0 c0 k1 + -")
	keeps(t, a, nil, lines("1 / 2 / 3 / 4 / 5 / 6 / 7 / 8"), api.Fail{}, api.OK)
	for i := range 7 {
		rows := lines("1 / 2 / 3 / 4 / 5 / 6 / 7 / 8")
		for j := i + 1; j < 8; j++ {
			rows[j][0] += 5
		}
		keeps(t, a, nil, rows, api.Fail{Row: i}, api.ErrTrace)
	}
	a = made("1 3 | | c0 k5 -")
	keeps(t, a, nil, lines("5 / 5 / 5 / 5 / 5 / 5 / 5 / 6"), api.Fail{}, api.OK)
	keeps(t, a, nil, lines("5 / 5 / 5 / 5 / 5 / 5 / 6 / 5"), api.Fail{Row: 6}, api.ErrTrace)
	keeps(t, a, nil, lines("6 / 5 / 5 / 5 / 5 / 5 / 5 / 5"), api.Fail{Row: 0}, api.ErrTrace)
	a = made("1 3 | | n0 k5 -")
	keeps(t, a, nil, lines("6 / 5 / 5 / 5 / 5 / 5 / 5 / 5"), api.Fail{}, api.OK)
	keeps(t, a, nil, lines("5 / 5 / 5 / 5 / 5 / 5 / 5 / 6"), api.Fail{Row: 6}, api.ErrTrace)
}

// P19.2: in a row the first of the steps, of the other rules, of the Bounds, in this order; its number counts all ahead of it.
func TestBrokenRule(t *testing.T) {
	for _, steps := range []int{0, 4} {
		for _, others := range []int{0, 1, 3, 16} {
			for _, bounds := range []int{0, 1, 4, 16} {
				brokenRules(t, steps, others, bounds)
			}
		}
	}
	a := made("2 1 | c0 ; c1 | n0 c0 - ; n1 c1 - | 1 0 ; 0 0 ; 0 1 ; 1 1")
	rows := lines("1 2 / 1 2")
	for _, x := range []struct {
		rows, public string
		want         api.Fail
	}{
		{"1 2 / 3 4", "2 1 3 4", api.Fail{Row: 0, Rule: 0}},
		{"1 2 / 1 4", "2 1 1 4", api.Fail{Row: 0, Rule: 1}},
		{"1 2 / 3 2", "2 1 3 2", api.Fail{Row: 0, Rule: 0}},
		{"1 2 / 1 2", "0 0 1 2", api.Fail{Row: 0, Rule: 4}},
		{"1 2 / 1 2", "2 0 1 2", api.Fail{Row: 0, Rule: 5}},
		{"1 2 / 1 2", "2 1 0 2", api.Fail{Row: 1, Rule: 6}},
		{"1 2 / 1 2", "2 1 1 0", api.Fail{Row: 1, Rule: 7}},
		{"1 2 / 1 2", "2 1 0 0", api.Fail{Row: 1, Rule: 6}},
		{"1 2 / 1 2", "1 2 2 1", api.Fail{Row: 0, Rule: 4}},
		{"1 2 / 1 4", "0 0 0 0", api.Fail{Row: 0, Rule: 1}},
	} {
		keeps(t, a, numbers(x.public), lines(x.rows), x.want, api.ErrTrace)
	}
	keeps(t, a, numbers("2 1 1 2"), rows, api.Fail{}, api.OK)
	// The next row's numbers are no Bound's of this row.
	a.Steps, a.Rules = nil, nil
	keeps(t, a, numbers("2 1 3 4"), lines("1 2 / 3 4"), api.Fail{}, api.OK)
	keeps(t, a, numbers("4 3 1 2"), lines("1 2 / 3 4"), api.Fail{Row: 0, Rule: 0}, api.ErrTrace)
}

// brokenRules breaks, in the third row of four, each of so many steps, other rules and Bounds of that row, alone and with each one behind it.
func brokenRules(t *testing.T, steps, others, bounds int) {
	t.Helper()
	// The last column doubles from 1 on, the other ones stay.
	all := []string{bytesOf("c0"), bytesOf("c1"), bytesOf("c2"), bytesOf("c3 c3 +")}
	a := api.Air{Cols: 4, Log: 2, Steps: all[:steps], Rules: slices.Repeat([]string{bytesOf("c0 n1 * n1 c0 * -")}, others)}
	rows := lines("5 6 7 1 / 5 6 7 2 / 5 6 7 4 / 5 6 7 8")
	for i := range bounds {
		// Those of the third row come first, then those of the last one, and of the two ahead.
		a.Bounds = append(a.Bounds, api.Bound{Col: i % 4, Row: (2 + i/4) % 4})
	}
	public := trace.Public(a, rows)
	keeps(t, a, public, rows, api.Fail{}, api.OK)
	count := steps + others + min(4, bounds)
	for i := range count {
		for j := i; j < count; j++ {
			b, hurt, known := a, copied(rows), slices.Clone(public)
			b.Rules = slices.Clone(a.Rules)
			for _, k := range []int{i, j} {
				switch {
				case k < steps:
					hurt[3][k] = 99
				case k < steps+others:
					// It leaves 0 of the first two rows, not of the third one.
					b.Rules[k-steps] = bytesOf("c3 k1 - c3 k2 - *")
				default:
					known[k-steps-others] = 99
				}
			}
			keeps(t, b, known, hurt, api.Fail{Row: 2, Rule: i}, api.ErrTrace)
			// A Bound of a row ahead comes first, one of the last row doesn't.
			for k := 4; k < bounds; k++ {
				want := api.Fail{Row: 2, Rule: i}
				if k >= 8 {
					want = api.Fail{Row: k/4 - 2, Rule: steps + others + k}
				}
				more := slices.Clone(known)
				more[k] = 99
				keeps(t, b, more, hurt, want, api.ErrTrace)
			}
		}
	}
}

// P19.2: steps and other rules at all ends of what they may be; a step's rule is one like any other, though it has two operations more.
func TestGreatRules(t *testing.T) {
	for _, x := range []struct {
		step, rule string
		next       uint64
	}{
		{long(127), long(126) + " k129 -", 130},
		{sum(16), sum(16) + " k48 -", 48},
		{"c0 c0 * c0 * c0 *", "c0 c0 * c0 * c0 * k81 -", 81},
		{"k7", "k0", 7},
	} {
		a := made("1 1 | " + x.step + " | " + x.rule)
		keeps(t, a, nil, [][]uint64{{3}, {x.next}}, api.Fail{}, api.OK)
		for _, n := range []uint64{0, 1, x.next - 1, x.next + 1, api.P - x.next, api.P - 1} {
			keeps(t, a, nil, [][]uint64{{3}, {n}}, api.Fail{}, api.ErrTrace)
		}
		a = made("1 2 | " + x.step + " | " + x.rule)
		rows, _ := trace.Make(a, []uint64{3})
		want, no := checkOf(a, nil, rows)
		keeps(t, a, nil, rows, want, no)
		if x.rule != "k0" && (want != api.Fail{Row: 1, Rule: 1}) {
			t.Errorf("%s leaves 0 of %d", x.rule, rows[1])
		}
	}
}

// P19.2: as much as there may be: each rule as long as it may be, and kept up to the last row but one.
func TestMost(t *testing.T) {
	a := api.Air{Cols: 8, Log: 10, Steps: slices.Repeat([]string{bytesOf(long(127))}, 8)}
	a.Rules = slices.Repeat([]string{bytesOf("n7" + strings.Repeat(" k1 -", 126) + " c0 -")}, 16)
	a.Rules[15] = bytesOf("n0 c0 -" + strings.Repeat(" k1 -", 126))
	for i := range 16 {
		a.Bounds = append(a.Bounds, api.Bound{Col: i / 2, Row: i % 2 * 1023})
	}
	first := slices.Repeat([]uint64{7}, 8)
	rows, no := trace.Make(a, first)
	if no != api.OK || len(rows) != 1024 || !slices.Equal(rows[1023], slices.Repeat([]uint64{7 + 127*1023}, 8)) {
		t.Fatalf("%d rows, %d", len(rows), no)
	}
	keeps(t, a, trace.Public(a, rows), rows, api.Fail{Rule: 8}, api.ErrTrace)
	for i := range a.Rules {
		a.Rules[i] = bytesOf("n7 c0 - k127 -")
	}
	public := trace.Public(a, rows)
	keeps(t, a, public, rows, api.Fail{}, api.OK)
	a.Rules[15] = bytesOf("n7 c0 - k127 - c0 k" + strconv.Itoa(7+127*1021) + " - *")
	keeps(t, a, public, rows, api.Fail{}, api.OK)
	a.Rules[15] = bytesOf("n7 k" + strconv.Itoa(7+127*1022) + " - n7 n7 - *")
	keeps(t, a, public, rows, api.Fail{}, api.OK)
	public[15] = 0
	keeps(t, a, public, rows, api.Fail{Row: 1023, Rule: 8 + 16 + 15}, api.ErrTrace)
	rows[1023][7]++
	keeps(t, a, public, rows, api.Fail{Row: 1022, Rule: 7}, api.ErrTrace)
}

// expression is n columns and constants, and what puts them together, with no greater degree than 4; and its degree.
func expression(n, cols int, next bool, draw func(int) int) (string, int) {
	if n == 1 {
		switch draw(4) {
		case 0:
			return "k" + strconv.FormatUint([]uint64{0, 1, 7, 1 << 32, api.P - 1}[draw(5)], 10), 0
		case 1:
			if next {
				return "n" + strconv.Itoa(draw(cols)), 1
			}
		}
		return "c" + strconv.Itoa(draw(cols)), 1
	}
	k := 1 + draw(n-1)
	a, d := expression(k, cols, next, draw)
	b, e := expression(n-k, cols, next, draw)
	if d+e <= 4 && draw(3) == 0 {
		return a + " " + b + " *", d + e
	}
	return a + " " + b + []string{" +", " -"}[draw(2)], max(d, e)
}

// instance is rows and public values, and what they must keep.
type instance struct {
	a      api.Air
	public []uint64
	rows   [][]uint64
}

// drawn is what draws numbers, each below another, always the same ones of one seed.
func drawn(seed uint64) func(int) int {
	numbers := ordinary(400, seed+5)[5:]
	return func(n int) int {
		x := numbers[0]
		numbers = append(numbers[1:], ordinary(1, x)...)
		return int(x >> 20 % uint64(n))
	}
}

// one is rows and public values that are whole and keep all, always the same ones of one draw.
func one(draw func(int) int) instance {
	var x instance
	x.a = api.Air{Cols: 1 + draw(8), Log: draw(5)}
	var steps []string
	if draw(4) > 0 {
		for range x.a.Cols {
			s, _ := expression(1+draw(4), x.a.Cols, false, draw)
			steps = append(steps, s)
			x.a.Steps = append(x.a.Steps, bytesOf(s))
		}
	}
	x.rows = make([][]uint64, 1<<x.a.Log)
	for i := range x.rows {
		x.rows[i] = row(x.a.Cols, uint64(draw(1<<20)))
		for c := range x.a.Cols {
			if draw(3) == 0 {
				x.rows[i][c] = []uint64{0, 1, 2, 1 << 32, api.P - 1}[draw(5)]
			}
		}
	}
	if len(steps) > 0 {
		x.rows, _ = makeOf(x.a, x.rows[0])
	}
	for range draw(17) * draw(2) {
		s, _ := expression(1+draw(5), x.a.Cols, true, draw)
		s += " " + s + " -"
		if len(steps) > 0 && draw(2) == 0 {
			c := draw(x.a.Cols)
			s = steps[c] + " n" + strconv.Itoa(c) + " -"
		}
		x.a.Rules = append(x.a.Rules, bytesOf(s))
	}
	for range draw(17) {
		b := api.Bound{Col: draw(x.a.Cols), Row: draw(len(x.rows))}
		if !slices.Contains(x.a.Bounds, b) {
			x.a.Bounds = append(x.a.Bounds, b)
			x.public = append(x.public, x.rows[b.Row][b.Col])
		}
	}
	return x
}

// hurt changes one thing of one.
func hurt(x instance, draw func(int) int) instance {
	x.rows, x.public = copied(x.rows), slices.Clone(x.public)
	x.a.Rules, x.a.Bounds = slices.Clone(x.a.Rules), slices.Clone(x.a.Bounds)
	number := func(n uint64) uint64 {
		return []uint64{0, 1, n ^ 1, more(n), (n + api.P - 1) % api.P, api.P - 1, uint64(draw(1 << 40))}[draw(7)]
	}
	i := draw(max(1, len(x.rows)))
	switch draw(40) {
	case 0:
		x.rows = append(x.rows, x.rows[:min(1, len(x.rows))]...)
	case 1:
		x.rows = x.rows[:i]
	case 2:
		if len(x.rows) > 0 {
			x.rows[i] = append(x.rows[i], 1)
		}
	case 3:
		if len(x.rows) > 0 && len(x.rows[i]) > 0 {
			x.rows[i][draw(len(x.rows[i]))] = unkept()[draw(5)]
		}
	case 4:
		x.public = append(x.public, 0)
	case 5:
		x.public = x.public[:len(x.public)/2]
	case 6:
		if len(x.public) > 0 {
			x.public[draw(len(x.public))] = unkept()[draw(5)]
		}
	case 7:
		x.a.Log += 1 - 2*draw(2)
	case 8:
		x.a.Cols += 1 - 2*draw(2)
	case 9:
		x.a.Rules = append(x.a.Rules, bytesOf([]string{"k1 +", "n8", "c0 c0"}[draw(3)]))
	case 10:
		x.a.Bounds = append(x.a.Bounds, x.a.Bounds...)
	case 11, 12, 13, 14, 15, 16:
		s, _ := expression(1+draw(3), max(1, min(8, x.a.Cols)), true, draw)
		if len(x.rows) > 0 && len(x.rows[0]) > 0 && draw(3) > 0 {
			// It leaves 0 of the first row all the same.
			s += " c0 k" + strconv.FormatUint(x.rows[0][0]%api.P, 10) + " - *"
		}
		x.a.Rules = append(x.a.Rules, bytesOf(s))
	case 17, 18, 19, 20, 21, 22, 23, 24, 25, 26:
		if len(x.public) > 0 {
			k := draw(len(x.public))
			x.public[k] = number(x.public[k])
		}
	default:
		if len(x.rows) > 0 && len(x.rows[i]) > 0 {
			c := draw(len(x.rows[i]))
			x.rows[i][c] = number(x.rows[i][c])
		}
	}
	return x
}

// P1, P19.1 to P19.3: rows that keep all, and with one thing or more changed; each answer, and each kind of rule, is among the answers.
func TestAny(t *testing.T) {
	seen := map[string]int{}
	for seed := range uint64(4000) {
		draw := drawn(seed)
		x := one(draw)
		keeps(t, x.a, x.public, x.rows, api.Fail{}, api.OK)
		if len(x.a.Steps) > 0 {
			kept(t, x.a, x.rows[0])
		}
		for range 5 {
			alike(t, x.a, x.public, x.rows)
			fail, no := trace.Check(x.a, x.public, x.rows)
			seen[kind(x.a, fail, no)]++
			x = hurt(x, draw)
		}
	}
	for _, s := range []string{"none", "unwhole", "step, first row", "step, later row", "rule, first row", "rule, later row", "bound, first row", "bound, later row"} {
		if seen[s] < 100 {
			t.Errorf("%s is among the answers %d times alone", s, seen[s])
		}
	}
	if len(seen) != 8 {
		t.Errorf("%d answers: %v", len(seen), seen)
	}
}

// kind is of which one an answer is.
func kind(a api.Air, fail api.Fail, no api.Errno) string {
	if no != api.ErrTrace {
		return []string{"none", "unwhole"}[no]
	}
	row := ", later row"
	if fail.Row == 0 {
		row = ", first row"
	}
	switch {
	case fail.Rule < len(a.Steps):
		return "step" + row
	case fail.Rule < len(a.Steps)+len(a.Rules):
		return "rule" + row
	}
	return "bound" + row
}

// P19.3: rows that are made keep their steps; with one number changed behind the first row they don't.
func TestKeepSteps(t *testing.T) {
	for seed := range uint64(1500) {
		draw := drawn(seed + 5000)
		a := api.Air{Cols: 1 + draw(8), Log: draw(7)}
		for range a.Cols {
			s, _ := expression(1+draw(6), a.Cols, false, draw)
			a.Steps = append(a.Steps, bytesOf(s))
		}
		rows := kept(t, a, row(a.Cols, seed))
		for range 3 {
			i, c := draw(len(rows)), draw(a.Cols)
			if i == 0 {
				continue
			}
			broken := with(rows, i, c, (rows[i][c]+1+uint64(draw(1<<40)))%api.P)
			keeps(t, a, nil, broken, api.Fail{Row: i - 1, Rule: c}, api.ErrTrace)
		}
	}
}

// P1: each call ends at all for which it is asked; Public at others, too.
func TestAnyEnds(t *testing.T) {
	ends := []int{-1, 0, 1, 2, 8, 9, 10, 11, 63, 64, 1 << 31, 1 << 32, 1 << 62, math.MaxInt, math.MinInt}
	texts := [][]string{nil, {}, {""}, {"\x01\x00"}, make([]string, 8), make([]string, 100000), {strings.Repeat("\x04", 1<<20)}, slices.Repeat([]string{"\x01\x00"}, 8)}
	bounds := [][]api.Bound{nil, {}, {{}}, {{Col: math.MinInt, Row: math.MaxInt}}, {{Row: -1}}, {{Col: -1}}, {{Col: 8}}, {{Row: 2}}, make([]api.Bound, 16), make([]api.Bound, 100000)}
	lists := [][]uint64{nil, {}, {1}, {top}, make([]uint64, 8), make([]uint64, 16), make([]uint64, 100000)}
	tables := [][][]uint64{nil, {}, {nil}, {{}}, {{1}}, {{1}, nil}, {nil, {1, 2}}, {{top}}, make([][]uint64, 1024), make([][]uint64, 100000), slices.Repeat([][]uint64{make([]uint64, 8)}, 1024)}
	for i, cols := range ends {
		for j, log := range ends {
			for k := range 40 {
				n := 7*i + 11*j + k
				a := api.Air{Cols: cols, Log: log, Steps: texts[n%len(texts)], Rules: texts[n/3%len(texts)], Bounds: bounds[n/5%len(bounds)]}
				public, first, rows := lists[n/2%len(lists)], lists[k%len(lists)], tables[k%len(tables)]
				if _, no := trace.Make(a, first); no != api.OK && no != api.ErrArg {
					t.Errorf("Make: %d", no)
				}
				if got := trace.Public(a, rows); len(got) != len(a.Bounds) || !wide(got, len(got)) {
					t.Errorf("Public: %d of %d", len(got), len(a.Bounds))
				}
				whole := trace.Whole(a, public, rows)
				if fail, no := trace.Check(a, public, rows); whole != (no != api.ErrArg) || no != api.ErrTrace && fail != (api.Fail{}) {
					t.Errorf("Check: %v, %d, where Whole is %t", fail, no, whole)
				}
			}
		}
	}
}

// spread is a list with spare room, of which all is told.
func spread(l []uint64) []uint64 { return append(slices.Clone(l), 71, 72, 73)[:len(l)] }

// Rules 3 and 4: what is handed in is as it was, its spare room too; what is answered is new memory, and hangs on the arguments alone.
func TestKept(t *testing.T) {
	full := made("4 2 | c1 ; c0 c1 + ; c2 ; c3 | n0 c1 - ; k0 ; n3 ; c0 | 0 0 ; 1 3 ; 2 2 ; 3 3")
	a := full
	a.Cols, a.Steps, a.Rules, a.Bounds = 2, full.Steps[:2], full.Rules[:2], full.Bounds[:2]
	first, public, rows := spread([]uint64{1, 1}), spread([]uint64{1, 5}), lines("1 1 / 1 2 / 2 3 / 3 5")
	for i := range rows {
		rows[i] = spread(rows[i])
	}
	rows = append(rows, []uint64{74})[:4]
	for range 3 {
		got, no := trace.Make(a, first)
		if no != api.OK || !same(got, rows) {
			t.Fatalf("Make: %v, %d", got, no)
		}
		told := trace.Public(a, rows)
		if !slices.Equal(told, public) {
			t.Fatalf("Public: %d", told)
		}
		keeps(t, a, public, rows, api.Fail{}, api.OK)
		keeps(t, a, told, got, api.Fail{}, api.OK)
		// No row reaches into another one, none into what was handed in.
		for i := range got {
			got[i] = append(got[i][:1], 50, 51, 52)
		}
		for i := range got {
			if !slices.Equal(got[i], []uint64{rows[i][0], 50, 51, 52}) {
				t.Fatalf("row %d has changed with another one: %d", i, got[i])
			}
			clear(got[i][:cap(got[i])])
		}
		clear(told[:cap(told)])
		clear(got[:cap(got)])
		if want := made("4 2 | c1 ; c0 c1 + ; c2 ; c3 | n0 c1 - ; k0 ; n3 ; c0 | 0 0 ; 1 3 ; 2 2 ; 3 3"); air.Print(full) != air.Print(want) {
			t.Fatal("what was handed in has changed")
		}
		if !slices.Equal(first[:5], []uint64{1, 1, 71, 72, 73}) || !slices.Equal(public[:5], []uint64{1, 5, 71, 72, 73}) || !same(rows, lines("1 1 / 1 2 / 2 3 / 3 5")) || rows[:5][4][0] != 74 {
			t.Fatal("what was handed in has changed")
		}
		for _, row := range rows {
			if !slices.Equal(row[2:5], []uint64{71, 72, 73}) {
				t.Fatal("the spare room of a row has changed")
			}
		}
	}
	// What was handed in may be changed afterwards.
	got, _ := trace.Make(a, first)
	told := trace.Public(a, rows)
	clear(first)
	clear(rows[0])
	clear(rows[3])
	if !same(got, lines("1 1 / 1 2 / 2 3 / 3 5")) || !slices.Equal(told, []uint64{1, 5}) {
		t.Error("an answer has changed with what was handed in")
	}
	// One row alone, that is as it was, is new memory too.
	first = []uint64{4, 4}
	got, _ = trace.Make(some(0), first)
	got[0][0] = 9
	if first[0] != 4 {
		t.Error("what was handed in has changed with an answer")
	}
}

// P19.2: lists that hold nothing may be nil or empty.
func TestEmpty(t *testing.T) {
	a := made("1 1 | c0")
	for _, public := range [][]uint64{nil, {}} {
		for _, rules := range [][]string{nil, {}} {
			for _, bounds := range [][]api.Bound{nil, {}} {
				a.Rules, a.Bounds = rules, bounds
				keeps(t, a, public, lines("4 / 4"), api.Fail{}, api.OK)
				keeps(t, a, public, lines("4 / 5"), api.Fail{}, api.ErrTrace)
				publics(t, a, lines("4 / 4"), nil)
				makes(t, a, []uint64{4}, lines("4 / 4"), api.OK)
			}
		}
	}
}

// Rule 6: many may call at once, of the same rows too.
func TestAtOnce(t *testing.T) {
	var wait sync.WaitGroup
	a := some(5)
	rows, _ := trace.Make(a, []uint64{1, 1})
	public := trace.Public(a, rows)
	for k := range uint64(8) {
		wait.Go(func() {
			for i := range uint64(30) {
				alike(t, a, public, rows)
				publics(t, a, rows, public)
				draw := drawn(9000 + 100*k + i)
				x := one(draw)
				alike(t, x.a, x.public, x.rows)
				x = hurt(x, draw)
				alike(t, x.a, x.public, x.rows)
			}
		})
	}
	wait.Wait()
}
