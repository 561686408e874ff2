package air_test

import (
	"encoding/binary"
	"encoding/hex"
	"math"
	"slices"
	"strconv"
	"strings"
	"sync"
	"testing"

	"assayer/air"
	"assayer/api"
	"assayer/code"
	"assayer/eval"
	"assayer/shape"
)

const top = math.MaxUint64

// letters are those of each kind, as ops and bytesOf read them.
const letters = " cnk+-*"

// ops are the operations of a text: c, n or k and a number (a column, the next row's, a constant), +, - and *.
func ops(s string) []api.Op {
	var l []api.Op
	for _, word := range strings.Fields(s) {
		number, bad := strconv.ParseUint("0"+word[1:], 10, 64)
		if bad != nil {
			panic("no operation: " + word)
		}
		l = append(l, api.Op{Kind: strings.Index(letters, word[:1]), N: number})
	}
	return l
}

// bytesOf is the bytes of a text's operations, by another means than layer 15; behind an x they are told as they are.
func bytesOf(s string) string {
	var out []byte
	for _, word := range strings.Fields(s) {
		if word[0] == 'x' {
			out = append(out, raw(word[1:])...)
			continue
		}
		o := ops(word)[0]
		all := binary.LittleEndian.AppendUint64([]byte{byte(o.Kind)}, o.N)
		out = append(out, all[:[]int{0, 2, 2, 9, 1, 1, 1}[o.Kind]]...)
	}
	return string(out)
}

// raw is bytes by their digits, two of each.
func raw(s string) string {
	out, err := hex.DecodeString(s)
	if err != nil {
		panic(err)
	}
	return string(out)
}

// eight is the bytes of numbers, one behind the other, by another means than layer 8.
func eight(l ...uint64) string {
	var out []byte
	for _, n := range l {
		out = binary.LittleEndian.AppendUint64(out, n)
	}
	return string(out)
}

// parts are what stands between the marks of a text; none of an empty one.
func parts(s, mark string) []string {
	if strings.TrimSpace(s) == "" {
		return nil
	}
	return strings.Split(s, mark)
}

// made is the one that a text tells: Cols and Log, then Steps, Rules and Bounds, with | between them, and ; between two of a kind.
func made(s string) api.Air {
	number := func(s string) int {
		n, bad := strconv.Atoi(s)
		if bad != nil {
			panic(bad)
		}
		return n
	}
	fields := strings.Split(s+"|||", "|")
	words := strings.Fields(fields[0])
	a := api.Air{Cols: number(words[0]), Log: number(words[1])}
	for _, x := range parts(fields[1], ";") {
		a.Steps = append(a.Steps, bytesOf(x))
	}
	for _, x := range parts(fields[2], ";") {
		a.Rules = append(a.Rules, bytesOf(x))
	}
	for _, x := range parts(fields[3], ";") {
		words := strings.Fields(x)
		a.Bounds = append(a.Bounds, api.Bound{Col: number(words[0]), Row: number(words[1])})
	}
	return a
}

// told is a list of rules: operations as ops reads them, with ; between two rules.
func told(s string) [][]api.Op {
	var l [][]api.Op
	for _, x := range parts(s, ";") {
		l = append(l, ops(x))
	}
	return l
}

// same is whether two are the same; no matter whether what holds nothing is nil.
func same(a, b api.Air) bool {
	return a.Cols == b.Cols && a.Log == b.Log && slices.Equal(a.Steps, b.Steps) && slices.Equal(a.Rules, b.Rules) && slices.Equal(a.Bounds, b.Bounds)
}

// copied is one that shares nothing with a.
func copied(a api.Air) api.Air {
	a.Steps, a.Rules, a.Bounds = slices.Clone(a.Steps), slices.Clone(a.Rules), slices.Clone(a.Bounds)
	return a
}

// rulesOf is all rules by other means, or the error.
func rulesOf(a api.Air) ([][]api.Op, api.Errno) {
	if a.Cols < 1 || a.Cols > 8 || len(a.Steps) > 0 && len(a.Steps) != a.Cols || len(a.Rules) > 16 {
		return nil, api.ErrArg
	}
	// What is wrong with each step and rule, in order; the first is told in the end.
	var wrong []api.Errno
	var l [][]api.Op
	read := func(s string, next bool) []api.Op {
		parsed, no := code.Parse(s)
		wrong = append(wrong, no)
		_, no = shape.Check(parsed, a.Cols, next)
		wrong = append(wrong, no)
		return parsed
	}
	for c, s := range a.Steps {
		rule := []api.Op{{Kind: 2, N: uint64(c)}}
		rule = append(rule, read(s, false)...)
		l = append(l, append(rule, api.Op{Kind: 5}))
	}
	for _, s := range a.Rules {
		l = append(l, read(s, true))
	}
	if i := slices.IndexFunc(wrong, func(no api.Errno) bool { return no != api.OK }); i >= 0 {
		return nil, wrong[i]
	}
	return l, api.OK
}

// sizes are how many rows there are of each Log that may be.
var sizes = []int{1, 2, 4, 8, 16, 32, 64, 128, 256, 512, 1024}

// checkOf is the error by other means.
func checkOf(a api.Air) api.Errno {
	if a.Log < 0 || a.Log >= len(sizes) || len(a.Bounds) >= 17 {
		return api.ErrArg
	}
	if _, no := rulesOf(a); no != api.OK {
		return no
	}
	seen := map[api.Bound]int{}
	for _, b := range a.Bounds {
		seen[b]++
		if seen[b] > 1 || min(b.Col, b.Row) < 0 || b.Col > a.Cols-1 || b.Row > sizes[a.Log]-1 {
			return api.ErrArg
		}
	}
	return api.OK
}

// degree is a rule's, by other means: as of a tree, from right to left; and what is ahead of all that the last operation takes.
func degree(l []api.Op) (int, []api.Op) {
	o, rest := l[len(l)-1], l[:len(l)-1]
	if o.Kind == api.OpConst {
		return 0, rest
	}
	if o.Kind < api.OpConst {
		return 1, rest
	}
	right, rest := degree(rest)
	left, rest := degree(rest)
	if o.Kind == api.OpMul {
		return left + right, rest
	}
	return max(left, right), rest
}

// degreeOf is the greatest degree by other means.
func degreeOf(a api.Air) int {
	l, _ := rulesOf(a)
	greatest := 1
	for _, rule := range l {
		d, _ := degree(rule)
		greatest = max(greatest, d)
	}
	return greatest
}

// printOf is the bytes by other means.
func printOf(a api.Air) string {
	out := eight(uint64(a.Cols), uint64(a.Log), uint64(len(a.Steps)), uint64(len(a.Rules)), uint64(len(a.Bounds)))
	for _, s := range a.Steps {
		out += eight(uint64(len(s))) + s
	}
	for _, s := range a.Rules {
		out += eight(uint64(len(s))) + s
	}
	for _, b := range a.Bounds {
		out += eight(uint64(b.Col), uint64(b.Row))
	}
	return out
}

// formOf is the one whose bytes s is, by other means, if s has the form.
func formOf(s string) (a api.Air, ok bool) {
	// What isn't there, or is too great, stops the walk.
	defer func() { ok = recover() == nil && s == "" }()
	number := func(most uint64) int {
		n := binary.LittleEndian.Uint64([]byte(s[:8]))
		if n > most {
			panic("too great")
		}
		s = s[8:]
		return int(n)
	}
	text := func() string {
		n := number(4096)
		head := s[:n]
		s = s[n:]
		return head
	}
	a.Cols, a.Log = number(8), number(10)
	a.Steps, a.Rules, a.Bounds = make([]string, number(8)), make([]string, number(16)), make([]api.Bound, number(16))
	for i := range a.Steps {
		a.Steps[i] = text()
	}
	for i := range a.Rules {
		a.Rules[i] = text()
	}
	for i := range a.Bounds {
		a.Bounds[i].Col = number(8)
		a.Bounds[i].Row = number(1024)
	}
	return a, true
}

// parseOf is what a text is parsed as, by other means.
func parseOf(s string) (api.Air, api.Errno) {
	a, ok := formOf(s)
	if !ok {
		return api.Air{}, api.ErrForm
	}
	if no := checkOf(a); no != api.OK {
		return api.Air{}, no
	}
	return a, api.OK
}

// ruled holds what Rules answers; beside an error there are no rules.
func ruled(t *testing.T, a api.Air, want [][]api.Op, no api.Errno) {
	t.Helper()
	got, e := air.Rules(a)
	if e != no || len(got) != len(want) || e != api.OK && len(got) > 0 {
		t.Errorf("Rules of %.300x: %d rules, %d, not %d, %d", printOf(a), len(got), e, len(want), no)
		return
	}
	for i := range got {
		if !slices.Equal(got[i], want[i]) {
			t.Errorf("Rules of %.300x: rule %d is %.300v, not %.300v", printOf(a), i, got[i], want[i])
		}
	}
}

// checked holds what Check answers.
func checked(t *testing.T, a api.Air, no api.Errno) {
	t.Helper()
	if e := air.Check(a); e != no {
		t.Errorf("Check of %.300x: %d, not %d", printOf(a), e, no)
	}
}

// wrong holds that both Rules and Check tell an error, and that what has these bytes is told it too.
func wrong(t *testing.T, a api.Air, no api.Errno) {
	t.Helper()
	ruled(t, a, nil, no)
	checked(t, a, no)
	if _, ok := formOf(printOf(a)); ok {
		unparsed(t, printOf(a), no)
	}
}

// may holds that one may be, with this degree; and all that follows.
func may(t *testing.T, a api.Air, greatest int) {
	t.Helper()
	checked(t, a, api.OK)
	if got := air.Degree(a); got != greatest {
		t.Errorf("Degree of %.300x: %d, not %d", printOf(a), got, greatest)
	}
	if got := air.Parts(a); got != []int{0, 1, 1, 2, 3}[greatest] {
		t.Errorf("Parts of %.300x: %d of the degree %d", printOf(a), got, greatest)
	}
	if got := air.Size(a); got != sizes[a.Log] {
		t.Errorf("Size of %.300x: %d", printOf(a), got)
	}
	parsed(t, printOf(a), a)
	if got := air.Print(a); got != printOf(a) {
		t.Errorf("Print of %.300x: %.300x", printOf(a), got)
	}
}

// parsed holds that a text is parsed as this one.
func parsed(t *testing.T, s string, want api.Air) {
	t.Helper()
	got, no := air.Parse(s)
	if no != api.OK || !same(got, want) {
		t.Errorf("Parse of %d bytes, %.300x: %.300x, %d", len(s), s, printOf(got), no)
	}
}

// unparsed holds that a text is told an error, and nothing beside it.
func unparsed(t *testing.T, s string, no api.Errno) {
	t.Helper()
	got, e := air.Parse(s)
	if e != no || !same(got, api.Air{}) {
		t.Errorf("Parse of %d bytes, %.300x: %.300x, %d, not %d", len(s), s, printOf(got), e, no)
	}
}

// alike holds that all that is told of one is as it is by the other means.
func alike(t *testing.T, a api.Air) {
	t.Helper()
	want, no := rulesOf(a)
	ruled(t, a, want, no)
	if got := air.Print(a); got != printOf(a) {
		t.Errorf("Print of %.300x: %.300x", printOf(a), got)
	}
	no = checkOf(a)
	checked(t, a, no)
	if no == api.OK {
		may(t, a, degreeOf(a))
	}
	alikeText(t, printOf(a))
}

// alikeText holds that a text is parsed as it is by the other means, and that what is parsed has these bytes.
func alikeText(t *testing.T, s string) {
	t.Helper()
	want, no := parseOf(s)
	if no != api.OK {
		unparsed(t, s, no)
		return
	}
	parsed(t, s, want)
	got, _ := air.Parse(s)
	if air.Print(got) != s {
		t.Errorf("there and back, %.300x: %.300x", s, air.Print(got))
	}
}

// some is one that may be, with steps.
func some() api.Air {
	return made("3 2 | c1 ; c2 ; c0 c1 + c2 + | n0 c1 - ; c0 c1 * k5 - ; k7 | 0 0 ; 2 3 ; 1 1")
}

// sum is so many columns put down, and then added up: a stack as deep.
func sum(n int) string { return strings.Repeat("c0 ", n) + strings.Repeat("+ ", n-1) }

// long is a column, and a constant added to it n times: 1 + 2 n operations.
func long(n int) string { return "c0" + strings.Repeat(" k1 +", n) }

// ordinary are n numbers over all 64 bits, always the same ones of one seed.
func ordinary(n int, seed uint64) []uint64 {
	x := 0x9e3779b97f4a7c15 ^ seed<<20
	out := make([]uint64, n)
	for i := range out {
		x ^= x << 13
		x ^= x >> 7
		x ^= x << 17
		out[i] = x
	}
	return out
}

// ends are numbers at the ends of their type, and where they wrap round in a smaller one, or in a shift.
func ends() []int {
	return []int{
		-1, -2, -7, -8, -16, -63, -64, -256, math.MinInt8, math.MinInt16, math.MinInt32, math.MinInt, math.MinInt + 1, math.MinInt + 2, math.MinInt + 10,
		31, 32, 33, 62, 63, 64, 65, 127, 128, 256, 257, 258, 1 << 16, 1<<16 + 2, 1<<31 - 1, 1 << 31, 1 << 32, 1<<32 + 1, 1<<32 + 2, 1 << 40, 1 << 62, math.MaxInt - 1, math.MaxInt,
	}
}

// P18.1, P18.2, the chapter's example: a step that is a sum.
func TestExample(t *testing.T) {
	a := made("2 2 | c1 ; c0 c1 + | | 0 0 ; 1 3")
	ruled(t, a, told("n0 c1 - ; n1 c0 c1 + -"), api.OK)
	may(t, a, 1)
	s := "\x02\x00\x00\x00\x00\x00\x00\x00" + "\x02\x00\x00\x00\x00\x00\x00\x00" + "\x02\x00\x00\x00\x00\x00\x00\x00" + "\x00\x00\x00\x00\x00\x00\x00\x00" + "\x02\x00\x00\x00\x00\x00\x00\x00" +
		"\x02\x00\x00\x00\x00\x00\x00\x00" + "\x01\x01" + "\x05\x00\x00\x00\x00\x00\x00\x00" + "\x01\x00\x01\x01\x04" +
		"\x00\x00\x00\x00\x00\x00\x00\x00" + "\x00\x00\x00\x00\x00\x00\x00\x00" + "\x01\x00\x00\x00\x00\x00\x00\x00" + "\x03\x00\x00\x00\x00\x00\x00\x00"
	if got := air.Print(a); got != s {
		t.Errorf("Print: %x", got)
	}
	parsed(t, s, a)
}

// P18.1, P18.2: ordinary ones, and ones with something wrong, as another program told them.
func TestWritten(t *testing.T) {
	for _, x := range []struct {
		text, bytes, rules   string
		ruled, checked, read api.Errno
		degree               int
	}{
		{"1 0 |  | n0 k2 + + | 0 0", "010000000000000000000000000000000000000000000000010000000000000001000000000000000d000000000000000200030200000000000000040400000000000000000000000000000000", "", api.ErrStack, api.ErrStack, api.ErrStack, 0},
		{"3 0 |  | k18446744069414584320 k2 n0 + - c0 * c0 * c0 * c0 * c0 * x01 | ", "0300000000000000000000000000000000000000000000000100000000000000000000000000000026000000000000000300000000ffffffff0302000000000000000200040501000601000601000601000601000601", "", api.ErrForm, api.ErrForm, api.ErrForm, 0},
		{"4 10 |  | n2 n3 - ; c2 n2 - | 0 129", "04000000000000000a00000000000000000000000000000002000000000000000100000000000000050000000000000002020203050500000000000000010202020500000000000000008100000000000000", "n2 n3 - ; c2 n2 -", api.OK, api.OK, api.OK, 1},
		{"2 1 |  | c0 n1 k18446744069414584320 * c0 * * ; n1 k0 k2 - * | 1 1", "020000000000000001000000000000000000000000000000020000000000000001000000000000001200000000000000010002010300000000ffffffff060100060616000000000000000201030000000000000000030200000000000000050601000000000000000100000000000000", "c0 n1 k18446744069414584320 * c0 * * ; n1 k0 k2 - *", api.OK, api.OK, api.OK, 3},
		{"1 5 |  |  | 0 0", "0100000000000000050000000000000000000000000000000000000000000000010000000000000000000000000000000000000000000000", "", api.OK, api.OK, api.OK, 1},
		{"3 5 | k1 |  | 1 4 ; 2 11 ; 1 31", "0300000000000000050000000000000001000000000000000000000000000000030000000000000009000000000000000301000000000000000100000000000000040000000000000002000000000000000b0000000000000001000000000000001f00000000000000", "", api.ErrArg, api.ErrArg, api.ErrArg, 0},
		{"4 5 | c1 ; c0 ; c3 c2 + ; c2 | n3 n0 + c3 n3 c3 - - + ; c1 n1 * c0 - n1 + | 1 31", "04000000000000000500000000000000040000000000000002000000000000000100000000000000020000000000000001010200000000000000010005000000000000000103010204020000000000000001020e0000000000000002030200040103020301030505040b00000000000000010102010601000502010401000000000000001f00000000000000", "n0 c1 - ; n1 c0 - ; n2 c3 c2 + - ; n3 c2 - ; n3 n0 + c3 n3 c3 - - + ; c1 n1 * c0 - n1 +", api.OK, api.OK, api.OK, 2},
		{"1 0 |  | n0 x07 ; c0 c0 - k2 + c0 | 0 0", "0100000000000000000000000000000000000000000000000200000000000000010000000000000003000000000000000200071100000000000000010001000503020000000000000004010000000000000000000000000000000000", "", api.ErrOp, api.ErrOp, api.ErrOp, 0},
		{"2 0 | k0 c1 c0 + * ; c1 |  | ", "020000000000000000000000000000000200000000000000000000000000000000000000000000000f0000000000000003000000000000000001010100040602000000000000000101", "n0 k0 c1 c0 + * - ; n1 c1 -", api.OK, api.OK, api.OK, 1},
		{"1 10 |  | c0 c0 * n0 - ; n0 n0 c0 k5 - - + | ", "01000000000000000a00000000000000000000000000000002000000000000000000000000000000080000000000000001000100060200051200000000000000020002000100030500000000000000050504", "c0 c0 * n0 - ; n0 n0 c0 k5 - - +", api.OK, api.OK, api.OK, 2},
		{"2 3 | k0 ; c1 k6471575481459274292 k18391902852407163723 + * | n1 c1 * c1 - | 1 7", "020000000000000003000000000000000200000000000000010000000000000001000000000000000900000000000000030000000000000000160000000000000001010334f281cd9ca7cf59034bfb3825332a3dff04060800000000000000020101010601010501000000000000000700000000000000", "n0 k0 - ; n1 c1 k6471575481459274292 k18391902852407163723 + * - ; n1 c1 * c1 -", api.OK, api.OK, api.OK, 2},
		{"1 0 | k8325151028932451657 c0 * | k18446744069414584320 | 0 0", "010000000000000000000000000000000100000000000000010000000000000001000000000000000c0000000000000003491dff94c0e0887301000609000000000000000300000000ffffffff00000000000000000000000000000000", "n0 k8325151028932451657 c0 * - ; k18446744069414584320", api.OK, api.OK, api.OK, 1},
		{"2 0 |  |  | 0 0", "0200000000000000000000000000000000000000000000000000000000000000010000000000000000000000000000000000000000000000", "", api.OK, api.OK, api.OK, 1},
		{"2 5 | c1 ; c1 c0 - |  | ", "020000000000000005000000000000000200000000000000000000000000000000000000000000000200000000000000010105000000000000000101010005", "n0 c1 - ; n1 c1 c0 - -", api.OK, api.OK, api.OK, 1},
		{"1 3 |  | k15511901832454589733 n0 * k5 * | ", "0100000000000000030000000000000000000000000000000100000000000000000000000000000016000000000000000325cd2ff2875845d702000603050000000000000006", "k15511901832454589733 n0 * k5 *", api.OK, api.OK, api.OK, 1},
		{"3 10 |  | c2 | 1 320 ; 1 320", "03000000000000000a00000000000000000000000000000001000000000000000200000000000000020000000000000001020100000000000000400100000000000001000000000000004001000000000000", "c2", api.OK, api.ErrArg, api.ErrArg, 0},
		{"3 0 |  | n0 k1 n2 * k2 * - n0 + ; c0 n1 n2 c1 c2 * - - + c3 + | ", "030000000000000000000000000000000000000000000000020000000000000000000000000000001c000000000000000200030100000000000000020206030200000000000000060502000411000000000000000100020102020101010206050504010304", "", api.ErrOp, api.ErrOp, api.ErrOp, 0},
		{"1 5 |  | c0 c0 - | ", "0100000000000000050000000000000000000000000000000100000000000000000000000000000005000000000000000100010005", "c0 c0 -", api.OK, api.OK, api.OK, 1},
		{"1 5 | c0 c1 + | c0 k18446744069414584320 - n0 - | 0 0 ; 0 28", "01000000000000000500000000000000010000000000000001000000000000000200000000000000050000000000000001000101040f0000000000000001000300000000ffffffff050200050000000000000000000000000000000000000000000000001c00000000000000", "", api.ErrOp, api.ErrOp, api.ErrOp, 0},
		{"9 0 |  | n0 c0 - ; n0 ; k0 c0 c0 + c0 + + | 0 0", "090000000000000000000000000000000000000000000000030000000000000001000000000000000500000000000000020001000502000000000000000200120000000000000003000000000000000001000100040100040400000000000000000000000000000000", "", api.ErrArg, api.ErrArg, api.ErrForm, 0},
		{"1 5 |  | k0 n0 k11922372775947240567 n0 - * - c0 * x0301000000ffffffff | 0 31", "01000000000000000500000000000000000000000000000001000000000000000100000000000000250000000000000003000000000000000002000377841f4edfc674a502000506050100060301000000ffffffff00000000000000001f00000000000000", "", api.ErrForm, api.ErrForm, api.ErrForm, 0},
		{"0 10 | c0 c0 * | x | 0 329 ; 0 565", "00000000000000000a000000000000000100000000000000010000000000000002000000000000000500000000000000010001000600000000000000000000000000000000490100000000000000000000000000003502000000000000", "", api.ErrArg, api.ErrArg, api.ErrArg, 0},
		{"1 63 | k15938302644064618158 c0 c0 * - |  | 0 1 ; 0 0", "01000000000000003f000000000000000100000000000000000000000000000002000000000000000f0000000000000003ae06245ecf3930dd0100010006050000000000000000010000000000000000000000000000000000000000000000", "n0 k15938302644064618158 c0 c0 * - -", api.OK, api.ErrArg, api.ErrForm, 0},
		{"1 10 |  | x03ff n0 k1 n0 + + c0 c0 * - n0 + | ", "01000000000000000a000000000000000000000000000000010000000000000000000000000000001a0000000000000003ff020003010000000000000002000404010001000605020004", "", api.ErrOp, api.ErrOp, api.ErrOp, 0},
		{"3 10 |  | n2 c2 * | 3 0", "03000000000000000a000000000000000000000000000000010000000000000001000000000000000500000000000000020201020603000000000000000000000000000000", "n2 c2 *", api.OK, api.ErrArg, api.ErrArg, 0},
		{"4 5 |  | n1 n3 * x01 | 2 31", "04000000000000000500000000000000000000000000000001000000000000000100000000000000060000000000000002010203060102000000000000001f00000000000000", "", api.ErrForm, api.ErrForm, api.ErrForm, 0},
		{"2 1 | k5 c1 c0 - * ; x |  | 0 1 ; 0 0", "020000000000000001000000000000000200000000000000000000000000000002000000000000000f0000000000000003050000000000000001010100050600000000000000000000000000000000010000000000000000000000000000000000000000000000", "", api.ErrStack, api.ErrStack, api.ErrStack, 0},
		{"2 10 | k0 ; c0 | k5 n1 - c0 | ", "02000000000000000a000000000000000200000000000000010000000000000000000000000000000900000000000000030000000000000000020000000000000001000e000000000000000305000000000000000201050100", "", api.ErrStack, api.ErrStack, api.ErrStack, 0},
		{"2 0 |  | c0 c0 ; k1 n1 * c1 + | 0 0 ; 0 1", "020000000000000000000000000000000000000000000000020000000000000002000000000000000400000000000000010001000f000000000000000301000000000000000201060101040000000000000000000000000000000000000000000000000100000000000000", "", api.ErrStack, api.ErrStack, api.ErrStack, 0},
		{"1 11 |  | k2796926142870449404 c0 - x07 | ", "01000000000000000b000000000000000000000000000000010000000000000000000000000000000d0000000000000003fceccb1882add02601000507", "", api.ErrOp, api.ErrArg, api.ErrForm, 0},
		{"1 1 | c0 c0 - | n0 n0 * x0301000000ffffffff | 0 0", "01000000000000000100000000000000010000000000000001000000000000000100000000000000050000000000000001000100050e0000000000000002000200060301000000ffffffff00000000000000000000000000000000", "", api.ErrForm, api.ErrForm, api.ErrForm, 0},
		{"3 2 | k18446744069414584320 c0 - c1 * ; c1 | n1 k12419707531339996623 * + | ", "030000000000000002000000000000000200000000000000010000000000000000000000000000000f000000000000000300000000ffffffff010005010106020000000000000001010d00000000000000020103cf9dc38332aa5bac0604", "", api.ErrArg, api.ErrArg, api.ErrArg, 0},
	} {
		a := made(x.text)
		ruled(t, a, told(x.rules), x.ruled)
		checked(t, a, x.checked)
		if got := air.Print(a); got != raw(x.bytes) {
			t.Errorf("Print of %s: %x", x.text, got)
		}
		if x.checked == api.OK {
			may(t, a, x.degree)
		}
		if x.read == api.OK {
			parsed(t, raw(x.bytes), a)
		} else {
			unparsed(t, raw(x.bytes), x.read)
		}
	}
}

// P18.2: bytes of ordinary ones of which one or two are others, more or fewer, as another program told them.
func TestParseWritten(t *testing.T) {
	for _, x := range []struct {
		bytes string
		no    api.Errno
	}{
		{"010000000000000005000000000000000000000000000000020000000000000000000000000000000c000000000000000100030500000000000000060f00000000000000010003010005000000000002000506", api.OK},
		{"01000000000000000000010000000000000000000000000002000000000000000000000005000000001200000000000000020001000401000300000000ffffffff06040f00000000000000010003010000000000000001000405", api.ErrForm},
		{"01000000000000000300000000000000000000000000000000000000000000000200000000000000000000000000000004000000000000000000000000000000070000000000000000", api.ErrForm},
		{"0800000000000000020000000000000002000000000000000100000000000000000000000000000009000000000000000301000000000000001600000000000000037d8f64acb1646032010103000000000000000006060900000000000000030200000000000000", api.ErrArg},
		{"02000000000000000a0000000000000002000000000000000100000000000000000000000000000005000000000000000100010104080000000000000001010101010004050f00000000000000020003", api.ErrForm},
		{"01000000000000000000000000000000010000000000000001000000000000000000000000000000050000000000000001000100040b00000000000000010002000200040503050000000000000006010004", api.ErrForm},
		{"03000000000000000a000000000000000300000000000000050000000000000000000000000000000800000000000000010101000601000502000000000000000100020000000000000001020c00000000000000020203020000000000", api.ErrForm},
		{"020000000000000002000000000000000000000000000000ff000000000000000200000000000000021900000000000000010003020000000000000003000000000000000005040100040000000000000000020000000000000001000000000000000100000000000000", api.ErrForm},
		{"000000000000000000000000000000020000000000000001000000000000000100000000000000020000000000000001000c00000000000000030e839b6dfcfe46390100060f00", api.ErrForm},
		{"04000000000000000100000000000000000000000000000001000000000000000000000000000000120000000000000002000300000000ffffffff060200020205060000000000000000", api.ErrForm},
		{"010000000000000002000000000000000000000000000000000000000000000002000000000000000000000000000000", api.ErrForm},
		{"02000000000000000100000000000000020000000000000001000000000000000100000000000000080000000000000001000101060101040f00000000000000010001000300000000ffffffff04050500000000000000020001000400000000000000000000000000000000", api.OK},
		{"01000000000000000600000000000000010000000000000001000000000000000100000000000000080000000000000001000100010006060200000000000000010000000000000000000000000000000000", api.OK},
		{"02000000000000000500000000000000000000000000000002000000000000000100000000000000050000000000000001010201060b00000000000000020101000501000100040408000000000000001f00000000000000", api.ErrArg},
		{"010000000000000002000000000000000100000000000000010000000000000000000000000000000c000000000000000100030100000000050000062000000000000000035c7244d2566b79020300000000ffffffff020004060339cc54dda35a955804", api.OK},
		{"010000000000000003000000000000000000000000000000030000000000000001000000000000000200000000000000010008000000000000000200020002000605090000000000000003050000000003000000000000000000000300000000000000", api.OK},
		{"01000000000000000000000000000000000000000000000001000000000000000100000000000000150000000000000001000302000000000800000402000200040100050600000000000000000000000000000000", api.OK},
		{"03000000000000000a000000000000000200000000000000000000000000000000000000000000000500000000000000010001010405000000000000000100010006", api.ErrArg},
		{"01000000000000000100000000000000010000000000000002000000000000000100000000000000050000000000000000000100040e0000000000000001000200020002000501000506050200000000000000010000000000000000000100000000000000", api.ErrOp},
		{"01000000000000000500000000000000010000000000000003000000000000000100000000000000020000000000000001000500000000000000020002000405000000000000000200020004080000000000000002000200ff02000600000000000000001b00000000000000", api.ErrOp},
		{"01000000000000000a0000000000000000000000000000000200000000000000010000000000000009000000000000000b00000000ffffffff19000000000000000300000000ffffffff0200060305000000000000000602000500000000000000000000000000000000", api.ErrOp},
		{"0100000000000000020000000000000000000000000000000200000000000000010000000000000019000000000000000300000000ffffffff030100000000000000050100020004090800000000000000010001000200060500000000000000000000000000000000", api.ErrOp},
		{"0300000000000000030000000000000002000000000000000100000000000000000000000000000005000000000000000100010004050000000000000001010101040c00000000000000020103010000000000000004", api.ErrArg},
		{"020000000000000000000000000000000000000000000000010000000000000002000000000000000c000000000000000b010300010000ffffffff050000000000000000000000000000000001000000000000000000000000000000", api.ErrOp},
		{"0100000000000000050000000000000001000000000000000200000000000000010000000000000002000000000000000500080000000000000001000100060201041200000000000000035a79a8b77d16147e02000502000402000500000000000000000000000000000000", api.ErrOp},
		{"0300000000000000050000000000000000000000000000000100000000000000030000000000000008000000000000000200010002000605000000000000000000000000000000000100000000000000ff0000000000000001000000000000000400000000000000", api.ErrArg},
		{"050000000000000005000000000000000100000000000000000000000000000002000000000000000f0000000000000001000300000000ffffffff050100040000000000000000020000000000000000000000000000001500000000000000", api.ErrArg},
		{"020000000000000002000000000000000200000000000000010000000000000001000000000000000200000000000000010102000000000000000101150000000000000003a1708196b7343f7801000603000602000201060500000000000000000300000000000000", api.ErrStack},
		{"080000000000000000000000000000000000000000000000010000000000000002000000000000001c00000000000000060603a202bde1083716cf05030100000000000000010105010404040200000000000000000000000000000003000000000000000000000000000000", api.ErrStack},
		{"040000000000000003000000000000000000000000000000010000000000000000000000000000000e000000000000000300010002010103060604020004", api.ErrStack},
	} {
		if _, no := air.Parse(raw(x.bytes)); no != x.no {
			t.Errorf("Parse of %s: %d, not %d", x.bytes, no, x.no)
		}
		alikeText(t, raw(x.bytes))
	}
}

// P18.1: of a Log there are as many rows, and from 0 to 10 alone it may be; the rules don't hang on it.
func TestLog(t *testing.T) {
	for log, size := range sizes {
		a := api.Air{Cols: 1, Log: log}
		may(t, a, 1)
		if got := air.Size(a); got != size {
			t.Errorf("Size of Log %d: %d", log, got)
		}
	}
	for _, log := range append(ends(), -1, 11, 12) {
		a := some()
		want, _ := rulesOf(a)
		a.Log = log
		checked(t, a, api.ErrArg)
		ruled(t, a, want, api.OK)
		unparsed(t, printOf(a), api.ErrForm)
		a.Bounds = nil
		checked(t, a, api.ErrArg)
		a.Rules, a.Steps = nil, nil
		checked(t, a, api.ErrArg)
		air.Size(a)
	}
}

// P18.1: from 1 to 8 columns there may be, whatever the rules ask for.
func TestCols(t *testing.T) {
	for cols := 1; cols <= 8; cols++ {
		a := api.Air{Cols: cols, Log: 3}
		may(t, a, 1)
		ruled(t, a, nil, api.OK)
		for c := range 10 {
			number := strconv.Itoa(c)
			a.Rules = []string{bytesOf("k1"), bytesOf("n" + number + " c" + number + " *")}
			if c < cols {
				may(t, a, 2)
			} else {
				wrong(t, a, api.ErrOp)
			}
		}
	}
	for _, cols := range append(ends(), -1, 0, 9, 10) {
		for _, a := range []api.Air{{}, {Rules: []string{bytesOf("k1")}}, {Rules: []string{bytesOf("c0")}}, some()} {
			a.Cols = cols
			wrong(t, a, api.ErrArg)
			if cols != 0 {
				unparsed(t, printOf(a), api.ErrForm)
			}
		}
	}
	nine := api.Air{Cols: 9, Steps: slices.Repeat([]string{bytesOf("c0")}, 9)}
	wrong(t, nine, api.ErrArg)
	unparsed(t, printOf(nine), api.ErrForm)
}

// P18.1: there are no steps, or as many as columns; the one of each column is of that one.
func TestSteps(t *testing.T) {
	for cols := 1; cols <= 8; cols++ {
		for n := range 20 {
			a := api.Air{Cols: cols, Log: 1, Steps: slices.Repeat([]string{bytesOf("c0 k3 *")}, n), Rules: []string{bytesOf("n0")}}
			if n != 0 && n != cols {
				wrong(t, a, api.ErrArg)
				continue
			}
			var want [][]api.Op
			for c := range n {
				want = append(want, ops("n"+strconv.Itoa(c)+" c0 k3 * -"))
			}
			ruled(t, a, append(want, ops("n0")), api.OK)
			may(t, a, 1)
			a.Rules = nil
			ruled(t, a, want, api.OK)
			may(t, a, 1)
		}
	}
	// With no columns there are as many steps as columns: none; with others than there may be, likewise.
	for _, a := range []api.Air{{}, {Cols: -1}, {Cols: 9, Steps: make([]string, 9)}, {Cols: 17, Steps: make([]string, 17)}} {
		wrong(t, a, api.ErrArg)
	}
	a := made("8 1 | c7 ; c6 ; c5 ; c4 ; c3 ; c2 ; c1 ; c0 | n7 ; c3 k2 -")
	ruled(t, a, told("n0 c7 - ; n1 c6 - ; n2 c5 - ; n3 c4 - ; n4 c3 - ; n5 c2 - ; n6 c1 - ; n7 c0 - ; n7 ; c3 k2 -"), api.OK)
	may(t, a, 1)
}

// P18.1: up to 16 rules there may be, beside the steps.
func TestManyRules(t *testing.T) {
	for _, steps := range [][]string{nil, {}, {bytesOf("c1"), bytesOf("c0 c1 +")}} {
		for n := range 40 {
			a := api.Air{Cols: 2, Log: 2, Steps: steps}
			for i := range n {
				a.Rules = append(a.Rules, bytesOf("k"+strconv.Itoa(i)+" n1 -"))
			}
			if n > 16 {
				wrong(t, a, api.ErrArg)
				unparsed(t, printOf(a), api.ErrForm)
				continue
			}
			alike(t, a)
			may(t, a, 1)
			l, _ := air.Rules(a)
			if len(l) != len(steps)+n {
				t.Errorf("%d rules of %d and %d", len(l), len(steps), n)
			}
		}
	}
}

// P18.1: up to 16 Bounds there may be.
func TestManyBounds(t *testing.T) {
	for n := range 40 {
		a := some()
		a.Bounds = nil
		a.Log = 6
		for i := range n {
			a.Bounds = append(a.Bounds, api.Bound{Col: i % 3, Row: i})
		}
		if n <= 16 {
			may(t, a, 2)
			continue
		}
		want, _ := rulesOf(a)
		ruled(t, a, want, api.OK)
		checked(t, a, api.ErrArg)
		unparsed(t, printOf(a), api.ErrForm)
	}
}

// P18.1: Bounds are of columns and rows that there are.
func TestBounds(t *testing.T) {
	for cols := 1; cols <= 8; cols++ {
		for log := range 11 {
			last := 1<<log - 1
			for _, x := range []struct {
				b    api.Bound
				good bool
			}{
				{api.Bound{}, true}, {api.Bound{Col: cols - 1}, true}, {api.Bound{Row: last}, true}, {api.Bound{Col: cols - 1, Row: last}, true},
				{api.Bound{Col: cols}, false}, {api.Bound{Row: last + 1}, false}, {api.Bound{Col: cols, Row: last}, false}, {api.Bound{Col: cols - 1, Row: last + 1}, false}, {api.Bound{Col: cols, Row: last + 1}, false},
				{api.Bound{Col: -1}, false}, {api.Bound{Row: -1}, false}, {api.Bound{Col: -1, Row: -1}, false}, {api.Bound{Col: -1, Row: last}, false}, {api.Bound{Col: cols - 1, Row: -1}, false},
			} {
				for _, more := range [][]api.Bound{nil, {{Row: last / 2}}} {
					if slices.Contains(more, x.b) {
						continue
					}
					for _, bounds := range [][]api.Bound{append([]api.Bound{x.b}, more...), append(slices.Clone(more), x.b)} {
						a := api.Air{Cols: cols, Log: log, Rules: []string{bytesOf("c0 n0 -")}, Bounds: bounds}
						alike(t, a)
						if x.good {
							may(t, a, 1)
						} else {
							ruled(t, a, told("c0 n0 -"), api.OK)
							checked(t, a, api.ErrArg)
						}
					}
				}
			}
		}
	}
	for _, n := range ends() {
		for _, b := range []api.Bound{{Col: n}, {Row: n}, {Col: n, Row: n}} {
			a := api.Air{Cols: 8, Log: 4, Bounds: []api.Bound{b}}
			checked(t, a, api.ErrArg)
			alike(t, a)
		}
	}
}

// P18.1: no two Bounds are the same, at whatever places they stand; of one column, or of one row, there may be many.
func TestSameBounds(t *testing.T) {
	var all []api.Bound
	for i := range 16 {
		all = append(all, api.Bound{Col: i % 4, Row: i / 4})
	}
	a := api.Air{Cols: 4, Log: 2, Bounds: all}
	may(t, a, 1)
	for i := range all {
		for j := range all {
			if i == j {
				continue
			}
			b := copied(a)
			b.Bounds[i] = b.Bounds[j]
			ruled(t, b, nil, api.OK)
			checked(t, b, api.ErrArg)
			unparsed(t, printOf(b), api.ErrArg)
			b.Bounds = []api.Bound{all[i], all[j]}
			may(t, b, 1)
			b.Bounds = []api.Bound{all[i], all[j], all[i]}
			checked(t, b, api.ErrArg)
		}
	}
	for _, s := range []string{"2 1 | | | 0 0 ; 0 1", "2 1 | | | 0 1 ; 0 0", "2 1 | | | 0 1 ; 1 1", "2 1 | | | 1 0 ; 0 0", "2 1 | | | 0 1 ; 1 0", "2 1 | | | 0 0 ; 0 1 ; 1 0 ; 1 1"} {
		may(t, made(s), 1)
	}
	for _, s := range []string{"2 1 | | | 0 0 ; 0 0", "2 1 | | | 1 1 ; 1 1", "2 1 | | | 1 0 ; 0 1 ; 1 0", "1 0 | | | 0 0 ; 0 0", "2 1 | | | 1 1 ; 1 1 ; 1 1"} {
		checked(t, made(s), api.ErrArg)
		unparsed(t, printOf(made(s)), api.ErrArg)
	}
}

// P18.1: a step doesn't read the next row, another rule may.
func TestNext(t *testing.T) {
	for _, s := range []string{"n0", "n1 c0 +", "c1 n0 -", "n0 n1 *", "k3 k4 n1 * +"} {
		wrong(t, made("2 1 | "+s+" ; c0"), api.ErrOp)
		wrong(t, made("2 1 | c0 ; "+s), api.ErrOp)
		wrong(t, made("2 1 | c0 ; "+s+" | "+s), api.ErrOp)
		a := made("2 1 | c0 ; c1 | " + s)
		ruled(t, a, append(told("n0 c0 - ; n1 c1 -"), ops(s)), api.OK)
		may(t, a, degreeOf(a))
		own := strings.ReplaceAll(s, "n", "c")
		b := made("2 1 | " + own + " ; c1 | " + own)
		ruled(t, b, [][]api.Op{ops("n0 " + own + " -"), ops("n1 c1 -"), ops(own)}, api.OK)
		may(t, b, degreeOf(b))
	}
}

// wrongs are texts of rules with something wrong, of two columns: each with its error.
func wrongs() map[string]api.Errno {
	return map[string]api.Errno{
		"x00":                            api.ErrOp,
		"x07":                            api.ErrOp,
		"xff":                            api.ErrOp,
		"c0 x09":                         api.ErrOp,
		"c2":                             api.ErrOp,
		"n2":                             api.ErrOp,
		"c0 c255 +":                      api.ErrOp,
		"x01":                            api.ErrForm,
		"c0 x02":                         api.ErrForm,
		"c0 x0300":                       api.ErrForm,
		"x0301000000ffffffff":            api.ErrForm,
		"c0 c1 x03ffffffffffffffff":      api.ErrForm,
		"x":                              api.ErrStack,
		"+":                              api.ErrStack,
		"c0 -":                           api.ErrStack,
		"c0 c1":                          api.ErrStack,
		"c0 c1 + *":                      api.ErrStack,
		sum(17):                          api.ErrStack,
		"c0 c0 * c0 * c0 * c0 *":         api.ErrDegree,
		"c0 c1 * c0 c1 * * c0 * k0 *":    api.ErrDegree,
		long(128):                        api.ErrLimit,
		strings.Repeat("k1 ", 257):       api.ErrLimit,
		strings.Repeat("c9 ", 257):       api.ErrLimit,
		strings.Repeat("+ ", 4096):       api.ErrLimit,
		strings.Repeat("k1 ", 256) + "x": api.ErrStack,
		strings.Repeat("+ ", 256):        api.ErrStack,
		// Of two in one text: what layer 15 tells comes ahead of what layer 16 tells.
		"+ x07":                 api.ErrOp,
		"+ x01":                 api.ErrForm,
		"c5 x0300":              api.ErrForm,
		"+ c5":                  api.ErrStack,
		"c5 +":                  api.ErrOp,
		"c0 c0 c0 x03":          api.ErrForm,
		"x0703":                 api.ErrOp,
		"x0301000000ffffffff07": api.ErrForm,
	}
}

// P18.1: texts that layer 15 doesn't parse, and operations that layer 16 doesn't take, in each step and in each other rule.
func TestWrongRules(t *testing.T) {
	for s, no := range wrongs() {
		for _, where := range []string{"2 1 | @ ; c0", "2 1 | c0 ; @", "2 1 | | @", "2 1 | | c0 ; @ ; c1", "2 1 | c0 ; c1 | @", "2 1 | c0 ; c1 | c1 ; c0 ; @", "2 1 | c0 ; @ | c1 ; n0 | 0 1", "2 1 | @ ; @ | @ ; @ | 0 0"} {
			wrong(t, made(strings.ReplaceAll(where, "@", s)), no)
		}
	}
}

// P18.1: of two that are wrong, the first is told: of the steps, then of the rules, each whole ahead of the one behind it.
func TestFirstRule(t *testing.T) {
	all := wrongs()
	for s, no := range all {
		for other := range all {
			for _, where := range []string{"2 1 | @ ; ?", "2 1 | c0 ; @ | ?", "2 1 | @ ; c0 | c0 ; ?", "2 1 | | @ ; ?", "2 1 | | c0 ; @ ; n1 ; ?"} {
				a := made(strings.ReplaceAll(strings.ReplaceAll(where, "@", s), "?", other))
				ruled(t, a, nil, no)
				checked(t, a, no)
			}
		}
	}
}

// P18.1: Log and how many Bounds there are come ahead of the rules; columns and how many steps and rules there are ahead of what these are; where the Bounds are comes last.
func TestFirst(t *testing.T) {
	for s, no := range wrongs() {
		a := made("2 1 | " + s + " ; c0 | | 0 0")
		for _, log := range []int{-1, 11} {
			b := a
			b.Log = log
			ruled(t, b, nil, no)
			checked(t, b, api.ErrArg)
		}
		b := a
		b.Bounds = make([]api.Bound, 17)
		ruled(t, b, nil, no)
		checked(t, b, api.ErrArg)
		b = a
		b.Rules = make([]string, 17)
		wrong(t, b, api.ErrArg)
		for _, cols := range []int{-1, 0, 1, 3, 8, 9} {
			b := a
			b.Cols = cols
			wrong(t, b, api.ErrArg)
		}
		b = a
		b.Steps = b.Steps[:1]
		wrong(t, b, api.ErrArg)
		for _, bound := range []api.Bound{{Col: 2}, {Col: -1}, {Row: 2}, {Row: -1}, {}} {
			b := a
			b.Bounds = []api.Bound{{}, bound}
			wrong(t, b, no)
			b.Steps = nil
			b.Rules = []string{bytesOf("c0"), bytesOf(s)}
			wrong(t, b, no)
		}
	}
}

// P18.1: a step may have as many operations, as deep a stack and as great a degree as another rule, though as a rule it has two more, one more, and another.
func TestGreatSteps(t *testing.T) {
	for _, s := range []string{long(127), sum(16), "c0 c0 * c0 * c0 *", sum(16) + strings.Repeat(" k1 +", 112), strings.Repeat("c0 ", 16) + "* * *" + strings.Repeat(" +", 12) + strings.Repeat(" k1 +", 112)} {
		rule := ops(s)
		greatest, no := shape.Check(rule, 1, false)
		if no != api.OK || len(rule)%2 != 1 {
			t.Fatalf("%d operations: %d", len(rule), no)
		}
		a := made("1 4 | " + s + " | n0")
		ruled(t, a, [][]api.Op{ops("n0 " + s + " -"), ops("n0")}, api.OK)
		may(t, a, max(1, greatest))
		b := made("1 4 | | n0 ; " + s)
		ruled(t, b, [][]api.Op{ops("n0"), rule}, api.OK)
		may(t, b, max(1, greatest))
	}
	l, _ := air.Rules(made("1 4 | " + long(127)))
	if len(l) != 1 || len(l[0]) != 257 {
		t.Errorf("a step of 255 operations: %d", len(l))
	}
	wrong(t, made("1 4 | "+long(127)+" k1"), api.ErrStack)
	wrong(t, made("1 4 | "+long(127)+" +"), api.ErrStack)
	wrong(t, made("1 4 | "+long(128)), api.ErrLimit)
	wrong(t, made("1 4 | "+sum(17)), api.ErrStack)
	wrong(t, made("1 4 | c0 c0 * c0 * c0 * c0 *"), api.ErrDegree)
}

// P18.1: the degree is the greatest of all, wherever it stands, 1 at least; there is a part fewer, 1 at least.
func TestDegree(t *testing.T) {
	powers := []string{"k5", "c0", "c0 c1 *", "c0 c1 * c0 *", "c0 c1 * c0 * c1 *", "c0 c1 * c0 * c1 * c0 *"}
	for d, s := range powers {
		for _, where := range []string{"2 1 | | @", "2 1 | c1 ; c0 | @", "2 1 | @ ; c1", "2 1 | c0 ; @ | c0", "2 1 | | @ ; k1 ; c0", "2 1 | | k1 ; c0 ; @", "2 1 | @ ; @ | @ ; @", "2 1 | k1 ; @ | k1 k2 - | 0 0"} {
			a := made(strings.ReplaceAll(where, "@", s))
			if d == 5 {
				wrong(t, a, api.ErrDegree)
				continue
			}
			may(t, a, max(1, d))
		}
	}
	for a, s := range powers[:5] {
		for b, r := range powers[:5] {
			may(t, made("2 1 | | "+s+" ; "+r), max(a, b, 1))
			may(t, made("2 1 | "+s+" ; "+r), max(a, b, 1))
			may(t, made("2 1 | "+s+" ; k1 | "+r), max(a, b, 1))
			one := made("2 1 | | " + s + " " + r + " *")
			if a+b > 4 {
				wrong(t, one, api.ErrDegree)
			} else {
				may(t, one, max(a+b, 1))
			}
		}
	}
	// With no rules at all.
	for cols := 1; cols <= 8; cols++ {
		may(t, api.Air{Cols: cols, Steps: []string{}, Rules: []string{}, Bounds: []api.Bound{}}, 1)
		may(t, api.Air{Cols: cols, Log: 10, Bounds: []api.Bound{{Row: 1023}}}, 1)
	}
}

// P18.1: of rows that a step made, its rule leaves 0, and of others it doesn't.
func TestSense(t *testing.T) {
	l, no := air.Rules(made("2 2 | c1 ; c0 c1 * k3 +"))
	if no != api.OK || len(l) != 2 {
		t.Fatalf("%d rules, %d", len(l), no)
	}
	for _, x := range []struct{ cur, next, want [2]uint64 }{
		{[2]uint64{2, 5}, [2]uint64{5, 13}, [2]uint64{0, 0}},
		{[2]uint64{5, 13}, [2]uint64{13, 68}, [2]uint64{0, 0}},
		{[2]uint64{5, 13}, [2]uint64{14, 68}, [2]uint64{1, 0}},
		{[2]uint64{5, 13}, [2]uint64{12, 70}, [2]uint64{api.P - 1, 2}},
	} {
		for c := range l {
			if got := eval.At(l[c], x.cur[:], x.next[:]); got != x.want[c] {
				t.Errorf("column %d of %d, %d: %d", c, x.cur, x.next, got)
			}
		}
	}
}

// P1, P18.2: any one is printed, whatever it holds.
func TestPrint(t *testing.T) {
	many := api.Air{Cols: math.MinInt, Log: math.MaxInt, Steps: make([]string, 300), Rules: slices.Repeat([]string{"\x00\xff", "", strings.Repeat("x", 70000)}, 8), Bounds: slices.Repeat([]api.Bound{{Col: -1, Row: math.MinInt}, {Col: 255, Row: 256}}, 150)}
	for _, a := range []api.Air{{}, {Cols: -1, Log: -1}, some(), many, {Steps: []string{"abc", ""}}, {Rules: []string{"", "abc"}}, {Bounds: []api.Bound{{Col: 1, Row: 2}, {Col: -3, Row: -4}}}} {
		alike(t, a)
	}
	for s, want := range map[string]string{
		"0 0":                    "0000000000000000 0000000000000000 0000000000000000 0000000000000000 0000000000000000",
		"-1 -2":                  "ffffffffffffffff feffffffffffffff 0000000000000000 0000000000000000 0000000000000000",
		"258 1":                  "0201000000000000 0100000000000000 0000000000000000 0000000000000000 0000000000000000",
		"7 9 | x | xaabb ; x07":  "0700000000000000 0900000000000000 0100000000000000 0200000000000000 0000000000000000 0000000000000000 0200000000000000 aabb 0100000000000000 07",
		"1 2 | xaa ; xbbcc | x":  "0100000000000000 0200000000000000 0200000000000000 0100000000000000 0000000000000000 0100000000000000 aa 0200000000000000 bbcc 0000000000000000",
		"1 2 | | | 3 4 ; -1 260": "0100000000000000 0200000000000000 0000000000000000 0000000000000000 0200000000000000 0300000000000000 0400000000000000 ffffffffffffffff 0401000000000000",
	} {
		if got := air.Print(made(s)); got != raw(strings.ReplaceAll(want, " ", "")) {
			t.Errorf("Print of %s: %x", s, got)
		}
	}
	// A text that stands among the steps, or among the rules, or is two: each has other bytes.
	seen := map[string]int{}
	for _, s := range []string{"1 1 | c0", "1 1 | | c0", "1 1 | c0 ; c0", "1 1 | c0 | c0", "1 1 | | c0 ; c0", "1 1 | c0 c0", "1 1 | | c0 c0", "1 1 | x ; c0", "1 1 | c0 ; x", "1 1 | x | c0", "1 1 | c0 | x", "1 1 | | | 0 1", "1 1 | | | 1 0"} {
		seen[air.Print(made(s))]++
	}
	if len(seen) != 13 {
		t.Errorf("%d unlike texts of 13", len(seen))
	}
}

// P18.2: no text of fewer bytes than there must be is one, nor one of more.
func TestLengths(t *testing.T) {
	unparsed(t, "", api.ErrForm)
	for _, a := range []api.Air{some(), {Cols: 1}, made("1 0 | c0"), made("1 0 | | c0"), made("1 0 | | | 0 0"), made("8 10 | | c7 k5 * n0 - ; k9 | 7 1023 ; 0 512")} {
		s := printOf(a)
		may(t, a, degreeOf(a))
		for k := range len(s) {
			unparsed(t, s[:k], api.ErrForm)
		}
		for _, more := range []string{"\x00", "\x01", "\xff", "x", eight(0), eight(1), eight(0, 0), eight(1, 0), eight(0)[:7], s, strings.Repeat("\x00", 1000)} {
			unparsed(t, s+more, api.ErrForm)
			unparsed(t, more+s, api.ErrForm)
		}
	}
	for n := range 200 {
		for _, b := range []string{"\x00", "\x01", "\x08", "\xff", "\x80"} {
			alikeText(t, strings.Repeat(b, n))
		}
	}
	unparsed(t, strings.Repeat("\xff", 1<<20), api.ErrForm)
	unparsed(t, strings.Repeat("\x00", 1<<20), api.ErrForm)
	unparsed(t, printOf(some())+strings.Repeat("\x00", 1<<20), api.ErrForm)
}

// greats are numbers above a limit, up to the greatest, and some that are small in their lowest bits.
func greats(limit uint64) []uint64 {
	return []uint64{
		limit + 1, limit + 2, limit + 255, limit + 256, limit + 1<<16, 1<<31 - 1, 1 << 31, 1 << 32, limit + 1<<32, 1<<32 + 1, 1<<61 + limit, 1<<62 + 1, 1<<63 - 1, 1 << 63, 1<<63 + limit, 1<<63 + 1, top - 8, top - 7, top - 1, top,
	}
}

// P18.2: of each field a number up to its limit is of the form, and none above it.
func TestLimits(t *testing.T) {
	// Of this text, the numbers at these places: Cols, Log, how many Steps, Rules, Bounds, bytes of a step and a rule, a column, a row.
	s := printOf(made("1 10 | c0 | c0 | 0 5"))
	for _, x := range []struct {
		at    int
		limit uint64
	}{{0, 8}, {8, 10}, {16, 8}, {24, 16}, {32, 16}, {40, 4096}, {50, 4096}, {60, 8}, {68, 1024}} {
		with := func(n uint64) string { return s[:x.at] + eight(n) + s[x.at+8:] }
		for _, n := range greats(x.limit) {
			unparsed(t, with(n), api.ErrForm)
			unparsed(t, with(n)+strings.Repeat("\x00", 5000), api.ErrForm)
			unparsed(t, with(n)[:x.at+8], api.ErrForm)
		}
		for n := range min(x.limit, 40) + 1 {
			alikeText(t, with(n))
		}
		alikeText(t, with(x.limit-1))
		alikeText(t, with(x.limit))
	}
	// Each at its limit, and above it, with all that it calls for; of the form there are those that may not be too.
	text := "\x01\x00"
	for _, x := range []struct {
		a  api.Air
		no api.Errno
	}{
		{api.Air{Cols: 8, Log: 10}, api.OK},
		{api.Air{Cols: 9}, api.ErrForm},
		{api.Air{Cols: 0}, api.ErrArg},
		{api.Air{Cols: 1, Log: 11}, api.ErrForm},
		{api.Air{Cols: 8, Steps: slices.Repeat([]string{text}, 8)}, api.OK},
		{api.Air{Cols: 8, Steps: slices.Repeat([]string{text}, 7)}, api.ErrArg},
		{api.Air{Cols: 7, Steps: slices.Repeat([]string{text}, 8)}, api.ErrArg},
		{api.Air{Cols: 8, Steps: slices.Repeat([]string{text}, 9)}, api.ErrForm},
		{api.Air{Cols: 0, Steps: slices.Repeat([]string{text}, 8)}, api.ErrArg},
		{api.Air{Cols: 8, Rules: slices.Repeat([]string{text}, 16)}, api.OK},
		{api.Air{Cols: 8, Rules: slices.Repeat([]string{text}, 17)}, api.ErrForm},
		{api.Air{Cols: 0, Rules: slices.Repeat([]string{"\x07"}, 16)}, api.ErrArg},
		{api.Air{Cols: 1, Bounds: make([]api.Bound, 16)}, api.ErrArg},
		{api.Air{Cols: 1, Bounds: make([]api.Bound, 17)}, api.ErrForm},
		{api.Air{Cols: 8, Bounds: []api.Bound{{Col: 7}}}, api.OK},
		{api.Air{Cols: 8, Bounds: []api.Bound{{Col: 8}}}, api.ErrArg},
		{api.Air{Cols: 8, Bounds: []api.Bound{{Col: 9}}}, api.ErrForm},
		{api.Air{Cols: 1, Bounds: []api.Bound{{Col: 8}}}, api.ErrArg},
		{api.Air{Cols: 1, Log: 10, Bounds: []api.Bound{{Row: 1023}}}, api.OK},
		{api.Air{Cols: 1, Log: 10, Bounds: []api.Bound{{Row: 1024}}}, api.ErrArg},
		{api.Air{Cols: 1, Log: 10, Bounds: []api.Bound{{Row: 1025}}}, api.ErrForm},
		{api.Air{Cols: 1, Bounds: []api.Bound{{Row: 1024}}}, api.ErrArg},
		{api.Air{Cols: 1, Bounds: []api.Bound{{Col: -1}}}, api.ErrForm},
		{api.Air{Cols: 1, Bounds: []api.Bound{{Row: -1}}}, api.ErrForm},
	} {
		if x.no == api.OK {
			may(t, x.a, 1)
			continue
		}
		unparsed(t, printOf(x.a), x.no)
		checked(t, x.a, api.ErrArg)
	}
}

// P18.2: texts of rules of up to 4096 bytes are of the form, though no rule that may be is as long; of more none is.
func TestLongTexts(t *testing.T) {
	whole := strings.Repeat("\x03"+eight(api.P-1), 128) + strings.Repeat("\x04", 127)
	constants := strings.Repeat("\x03"+eight(1), 300)
	for _, x := range []struct {
		text string
		no   api.Errno
	}{
		{strings.Repeat("\x04", 4095), api.ErrLimit}, {strings.Repeat("\x04", 4096), api.ErrLimit}, {strings.Repeat("\x04", 4097), api.ErrForm}, {strings.Repeat("\x04", 5000), api.ErrForm},
		{strings.Repeat("\x07", 4096), api.ErrOp}, {strings.Repeat("\x07", 4097), api.ErrForm}, {strings.Repeat("\x07", 1<<16), api.ErrForm},
		{strings.Repeat("\x01", 4096), api.ErrLimit}, {strings.Repeat("\x01", 511), api.ErrForm}, {strings.Repeat("\x01", 512), api.ErrOp},
		{constants[:9*256], api.ErrStack}, {constants[:9*257], api.ErrLimit}, {constants[:9*16], api.ErrStack}, {constants[:9], api.OK}, {constants[:10], api.ErrForm},
		{whole, api.ErrStack}, {"", api.ErrStack},
	} {
		for _, a := range []api.Air{{Cols: 1, Steps: []string{x.text}}, {Cols: 1, Rules: []string{x.text}}, {Cols: 1, Rules: []string{"\x01\x00", x.text, "\x01\x00"}, Bounds: []api.Bound{{}}}} {
			if x.no == api.OK {
				may(t, a, 1)
			} else {
				unparsed(t, printOf(a), x.no)
			}
			alike(t, a)
		}
	}
	// As many of the longest as there may be, and all others at their ends.
	a := api.Air{Cols: 8, Log: 10, Steps: slices.Repeat([]string{bytesOf(long(127))}, 8), Rules: slices.Repeat([]string{bytesOf("n7" + strings.Repeat(" k18446744069414584320 +", 127))}, 16)}
	for i := range 16 {
		a.Bounds = append(a.Bounds, api.Bound{Col: i / 2, Row: i % 2 * 1023})
	}
	may(t, a, 1)
	alike(t, a)
	a.Rules[15] += "\x04"
	wrong(t, a, api.ErrStack)
	unparsed(t, printOf(a), api.ErrStack)
	a.Rules[15] = strings.Repeat("\x04", 4096)
	unparsed(t, printOf(a), api.ErrLimit)
	a.Rules[15] += "\x04"
	unparsed(t, printOf(a), api.ErrForm)
	wrong(t, a, api.ErrLimit)
}

// P18.2: that bytes are of no one comes ahead of what is wrong with one; Check's error ahead of none.
func TestFormFirst(t *testing.T) {
	for s, no := range wrongs() {
		a := made("2 1 | c0 ; c1 | " + s + " | 1 1")
		b := printOf(a)
		if _, ok := formOf(b); !ok {
			t.Fatalf("%.50s has not the form", s)
		}
		unparsed(t, b, no)
		unparsed(t, b+"\x00", api.ErrForm)
		unparsed(t, b[:len(b)-1], api.ErrForm)
		a.Bounds = append(a.Bounds, api.Bound{Col: 9})
		checked(t, a, no)
		unparsed(t, printOf(a), api.ErrForm)
		a.Bounds[1] = api.Bound{Row: 1025}
		unparsed(t, printOf(a), api.ErrForm)
		a.Bounds[1] = api.Bound{Col: 8, Row: 1024}
		unparsed(t, printOf(a), no)
	}
}

// expression is n columns and constants, and what puts them together, with no greater degree than 4; and its degree.
func expression(n, cols int, next bool, draw func(int) int) (string, int) {
	if n == 1 {
		switch draw(4) {
		case 0:
			return "k" + strconv.FormatUint([]uint64{0, 1, 7, 1 << 32, api.P - 1}[draw(5)], 10), 0
		case 1:
			if next {
				return "n" + strconv.Itoa(draw(cols)), 1
			}
		}
		return "c" + strconv.Itoa(draw(cols)), 1
	}
	k := 1 + draw(n-1)
	a, d := expression(k, cols, next, draw)
	b, e := expression(n-k, cols, next, draw)
	if d+e <= 4 && draw(3) == 0 {
		return a + " " + b + " *", d + e
	}
	return a + " " + b + []string{" +", " -"}[draw(2)], max(d, e)
}

// one is one that may be, always the same of one seed; and what draws more numbers, each below another.
func one(seed uint64) (api.Air, func(int) int) {
	numbers := ordinary(400, seed+5)[5:]
	draw := func(n int) int {
		x := numbers[0]
		numbers = append(numbers[1:], ordinary(1, x)...)
		return int(x >> 20 % uint64(n))
	}
	a := api.Air{Cols: 1 + draw(8), Log: draw(11)}
	if draw(3) > 0 {
		for range a.Cols {
			s, _ := expression(1+draw(4), a.Cols, false, draw)
			a.Steps = append(a.Steps, bytesOf(s))
		}
	}
	for range draw(17) * draw(2) {
		s, _ := expression(1+draw(9), a.Cols, true, draw)
		a.Rules = append(a.Rules, bytesOf(s))
	}
	for range draw(17) {
		b := api.Bound{Col: draw(a.Cols), Row: draw(1 << a.Log)}
		if !slices.Contains(a.Bounds, b) {
			a.Bounds = append(a.Bounds, b)
		}
	}
	return a, draw
}

// hurt changes one thing of one that may be.
func hurt(a api.Air, draw func(int) int) api.Air {
	a = copied(a)
	list := &a.Rules
	if len(a.Rules) == 0 || len(a.Steps) > 0 && draw(2) == 0 {
		list = &a.Steps
	}
	odd := []string{"x07", "x", "x01", "x0300", "x0301000000ffffffff", "n0", "c8", "c0 c0", "+", "c0 c0 * c0 * c0 * c0 *", long(128), sum(17), "c0 c0 * c0 * c0 *", "k1"}
	switch draw(12) {
	case 0:
		a.Cols = []int{-1, 0, a.Cols - 1, a.Cols + 1, 9, ends()[draw(len(ends()))]}[draw(6)]
	case 1:
		a.Log = []int{-1, 0, a.Log - 1, a.Log + 1, 11, ends()[draw(len(ends()))]}[draw(6)]
	case 2:
		a.Steps = append(a.Steps, bytesOf("c0"))
	case 3:
		a.Steps = a.Steps[:len(a.Steps)/2]
	case 4:
		a.Rules = append(a.Rules, slices.Repeat([]string{bytesOf("k3")}, 1+draw(16))...)
	case 5:
		for range 1 + draw(16) {
			a.Bounds = append(a.Bounds, api.Bound{Col: draw(9), Row: draw(1 << 10)})
		}
	case 6:
		a.Bounds = append(a.Bounds, []api.Bound{{Col: -1}, {Row: -1}, {Col: a.Cols}, {Row: 1 << min(10, max(0, a.Log))}, {Col: 9}, {Row: 1025}}[draw(6)])
	case 7:
		if len(a.Bounds) > 0 {
			a.Bounds = append(a.Bounds, a.Bounds[draw(len(a.Bounds))])
		}
	default:
		if len(*list) > 0 {
			(*list)[draw(len(*list))] = bytesOf(odd[draw(len(odd))])
		}
	}
	return a
}

// P1, P18.1 to P18.3: ones that may be, and with one, two or three things changed; each error is among the answers.
func TestAny(t *testing.T) {
	seen := map[api.Errno]int{}
	degrees := map[int]int{}
	for seed := range uint64(4000) {
		a, draw := one(seed)
		if air.Check(a) != api.OK {
			t.Fatalf("it may not be: %.300x", printOf(a))
		}
		for range 4 {
			alike(t, a)
			no := air.Check(a)
			seen[no]++
			if no == api.OK {
				degrees[air.Degree(a)]++
			}
			a = hurt(a, draw)
		}
	}
	for _, no := range []api.Errno{api.OK, api.ErrArg, api.ErrForm, api.ErrOp, api.ErrStack, api.ErrDegree, api.ErrLimit} {
		if seen[no] < 100 {
			t.Errorf("%d is among the answers %d times alone", no, seen[no])
		}
	}
	for d := 1; d <= 4; d++ {
		if degrees[d] < 100 {
			t.Errorf("the degree %d is among the answers %d times alone", d, degrees[d])
		}
	}
	if len(seen) != 7 || len(degrees) != 4 {
		t.Errorf("%d answers, %d degrees", len(seen), len(degrees))
	}
}

// P1, P18.2, P18.3: texts of ones that may be, with bytes changed, taken out and put in; each error is among the answers.
func TestAnyText(t *testing.T) {
	seen := map[api.Errno]int{}
	for seed := range uint64(4000) {
		a, draw := one(seed + 10000)
		a.Bounds = a.Bounds[:len(a.Bounds)/4]
		s := printOf(a)
		for range 6 {
			i := draw(len(s))
			if draw(3) == 0 {
				i = 8 * draw((len(s)+7)/8)
			}
			b := string([]byte{[]byte{0, 1, 2, 3, 4, 5, 6, 7, 8, 9, 10, 11, 16, 17, 255, s[i] ^ 1<<draw(8), s[i] + 1, s[i] - 1}[draw(18)]})
			with := []string{s[:i] + b + s[i+1:], s[:i] + b + s[i+1:], s[:i] + b + s[i+1:], s[:i] + b + s[i:], s[:i] + s[i+1:], s[:i], s + b}[draw(7)]
			alikeText(t, with)
			_, no := air.Parse(with)
			seen[no]++
		}
	}
	for _, no := range []api.Errno{api.OK, api.ErrArg, api.ErrForm, api.ErrOp, api.ErrStack} {
		if seen[no] < 50 {
			t.Errorf("%d is among the answers %d times alone", no, seen[no])
		}
	}
}

// P1: Rules, Check and Print end at any one, Parse at any text.
func TestAnyEnds(t *testing.T) {
	long := strings.Repeat("\x04", 1<<20)
	lists := [][]string{nil, {}, {""}, make([]string, 8), make([]string, 9), make([]string, 16), make([]string, 17), make([]string, 100000), {long}, {"\x01\x00", long}, slices.Repeat([]string{"\x01\x00"}, 8)}
	bounds := [][]api.Bound{nil, {}, {{}}, {{Col: math.MinInt, Row: math.MaxInt}}, make([]api.Bound, 16), make([]api.Bound, 17), make([]api.Bound, 100000)}
	for _, n := range append(ends(), 0, 1, 8, 10) {
		for i, steps := range lists {
			a := api.Air{Cols: n, Log: ends()[i], Steps: steps, Rules: lists[len(lists)-1-i], Bounds: bounds[i%len(bounds)]}
			if n > 0 && n < 11 {
				a.Log = n
			}
			no := air.Check(a)
			if want := checkOf(a); no != want {
				t.Errorf("Check of %d, %d, %d steps, %d rules, %d Bounds: %d, not %d", a.Cols, a.Log, len(a.Steps), len(a.Rules), len(a.Bounds), no, want)
			}
			want, no := rulesOf(a)
			ruled(t, a, want, no)
			air.Size(a)
			air.Degree(a)
			air.Parts(a)
		}
	}
	for i, x := range ordinary(3000, 77) {
		var s string
		for _, y := range ordinary(i%40, x) {
			s += eight(y >> (y % 64))
		}
		alikeText(t, s)
		alikeText(t, s+"\x00"[:i%2])
	}
}

// P18.3: there and back, with nothing at all, and with lists that are nil and empty.
func TestThereAndBack(t *testing.T) {
	for seed := range uint64(500) {
		a, _ := one(seed + 20000)
		b, no := air.Parse(air.Print(a))
		if no != api.OK || !same(a, b) || air.Print(b) != air.Print(a) {
			t.Errorf("there and back, %.300x: %d", printOf(a), no)
		}
	}
	for _, a := range []api.Air{{Cols: 1}, {Cols: 1, Steps: []string{}, Rules: []string{}, Bounds: []api.Bound{}}, {Cols: 8, Log: 10}} {
		b, no := air.Parse(air.Print(a))
		if no != api.OK || !same(a, b) {
			t.Errorf("there and back, %x: %d", printOf(a), no)
		}
	}
}

// Rules 3 and 4: what is handed in is as it was, its spare room too; what is answered is new memory, and hangs on the arguments alone.
func TestKept(t *testing.T) {
	full := made("4 2 | c1 ; c2 ; c3 ; c0 c1 + | n0 c1 - ; k1 ; n3 ; c0 | 0 0 ; 1 1 ; 2 2 ; 3 3")
	a := full
	a.Cols, a.Steps, a.Rules, a.Bounds = 2, full.Steps[:2], full.Rules[:2], full.Bounds[:2]
	a.Steps[1] = bytesOf("c0")
	before, all := copied(a), copied(full)
	for range 2 {
		for range 2 {
			alike(t, a)
			alike(t, full)
			if !same(a, before) || !same(full, all) {
				t.Fatal("what was handed in has changed")
			}
		}
		l, _ := air.Rules(a)
		for _, rule := range l {
			for i := range rule[:cap(rule)] {
				rule[:cap(rule)][i] = api.Op{Kind: 9, N: 9}
			}
		}
		b, _ := air.Parse(air.Print(a))
		for i := range b.Steps {
			b.Steps[i], b.Rules[i], b.Bounds[i] = "x", "y", api.Bound{Col: 9}
		}
	}
	// No list of one answer reaches into another.
	l, _ := air.Rules(full)
	want, _ := rulesOf(full)
	for i := range l {
		l[i] = append(l[i], api.Op{Kind: 9})
	}
	for i := range l {
		if !slices.Equal(l[i][:len(want[i])], want[i]) {
			t.Errorf("rule %d has changed with another", i)
		}
	}
	b, _ := air.Parse(air.Print(full))
	b.Steps, b.Rules = append(b.Steps, "x"), append(b.Rules, "y")
	if !slices.Equal(b.Steps[:4], full.Steps) || !slices.Equal(b.Rules[:4], full.Rules) {
		t.Error("a list has changed with another")
	}
	// What was handed in may be changed afterwards.
	c := copied(full)
	l, _ = air.Rules(c)
	s := air.Print(c)
	clear(c.Steps)
	clear(c.Rules)
	clear(c.Bounds)
	for i := range l {
		if !slices.Equal(l[i], want[i]) {
			t.Errorf("rule %d has changed with what was handed in", i)
		}
	}
	if s != printOf(full) {
		t.Error("bytes have changed with what was handed in")
	}
}

// Rule 6: many may call at once, of the same one too.
func TestAtOnce(t *testing.T) {
	var wait sync.WaitGroup
	shared := some()
	for k := range uint64(8) {
		wait.Go(func() {
			for i := range uint64(30) {
				alike(t, shared)
				a, draw := one(k*100 + i)
				alike(t, a)
				alike(t, hurt(a, draw))
			}
		})
	}
	wait.Wait()
}
