package octet_test

import (
	"math"
	"math/big"
	"slices"
	"strings"
	"sync"
	"testing"

	"assayer/api"
	"assayer/octet"
)

const (
	top  = 1<<64 - 1
	most = 1 << 20 // of how many numbers a row may be that is read
	half = 1 << 19 // likewise of pairs
)

// field are numbers of the field: its ends, those where bytes and signs begin and end, one of eight unlike bytes.
func field() []uint64 {
	return []uint64{
		0, 1, 2, 127, 128, 255, 256, 257, 513, 1<<16 - 1, 1 << 16, 1 << 24, 1<<31 - 1, 1 << 31, 1<<32 - 1, 1 << 32, 1<<40 + 5,
		1 << 48, 1 << 56, 1<<63 - 1, 1 << 63, 1<<63 + 1, 0x0123456789abcdef, api.P - 1<<32, api.P - 256, api.P - 2, api.P - 1,
	}
}

// beyond are numbers beyond the field.
func beyond() []uint64 {
	return []uint64{api.P, api.P + 1, api.P + 255, api.P + 1<<31, top - 256, top - 1, top}
}

// numbers are all of both, then ordinary ones.
func numbers() []uint64 {
	return append(append(field(), beyond()...), ordinary(300)...)
}

// ordinary are n numbers over all 64 bits, always the same ones.
func ordinary(n int) []uint64 {
	x := uint64(0x9e3779b97f4a7c15)
	out := make([]uint64, n)
	for i := range out {
		x ^= x << 13
		x ^= x >> 7
		x ^= x << 17
		out[i] = x
	}
	return out
}

// inside are n ordinary numbers of the field.
func inside(n int) []uint64 {
	out := ordinary(n)
	for i := range out {
		out[i] %= api.P
	}
	return out
}

// inPairs are the numbers of l, two in each pair.
func inPairs(l []uint64) []api.Pair {
	out := make([]api.Pair, len(l)/2)
	for i := range out {
		out[i] = api.Pair{A: l[2*i], B: l[2*i+1]}
	}
	return out
}

// eight is Eight by another means: big.Int's bytes, the other way round.
func eight(n uint64) string {
	var b [8]byte
	new(big.Int).SetUint64(n).FillBytes(b[:])
	slices.Reverse(b[:])
	return string(b[:])
}

// row is Row by that means.
func row(l []uint64) string {
	var out strings.Builder
	for _, n := range l {
		out.WriteString(eight(n))
	}
	return out.String()
}

// number is the number of eight bytes by another means: of each byte so many times 256 to its place.
func number(s string) uint64 {
	out := new(big.Int)
	for i := range 8 {
		one := big.NewInt(int64(s[i]))
		out.Add(out, one.Mul(one, new(big.Int).Exp(big.NewInt(256), big.NewInt(int64(i)), nil)))
	}
	return out.Uint64()
}

// reads holds that s is read as the row l.
func reads(t *testing.T, what, s string, n int, l []uint64) {
	t.Helper()
	if got, ok := octet.ReadRow(s, n); !ok || !slices.Equal(got, l) {
		t.Errorf("ReadRow of %s, %d: %d numbers, %v", what, n, len(got), ok)
	}
}

// none holds that s isn't read as a row of n numbers.
func none(t *testing.T, what, s string, n int) {
	t.Helper()
	if got, ok := octet.ReadRow(s, n); ok || len(got) != 0 {
		t.Errorf("ReadRow of %s, %d: %d numbers, %v", what, n, len(got), ok)
	}
}

// readsPairs holds that s is read as the pairs l.
func readsPairs(t *testing.T, what, s string, n int, l []api.Pair) {
	t.Helper()
	if got, ok := octet.ReadPairs(s, n); !ok || !slices.Equal(got, l) {
		t.Errorf("ReadPairs of %s, %d: %d pairs, %v", what, n, len(got), ok)
	}
}

// nonePairs holds that s isn't read as n pairs.
func nonePairs(t *testing.T, what, s string, n int) {
	t.Helper()
	if got, ok := octet.ReadPairs(s, n); ok || len(got) != 0 {
		t.Errorf("ReadPairs of %s, %d: %d pairs, %v", what, n, len(got), ok)
	}
}

// P8.1, the chapter's example, and edges that are written out.
func TestEightWritten(t *testing.T) {
	for _, x := range []struct {
		n    uint64
		want string
	}{
		{513, "\x01\x02\x00\x00\x00\x00\x00\x00"},
		{0, "\x00\x00\x00\x00\x00\x00\x00\x00"},
		{1, "\x01\x00\x00\x00\x00\x00\x00\x00"},
		{127, "\x7f\x00\x00\x00\x00\x00\x00\x00"},
		{128, "\x80\x00\x00\x00\x00\x00\x00\x00"},
		{255, "\xff\x00\x00\x00\x00\x00\x00\x00"},
		{256, "\x00\x01\x00\x00\x00\x00\x00\x00"},
		{1 << 32, "\x00\x00\x00\x00\x01\x00\x00\x00"},
		{api.P - 1, "\x00\x00\x00\x00\xff\xff\xff\xff"},
		{api.P, "\x01\x00\x00\x00\xff\xff\xff\xff"},
		{api.P + 1, "\x02\x00\x00\x00\xff\xff\xff\xff"},
		{1<<63 - 1, "\xff\xff\xff\xff\xff\xff\xff\x7f"},
		{1 << 63, "\x00\x00\x00\x00\x00\x00\x00\x80"},
		{top, "\xff\xff\xff\xff\xff\xff\xff\xff"},
		{0x0123456789abcdef, "\xef\xcd\xab\x89\x67\x45\x23\x01"},
		{0x0807060504030201, "\x01\x02\x03\x04\x05\x06\x07\x08"},
	} {
		if got := octet.Eight(x.n); got != x.want {
			t.Errorf("Eight of %d: %x, not %x", x.n, got, x.want)
		}
		if got, ok := octet.Number(x.want); got != x.n || !ok {
			t.Errorf("Number of %x: %d, %v", x.want, got, ok)
		}
	}
}

// P8.1: numbers of the field and beyond it, as they are, and each bit at its place.
func TestEight(t *testing.T) {
	for _, n := range numbers() {
		if got := octet.Eight(n); got != eight(n) {
			t.Errorf("Eight of %d: %x, not %x", n, got, eight(n))
		}
	}
	for bit := range 64 {
		want := strings.Repeat("\x00", bit/8) + string([]byte{1 << (bit % 8)}) + strings.Repeat("\x00", 7-bit/8)
		if got := octet.Eight(1 << bit); got != want {
			t.Errorf("Eight of bit %d: %x", bit, got)
		}
	}
}

// P8.1: rows of none, one and many, in their order, of any numbers.
func TestRow(t *testing.T) {
	for _, got := range []string{octet.Row(), octet.Row([]uint64{}...), octet.Row([]uint64(nil)...)} {
		if got != "" {
			t.Errorf("Row of none: %x", got)
		}
	}
	if got := octet.Row(1, 256, top); got != "\x01\x00\x00\x00\x00\x00\x00\x00\x00\x01\x00\x00\x00\x00\x00\x00\xff\xff\xff\xff\xff\xff\xff\xff" {
		t.Errorf("Row of three: %x", got)
	}
	if octet.Row(5, 6) == octet.Row(6, 5) || octet.Row(0) == octet.Row(0, 0) || octet.Row(0) == octet.Row(api.P) {
		t.Error("unlike rows of like bytes")
	}
	l := numbers()
	for _, n := range l {
		if got := octet.Row(n); got != eight(n) {
			t.Errorf("Row of %d: %x", n, got)
		}
	}
	for n := range len(l) + 1 {
		if got := octet.Row(l[:n]...); got != row(l[:n]) {
			t.Errorf("Row of %d numbers: %x", n, got)
		}
	}
}

// P8.1: pairs of none, one and many, of each A, then B, of any numbers.
func TestPairs(t *testing.T) {
	for _, got := range []string{octet.Pairs(), octet.Pairs([]api.Pair{}...), octet.Pairs([]api.Pair(nil)...)} {
		if got != "" {
			t.Errorf("Pairs of none: %x", got)
		}
	}
	if got := octet.Pairs(api.Pair{A: 1, B: 513}); got != "\x01\x00\x00\x00\x00\x00\x00\x00\x01\x02\x00\x00\x00\x00\x00\x00" {
		t.Errorf("Pairs of one: %x", got)
	}
	if got := octet.Pairs(api.Pair{A: 1, B: 2}, api.Pair{A: 3, B: 4}); got != row([]uint64{1, 2, 3, 4}) {
		t.Errorf("Pairs of two: %x", got)
	}
	l := numbers()
	for _, a := range l {
		for _, b := range l[:50] {
			if got := octet.Pairs(api.Pair{A: a, B: b}); got != eight(a)+eight(b) {
				t.Errorf("Pairs of %d, %d: %x", a, b, got)
			}
		}
	}
	for n := range len(l)/2 + 1 {
		if got := octet.Pairs(inPairs(l[:2*n])...); got != row(l[:2*n]) {
			t.Errorf("Pairs of %d pairs: %x", n, got)
		}
	}
}

// P8.2: the first eight bytes alone count, and may be any; of fewer there is no number.
func TestNumber(t *testing.T) {
	text := "\x01\x02\x03\x04\x05\x06\x07\x88\x99"
	for n := range 8 {
		for _, s := range []string{text[:n], "\xff\xff\xff\xff\xff\xff\xff"[:n], "\x00\x00\x00\x00\x00\x00\x00"[:n]} {
			if got, ok := octet.Number(s); got != 0 || ok {
				t.Errorf("Number of %x: %d, %v", s, got, ok)
			}
		}
	}
	for _, s := range []string{text[:8], text, text[:8] + "\x00", text[:8] + "\xff\xff\xff\xff\xff\xff\xff\xff\xff", text[:8] + strings.Repeat("x", 100000)} {
		if got, ok := octet.Number(s); got != 0x8807060504030201 || !ok {
			t.Errorf("Number of %d bytes: %x, %v", len(s), got, ok)
		}
	}
	for _, n := range numbers() {
		for _, s := range []string{eight(n), eight(n) + "x", eight(n) + eight(^n)} {
			if got, ok := octet.Number(s); got != n || !ok {
				t.Errorf("Number of %x: %d, %v", s, got, ok)
			}
		}
	}
	s := row(ordinary(20))
	for i := range len(s) - 7 {
		if got, ok := octet.Number(s[i:]); got != number(s[i:]) || !ok {
			t.Errorf("Number from byte %d: %d, %v", i, got, ok)
		}
	}
}

// P8.2: rows of none, one and many, of numbers of the field.
func TestReadRow(t *testing.T) {
	reads(t, "nothing", "", 0, nil)
	reads(t, "5 and 6", "\x05\x00\x00\x00\x00\x00\x00\x00\x06\x00\x00\x00\x00\x00\x00\x00", 2, []uint64{5, 6})
	for _, n := range field() {
		reads(t, "one number", eight(n), 1, []uint64{n})
	}
	l := append(field(), inside(300)...)
	for n := range len(l) + 1 {
		reads(t, "many", row(l[:n]), n, l[:n])
	}
}

// P8.2: pairs of none, one and many, of numbers of the field, of each A, then B.
func TestReadPairs(t *testing.T) {
	readsPairs(t, "nothing", "", 0, nil)
	readsPairs(t, "5 + 6 u", "\x05\x00\x00\x00\x00\x00\x00\x00\x06\x00\x00\x00\x00\x00\x00\x00", 1, []api.Pair{{A: 5, B: 6}})
	for _, a := range field() {
		for _, b := range field() {
			readsPairs(t, "one pair", eight(a)+eight(b), 1, []api.Pair{{A: a, B: b}})
		}
	}
	l := append(field(), inside(300)...)
	for n := range len(l)/2 + 1 {
		readsPairs(t, "many", row(l[:2*n]), n, inPairs(l[:2*n]))
	}
}

// P8.2: a byte or a number too few or too many is none, whatever it is.
func TestLengths(t *testing.T) {
	for n := range 20 {
		l := inside(2 * n)
		s, p := row(l[:n]), row(l)
		for _, more := range []string{"\x00", "x", "\xff", "1234567", "12345678", "123456789", eight(0), eight(0) + eight(0), row(l) + "x"} {
			none(t, "too many bytes", s+more, n)
			nonePairs(t, "too many bytes", p+more, n)
		}
		for k := range len(s) {
			none(t, "too few bytes", s[:k], n)
			none(t, "bytes from behind", s[k+1:], n)
		}
		for k := range len(p) {
			nonePairs(t, "too few bytes", p[:k], n)
			nonePairs(t, "bytes from behind", p[k+1:], n)
		}
		for k := range 41 {
			if k != n {
				none(t, "another number of numbers", s, k)
				nonePairs(t, "another number of pairs", p, k)
			}
		}
	}
}

// P8.2: a number that isn't below P, at any place, is none.
func TestBeyond(t *testing.T) {
	for _, bad := range beyond() {
		none(t, "one number beyond", eight(bad), 1)
		for n := 2; n <= 12; n += 2 {
			for i := range n {
				l := inside(n)
				l[i] = bad
				none(t, "one of many beyond", row(l), n)
				nonePairs(t, "one of many beyond", row(l), n/2)
			}
		}
	}
	for _, n := range []int{2, 4, 10, 1000} {
		for _, i := range []int{0, 1, n - 2, n - 1} {
			l := inside(n)
			l[i] = api.P - 1
			reads(t, "P - 1 in it", row(l), n, l)
			readsPairs(t, "P - 1 in it", row(l), n/2, inPairs(l))
			l[i] = api.P
			none(t, "P in it", row(l), n)
			nonePairs(t, "P in it", row(l), n/2)
		}
	}
	for n := 1; n < 9; n++ {
		none(t, "beyond alone", strings.Repeat("\xff", 8*n), n)
		nonePairs(t, "beyond alone", strings.Repeat("\xff", 16*n), n)
	}
}

// P8.2: n of none, below 0, and so great that it wraps round times 8, 16 or 2, with few bytes.
func TestOdd(t *testing.T) {
	texts := []string{"", "\x00", eight(0), eight(5) + eight(6), row(inside(3)), row(inside(4))}
	for _, s := range texts[1:] {
		none(t, "some bytes, of none", s, 0)
		nonePairs(t, "some bytes, of none", s, 0)
	}
	for _, s := range texts {
		for _, n := range []int{
			-1, -2, -3, -8, -most, -most - 1, math.MinInt32, math.MinInt, math.MinInt + 1, math.MinInt + 2, math.MinInt / 2, math.MinInt/2 + 1,
			math.MinInt / 4, math.MinInt/4 + 1, math.MinInt / 8, math.MinInt/8 + 1, math.MinInt/8 + 2, math.MinInt/16 + 1,
			math.MaxInt, math.MaxInt - 1, math.MaxInt/2 + 1, math.MaxInt/2 + 2, math.MaxInt/4 + 1, math.MaxInt/4 + 2, math.MaxInt/4 + 3,
			math.MaxInt/8 + 1, math.MaxInt/8 + 2, math.MaxInt/8 + 3, math.MaxInt/16 + 1, math.MaxInt32, most + 1, most, half + 1, half, 100,
		} {
			none(t, "few bytes", s, n)
			nonePairs(t, "few bytes", s, n)
		}
	}
}

// P8.2: as many numbers as there may be, one less, and one more and two, with all their bytes.
func TestBounds(t *testing.T) {
	l := inside(most + 4)
	s := row(l)
	for _, n := range []int{most - 1, most} {
		reads(t, "many", s[:8*n], n, l[:n])
		none(t, "many, and a byte", s[:8*n+1], n)
		none(t, "many but a byte", s[:8*n-1], n)
	}
	none(t, "too many", s[:8*(most+1)], most+1)
	none(t, "too many", s[:8*(most+2)], most+2)
	for _, n := range []int{half - 1, half} {
		readsPairs(t, "many", s[:16*n], n, inPairs(l[:2*n]))
		nonePairs(t, "many, and a byte", s[:16*n+1], n)
		nonePairs(t, "many but a byte", s[:16*n-1], n)
	}
	nonePairs(t, "too many", s[:16*(half+1)], half+1)
	nonePairs(t, "too many", s[:16*(half+2)], half+2)
	for _, i := range []int{0, most - 1} {
		edge := slices.Clone(l[:most])
		edge[i] = api.P - 1
		reads(t, "many with P - 1", row(edge), most, edge)
		readsPairs(t, "many with P - 1", row(edge), half, inPairs(edge))
		edge[i] = api.P
		none(t, "many with P", row(edge), most)
		nonePairs(t, "many with P", row(edge), half)
	}
}

// P8.1: a row that is laid down has no such bound.
func TestLong(t *testing.T) {
	l := ordinary(most + 4)
	if octet.Row(l...) != row(l) {
		t.Error("a long row")
	}
	if octet.Pairs(inPairs(l)...) != row(l) {
		t.Error("many pairs")
	}
}

// P8.3: there and back, by numbers, rows and pairs.
func TestThereAndBack(t *testing.T) {
	for _, n := range numbers() {
		if got, ok := octet.Number(octet.Eight(n)); got != n || !ok {
			t.Errorf("there and back, %d: %d, %v", n, got, ok)
		}
	}
	for i, n := range field() {
		l := inside(i + 1)
		l[i] = n
		reads(t, "there and back", octet.Row(l...), len(l), l)
		p := inPairs(append(l, inside(i+1)...))
		readsPairs(t, "there and back", octet.Pairs(p...), len(p), p)
	}
	for _, n := range []int{0, 1, 2, 3, 8, 100, 1000} {
		l := inside(2 * n)
		reads(t, "there and back", octet.Row(l...), len(l), l)
		readsPairs(t, "there and back", octet.Pairs(inPairs(l)...), n, inPairs(l))
	}
}

// P8.3: back and there: what is read of bytes has those bytes, and what isn't has numbers beyond the field.
func TestBackAndThere(t *testing.T) {
	for _, n := range numbers() {
		s := eight(n)
		got, ok := octet.Number(s)
		if !ok || octet.Eight(got) != s {
			t.Errorf("back and there, %x: %d, %v", s, got, ok)
		}
		for _, m := range numbers() {
			s := s + eight(m)
			row, ok := octet.ReadRow(s, 2)
			pairs, both := octet.ReadPairs(s, 1)
			if want := n < api.P && m < api.P; ok != want || both != want {
				t.Errorf("back and there, %x: %v, %v", s, ok, both)
			} else if want && (octet.Row(row...) != s || octet.Pairs(pairs...) != s) {
				t.Errorf("back and there, %x: %d, %d", s, row, pairs)
			}
		}
	}
}

// Rules 3 and 4: what is handed in is as it was, its spare room too, and an answer is new memory.
func TestKept(t *testing.T) {
	l := numbers()
	before := slices.Clone(l)
	p := inPairs(l)
	pairs := slices.Clone(p)
	one, two := octet.Row(l[:5:20]...), octet.Pairs(p[:5:20]...)
	if !slices.Equal(l, before) || !slices.Equal(p, pairs) {
		t.Error("what was handed in has changed")
	}
	clear(l)
	clear(p)
	if one != row(before[:5]) || two != row(before[:10]) {
		t.Error("an answer has changed with what was handed in")
	}
	s := row(inside(10))
	for range 2 {
		a, _ := octet.ReadRow(s, 10)
		b, _ := octet.ReadPairs(s, 5)
		if !slices.Equal(a, inside(10)) || !slices.Equal(b, inPairs(inside(10))) {
			t.Error("an answer hangs on an earlier one")
		}
		clear(a)
		clear(b)
	}
}

// Rule 6: many may call at once.
func TestAtOnce(t *testing.T) {
	l := inside(100)
	s := row(l)
	var wait sync.WaitGroup
	for range 8 {
		wait.Go(func() {
			for range 50 {
				a, ok := octet.ReadRow(octet.Row(l...), 100)
				b, both := octet.ReadPairs(octet.Pairs(inPairs(l)...), 50)
				if !ok || !both || octet.Row(a...) != s || octet.Pairs(b...) != s {
					t.Error("another answer at once")
				}
			}
		})
	}
	wait.Wait()
}
