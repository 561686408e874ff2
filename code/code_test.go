package code_test

import (
	"encoding/binary"
	"encoding/hex"
	"math"
	"slices"
	"strings"
	"sync"
	"testing"

	"assayer/api"
	"assayer/code"
)

const top = math.MaxUint64

// sizes are of how many bytes an operation of each kind is; there is none of the kind 0.
var sizes = [7]int{1: 2, 2: 2, 3: 9, 4: 1, 5: 1, 6: 1}

// limits are what an N of each kind is below.
var limits = [7]uint64{1: 256, 2: 256, 3: api.P, 4: 1, 5: 1, 6: 1}

// edges are Ns at all ends: of a byte, of the field, of the type, and where an N wraps round in a smaller one.
func edges() []uint64 {
	return []uint64{
		0, 1, 2, 3, 5, 7, 8, 127, 128, 254, 255, 256, 257, 511, 512, 1<<16 - 1, 1 << 16, 1<<31 - 1, 1 << 31, 1<<32 - 1, 1 << 32, 1<<32 + 1,
		1 << 40, 1 << 48, 1 << 56, 1<<63 - 1, 1 << 63, 1<<63 + 1, 0x0123456789abcdef, api.P - 1<<32, api.P - 256, api.P - 2, api.P - 1,
		api.P, api.P + 1, api.P + 255, api.P + 256, top - 255, top - 1, top,
	}
}

// kinds are 0 to 7, and ones far off, of which some are 1 to 6 in their lowest bits alone.
func kinds() []int {
	out := []int{
		0, 1, 2, 3, 4, 5, 6, 7, 8, 9, 16, 127, 128, 129, 255, 256, -1, -2, -3, -4, -5, -6, -7, -128, -255, -256,
		math.MaxInt8, math.MinInt8, math.MaxInt16, math.MinInt16, math.MaxInt32, math.MinInt32, math.MaxInt - 1, math.MaxInt, math.MinInt, math.MinInt + 1,
	}
	for k := 1; k <= 6; k++ {
		out = append(out, k+256, k-256, k+1<<16, k+1<<32, k-1<<32, k+1<<62, k+math.MinInt, k<<8)
	}
	return out
}

// ordinary are n numbers over all 64 bits, always the same ones of one seed.
func ordinary(n int, seed uint64) []uint64 {
	x := 0x9e3779b97f4a7c15 ^ seed<<20
	out := make([]uint64, n)
	for i := range out {
		x ^= x << 13
		x ^= x >> 7
		x ^= x << 17
		out[i] = x
	}
	return out
}

// ops are operations of kinds and Ns by turns.
func ops(l ...uint64) []api.Op {
	var out []api.Op
	for i := 0; i < len(l); i += 2 {
		out = append(out, api.Op{Kind: int(l[i]), N: l[i+1]})
	}
	return out
}

// right are all edges of operations that may be written.
func right() []api.Op {
	var out []api.Op
	for kind := 1; kind <= 6; kind++ {
		for _, n := range edges() {
			if n < limits[kind] {
				out = append(out, api.Op{Kind: kind, N: n})
			}
		}
	}
	return out
}

// some are n operations of all kinds, always the same ones of one seed.
func some(n int, seed uint64) []api.Op {
	out := make([]api.Op, n)
	for i, x := range ordinary(n, seed) {
		kind := 1 + int(x>>40%6)
		out[i] = api.Op{Kind: kind, N: x % limits[kind]}
	}
	return out
}

// bytesOf is Print by another means.
func bytesOf(l []api.Op) string {
	var out strings.Builder
	for _, o := range l {
		all := binary.LittleEndian.AppendUint64([]byte{byte(o.Kind)}, o.N)
		out.Write(all[:sizes[o.Kind]])
	}
	return out.String()
}

// opsOf is Parse by another means: it goes by places, and asks how much there is ahead of all else.
func opsOf(s string) ([]api.Op, api.Errno) {
	var out []api.Op
	for at := 0; at < len(s); {
		kind := int(s[at])
		if kind == 0 || kind >= len(sizes) {
			return nil, api.ErrOp
		}
		var n [8]byte
		end := at + sizes[kind]
		if end > len(s) {
			return nil, api.ErrForm
		}
		copy(n[:], s[at+1:end])
		o := api.Op{Kind: kind, N: binary.LittleEndian.Uint64(n[:])}
		if o.N >= limits[kind] {
			return nil, api.ErrForm
		}
		out, at = append(out, o), end
		if len(out) == 257 {
			return nil, api.ErrLimit
		}
	}
	return out, api.OK
}

// parses holds what a text is parsed as; beside an error there are no operations.
func parses(t *testing.T, s string, want []api.Op, no api.Errno) {
	t.Helper()
	got, e := code.Parse(s)
	if e != no || !slices.Equal(got, want) {
		t.Errorf("Parse of %d bytes, %.40x: %d operations, %d, not %d, %d", len(s), s, len(got), e, len(want), no)
	}
}

// wrong holds that a text is told an error of.
func wrong(t *testing.T, s string, no api.Errno) {
	t.Helper()
	parses(t, s, nil, no)
}

// alike holds that a text is parsed as it is by the other means.
func alike(t *testing.T, s string) {
	t.Helper()
	want, no := opsOf(s)
	parses(t, s, want, no)
}

// constant is the bytes of OpConst and any number.
func constant(n uint64) string {
	return string(binary.LittleEndian.AppendUint64([]byte{api.OpConst}, n))
}

// P15.1, P15.2, the chapter's example: column 0 times 5, less the next row's column 1.
func TestExample(t *testing.T) {
	l := []api.Op{{Kind: api.OpCur}, {Kind: api.OpConst, N: 5}, {Kind: api.OpMul}, {Kind: api.OpNext, N: 1}, {Kind: api.OpSub}}
	s := "\x01\x00\x03\x05\x00\x00\x00\x00\x00\x00\x00\x06\x02\x01\x05"
	if got := code.Print(l); got != s {
		t.Errorf("Print: %x", got)
	}
	parses(t, s, l, api.OK)
	for _, o := range l {
		if !code.Right(o) {
			t.Errorf("not right: %v", o)
		}
	}
}

// P15.1: whether one may be written, as written out: of each kind from 0 to 7, of an N of 0, 1, 255, 256, P - 1, P and the greatest number.
func TestRightWritten(t *testing.T) {
	ns := []uint64{0, 1, 255, 256, api.P - 1, api.P, top}
	for kind, want := range []string{"-------", "yyy----", "yyy----", "yyyyy--", "y------", "y------", "y------", "-------"} {
		for i, n := range ns {
			if got := code.Right(api.Op{Kind: kind, N: n}); got != (want[i] == 'y') {
				t.Errorf("Right of %d, %d: %v", kind, n, got)
			}
		}
	}
}

// P15.1: of all kinds, and all Ns, at their ends; no kind but 1 to 6 may be written, however alike in its lowest bits.
func TestRight(t *testing.T) {
	for _, kind := range kinds() {
		for _, n := range append(edges(), ordinary(50, 1)...) {
			want := kind >= 1 && kind <= 6 && n < limits[kind]
			if got := code.Right(api.Op{Kind: kind, N: n}); got != want {
				t.Errorf("Right of %d, %d: %v", kind, n, got)
			}
		}
	}
	for kind := 1; kind <= 6; kind++ {
		for n := range uint64(1000) {
			if got := code.Right(api.Op{Kind: kind, N: n}); got != (n < limits[kind]) {
				t.Errorf("Right of %d, %d: %v", kind, n, got)
			}
		}
	}
}

// P15.1: bytes that are written out, of each kind, and of none at all.
func TestPrintWritten(t *testing.T) {
	for _, x := range []struct {
		l    []api.Op
		want string
	}{
		{nil, ""},
		{[]api.Op{}, ""},
		{ops(1, 0), "\x01\x00"},
		{ops(1, 255), "\x01\xff"},
		{ops(2, 7), "\x02\x07"},
		{ops(2, 128), "\x02\x80"},
		{ops(3, 0), "\x03\x00\x00\x00\x00\x00\x00\x00\x00"},
		{ops(3, 513), "\x03\x01\x02\x00\x00\x00\x00\x00\x00"},
		{ops(3, 0x0807060504030201), "\x03\x01\x02\x03\x04\x05\x06\x07\x08"},
		{ops(3, api.P-1), "\x03\x00\x00\x00\x00\xff\xff\xff\xff"},
		{ops(4, 0), "\x04"},
		{ops(5, 0), "\x05"},
		{ops(6, 0), "\x06"},
		{ops(6, 0, 5, 0, 4, 0, 2, 3, 1, 4), "\x06\x05\x04\x02\x03\x01\x04"},
	} {
		if got := code.Print(x.l); got != x.want {
			t.Errorf("Print of %v: %x, not %x", x.l, got, x.want)
		}
	}
}

// P15.1: bytes of one, of two and of many, in their order, more than a rule has too.
func TestPrint(t *testing.T) {
	for _, a := range right() {
		if got := code.Print([]api.Op{a}); got != bytesOf([]api.Op{a}) {
			t.Errorf("Print of %v: %x", a, got)
		}
		for _, b := range right() {
			if got := code.Print([]api.Op{a, b}); got != bytesOf([]api.Op{a, b}) {
				t.Errorf("Print of %v, %v: %x", a, b, got)
			}
		}
	}
	l := some(5000, 2)
	for _, n := range []int{3, 4, 10, 100, 255, 256, 257, 258, 1000, 5000} {
		if code.Print(l[:n]) != bytesOf(l[:n]) {
			t.Errorf("Print of %d operations", n)
		}
	}
}

// P15.2: texts of ordinary operations, of ones that are cut, that have another byte in them, or a constant beyond the field, as another program parsed them.
func TestParseWritten(t *testing.T) {
	for _, x := range []struct {
		text string
		want []api.Op
		no   api.Errno
	}{
		{"01070200", ops(1, 7, 2, 0), api.OK},
		{"020801ad050300000000ffffffff03000100000000000006", ops(2, 8, 1, 173, 5, 0, 3, 0xffffffff00000000, 3, 256, 6, 0), api.OK},
		{"06030000000000000080030000000001000000", ops(6, 0, 3, 0x8000000000000000, 3, 4294967296), api.OK},
		{"03fffffffffeffffff0300000000010000000301000000000000000300000000000000", nil, api.ErrForm},
		{"02ff03ff00000000000000", ops(2, 255, 3, 255), api.OK},
		{"017f0302000000ffffffff04", nil, api.ErrForm},
		{"0201027f", ops(2, 1, 2, 127), api.OK},
		{"0605", ops(6, 0, 5, 0), api.OK},
		{"03fffffffffeffffff060300000000ffffffff", ops(3, 0xfffffffeffffffff, 6, 0, 3, 0xffffffff00000000), api.OK},
		{"023b0300000000ffffffff0501", nil, api.ErrForm},
		{"0300ff0000ffffffff", nil, api.ErrForm},
		{"06030000000000000000030000000001000000027f03ffffffffffffffff", nil, api.ErrForm},
		{"0180060506030000000000000000", ops(1, 128, 6, 0, 5, 0, 6, 0, 3, 0), api.OK},
		{"050300000000ffffffff040601ff", ops(5, 0, 3, 0xffffffff00000000, 4, 0, 6, 0, 1, 255), api.OK},
		{"0403000000000000000002", nil, api.ErrForm},
		{"040300010008000000000504", ops(4, 0, 3, 134217984, 5, 0, 4, 0), api.OK},
		{"040302000000ffffffff04", nil, api.ErrForm},
		{"03fffffffffeffffff035dc88bdd1565c09a01800280021e05", ops(3, 0xfffffffeffffffff, 3, 0x9ac06515dd8bc85d, 1, 128, 2, 128, 2, 30, 5, 0), api.OK},
		{"0300010000000000000300000000000000000388a9016b4c38df39050207", ops(3, 256, 3, 0, 3, 0x39df384c6b01a988, 5, 0, 2, 7), api.OK},
		{"05020c03ff0000000000000001010302000000ffffffff", nil, api.ErrForm},
		{"02ff050503263831a651eaada003ffffffffffffffff00", nil, api.ErrForm},
		{"0107", ops(1, 7), api.OK},
		{"010707", nil, api.ErrOp},
		{"03070707070707070707", nil, api.ErrOp},
		{"0401000500", nil, api.ErrOp},
	} {
		s, err := hex.DecodeString(x.text)
		if err != nil {
			t.Fatal(err)
		}
		parses(t, string(s), x.want, x.no)
	}
}

// P15.2: of no bytes there are no operations, and nothing is wrong.
func TestParseNone(t *testing.T) {
	parses(t, "", nil, api.OK)
}

// P15.2: a byte that is none of 1 to 6 at the begin, and behind whole operations of each kind, is told, whatever is behind it.
func TestNoKind(t *testing.T) {
	heads := []string{"", "\x01\x00", "\x02\xff", constant(0), constant(api.P - 1), "\x04", "\x05", "\x06", bytesOf(some(10, 3)), bytesOf(some(255, 4)), bytesOf(some(256, 5))}
	tails := []string{"", "\x00", "\x07", "\x01", "\x04", "\x03", constant(api.P), constant(5), bytesOf(some(300, 6))}
	for b := range 256 {
		if b >= 1 && b <= 6 {
			continue
		}
		for _, head := range heads {
			for _, tail := range tails {
				wrong(t, head+string([]byte{byte(b)})+tail, api.ErrOp)
			}
		}
	}
}

// P15.2: a byte that is no kind is one only where an operation begins.
func TestAnyByteWithin(t *testing.T) {
	for b := range 256 {
		same := strings.Repeat(string([]byte{byte(b)}), 7)
		n := uint64(b) * 0x01010101010101
		for _, kind := range []int{api.OpCur, api.OpNext} {
			s := string([]byte{byte(kind), byte(b)})
			parses(t, s, []api.Op{{Kind: kind, N: uint64(b)}}, api.OK)
			parses(t, s+s, []api.Op{{Kind: kind, N: uint64(b)}, {Kind: kind, N: uint64(b)}}, api.OK)
			parses(t, s+"\x05", []api.Op{{Kind: kind, N: uint64(b)}, {Kind: api.OpSub}}, api.OK)
		}
		parses(t, "\x03"+same+"\x00", []api.Op{{Kind: api.OpConst, N: n}}, api.OK)
		parses(t, "\x03"+same+"\x00\x06", []api.Op{{Kind: api.OpConst, N: n}, {Kind: api.OpMul}}, api.OK)
		wrong(t, "\x03"+same, api.ErrForm)
	}
}

// P15.2: texts that end behind each byte of an operation, behind none, one and many.
func TestCut(t *testing.T) {
	for _, head := range [][]api.Op{nil, {{Kind: api.OpAdd}}, some(7, 7), some(255, 8)} {
		for _, o := range right() {
			one := bytesOf([]api.Op{o})
			parses(t, bytesOf(head)+one, append(slices.Clone(head), o), api.OK)
			parses(t, bytesOf(head), head, api.OK)
			for k := 1; k < len(one); k++ {
				wrong(t, bytesOf(head)+one[:k], api.ErrForm)
			}
		}
	}
	l := some(200, 9)
	s := bytesOf(l)
	for k := range len(s) + 1 {
		alike(t, s[:k])
		alike(t, s[k:])
	}
}

// P15.2: constants below P are read, and none of P or more, even where a text ends with it, or a byte that is no kind comes behind.
func TestConstant(t *testing.T) {
	for _, n := range append(edges(), ordinary(500, 10)...) {
		s := constant(n)
		if n >= api.P {
			wrong(t, s, api.ErrForm)
			wrong(t, "\x01\x05"+s, api.ErrForm)
			wrong(t, s+"\x00", api.ErrForm)
			wrong(t, s+"\x07", api.ErrForm)
			wrong(t, s+"\x01", api.ErrForm)
			wrong(t, s+strings.Repeat("\x04", 300), api.ErrForm)
			continue
		}
		parses(t, s, []api.Op{{Kind: api.OpConst, N: n}}, api.OK)
		parses(t, "\x01\x05"+s+"\x04", []api.Op{{Kind: api.OpCur, N: 5}, {Kind: api.OpConst, N: n}, {Kind: api.OpAdd}}, api.OK)
		wrong(t, s+"\x00", api.ErrOp)
	}
}

// P15.2: up to 256 operations are read, and no more, of each kind alone and of all kinds.
func TestMany(t *testing.T) {
	for _, all := range [][]api.Op{some(1000, 11), some(1000, 12)} {
		for _, n := range []int{1, 2, 127, 128, 254, 255, 256} {
			parses(t, bytesOf(all[:n]), all[:n], api.OK)
		}
		for _, n := range []int{257, 258, 259, 511, 512, 513, 1000} {
			wrong(t, bytesOf(all[:n]), api.ErrLimit)
		}
	}
	for _, o := range right() {
		l := slices.Repeat([]api.Op{o}, 258)
		parses(t, bytesOf(l[:255]), l[:255], api.OK)
		parses(t, bytesOf(l[:256]), l[:256], api.OK)
		wrong(t, bytesOf(l[:257]), api.ErrLimit)
		wrong(t, bytesOf(l), api.ErrLimit)
	}
}

// P15.2: which error is the first from the left, around the 257th operation: what is wrong within it comes ahead of there being too many, what is behind it doesn't count.
func TestFirst(t *testing.T) {
	for seed := range uint64(6) {
		full := bytesOf(some(256, 20+seed))
		for _, x := range []struct {
			s  string
			no api.Errno
		}{
			{"", api.OK}, {"\x00", api.ErrOp}, {"\x07", api.ErrOp}, {"\xff", api.ErrOp},
			{"\x01", api.ErrForm}, {"\x02", api.ErrForm}, {"\x03", api.ErrForm}, {"\x03\x00\x00\x00\x00\x00\x00\x00", api.ErrForm}, {"\x03\xff\xff\xff\xff\xff\xff\xff", api.ErrForm},
			{constant(api.P), api.ErrForm}, {constant(top), api.ErrForm}, {constant(api.P) + "\x00", api.ErrForm},
			{"\x01\x00", api.ErrLimit}, {"\x02\x07", api.ErrLimit}, {constant(api.P - 1), api.ErrLimit}, {"\x04", api.ErrLimit}, {"\x05", api.ErrLimit}, {"\x06", api.ErrLimit},
			{"\x04\x00", api.ErrLimit}, {"\x04\x07", api.ErrLimit}, {"\x01\x07\x07", api.ErrLimit}, {"\x05\x01", api.ErrLimit}, {"\x06\x03", api.ErrLimit}, {"\x06" + constant(api.P), api.ErrLimit},
		} {
			if x.no == api.OK {
				parses(t, full, some(256, 20+seed), api.OK)
				continue
			}
			wrong(t, full+x.s, x.no)
		}
		// What is wrong ahead of the 257th is told ahead of it.
		half := bytesOf(some(100, 30+seed))
		wrong(t, half+"\x00"+full+full, api.ErrOp)
		wrong(t, half+constant(top)+full+full, api.ErrForm)
		wrong(t, half+constant(top)+"\x07", api.ErrForm)
		wrong(t, half+"\x07"+constant(top), api.ErrOp)
		wrong(t, half+"\x07\x01", api.ErrOp)
	}
}

// P1, P15.2, P15.3: of each text of up to three bytes, and of each longer one of a few bytes, what it is parsed as; what is parsed is right, and printed it is the text.
func TestAll(t *testing.T) {
	var walk func(s, letters string, more int)
	walk = func(s, letters string, more int) {
		alike(t, s)
		back(t, s)
		for i := 0; i < len(letters) && more > 0; i++ {
			walk(s+letters[i:i+1], letters, more-1)
		}
	}
	every := make([]byte, 256)
	for i := range every {
		every[i] = byte(i)
	}
	walk("", string(every), 2)
	for _, head := range []string{"\x01", "\x02", "\x03", "\x04"} {
		walk(head, string(every), 2)
	}
	walk("", "\x00\x01\x02\x03\x04\x05\x06\x07\xff", 5)
	walk("", "\x01\x03\x04", 11)
	walk("\x03", "\x00\xff", 9)
	walk("\x03\x00\x00\x00\x00", "\x00\x01\xff", 6)
	walk("\x03\x01\x00\x00\x00", "\xfe\xff", 5)
}

// back holds that what is parsed is right, and has the text's bytes.
func back(t *testing.T, s string) {
	t.Helper()
	l, no := code.Parse(s)
	if no != api.OK {
		return
	}
	if got := code.Print(l); got != s {
		t.Errorf("back and there, %x: %x", s, got)
	}
	for _, o := range l {
		if !code.Right(o) {
			t.Errorf("parsed of %x, but not right: %v", s, o)
		}
	}
}

// P1, P15.2: of any bytes there is an answer: ordinary ones, ones of few kinds, and long ones.
func TestAny(t *testing.T) {
	for seed := range uint64(3000) {
		l := ordinary(40, seed)
		s := make([]byte, len(l))
		for i, n := range l {
			s[i] = byte(n >> 30)
			if seed%3 > 0 && n%16 > 0 {
				s[i] = s[i]%6 + 1
			}
		}
		alike(t, string(s))
		back(t, string(s))
	}
	for _, b := range []byte{0, 1, 2, 3, 4, 5, 6, 7, 8, 127, 128, 255} {
		for _, n := range []int{255, 256, 257, 511, 512, 513, 514, 515, 2304, 2313, 1 << 20} {
			alike(t, strings.Repeat(string([]byte{b}), n))
		}
	}
}

// P15.3: there and back: an N comes back as it was, of one, of two and of as many as a rule has.
func TestThereAndBack(t *testing.T) {
	for _, a := range right() {
		parses(t, code.Print([]api.Op{a}), []api.Op{a}, api.OK)
		for _, b := range right() {
			parses(t, code.Print([]api.Op{a, b}), []api.Op{a, b}, api.OK)
		}
	}
	for n := range uint64(256) {
		l := []api.Op{{Kind: api.OpCur, N: n}, {Kind: api.OpNext, N: n}, {Kind: api.OpConst, N: n}, {Kind: api.OpConst, N: n << 56 % api.P}}
		parses(t, code.Print(l), l, api.OK)
	}
	for n := range 257 {
		l := some(n, uint64(40+n))
		parses(t, code.Print(l), l, api.OK)
	}
	parses(t, code.Print(right()), right(), api.OK)
	wrong(t, code.Print(some(257, 50)), api.ErrLimit)
}

// P15.3: unlike lists of operations have unlike bytes.
func TestUnlike(t *testing.T) {
	seen := map[string]bool{}
	for _, a := range right() {
		for _, l := range [][]api.Op{{a}, {a, a}, {a, {Kind: api.OpAdd}}, {{Kind: api.OpAdd}, a}} {
			seen[code.Print(l)] = true
		}
	}
	// Of OpAdd itself the last three lists are one.
	if want := 4*len(right()) - 2; len(seen) != want {
		t.Errorf("%d texts, not %d", len(seen), want)
	}
}

// Rules 3 and 4: what is handed in is as it was, its spare room too, and an answer is new memory.
func TestKept(t *testing.T) {
	l := some(20, 60)
	before := slices.Clone(l)
	s := code.Print(l[:5:20])
	if !slices.Equal(l, before) {
		t.Error("what was handed in has changed")
	}
	clear(l)
	if s != bytesOf(before[:5]) {
		t.Error("an answer has changed with what was handed in")
	}
	for range 2 {
		a, _ := code.Parse(s)
		b, _ := code.Parse(s)
		if !slices.Equal(a, before[:5]) || !slices.Equal(b, before[:5]) {
			t.Error("an answer hangs on an earlier one")
		}
		clear(a)
		if !slices.Equal(b, before[:5]) || s != bytesOf(before[:5]) {
			t.Error("two answers share their memory")
		}
		clear(b)
	}
}

// Rule 6: many may call at once.
func TestAtOnce(t *testing.T) {
	var wait sync.WaitGroup
	for k := range uint64(8) {
		wait.Go(func() {
			l := some(256, 70+k)
			s := bytesOf(l)
			for range 50 {
				got, no := code.Parse(code.Print(l))
				if no != api.OK || !slices.Equal(got, l) || code.Print(got) != s {
					t.Error("another answer at once")
				}
				wrong(t, s+"\x04", api.ErrLimit)
				wrong(t, s+"\x07", api.ErrOp)
			}
		})
	}
	wait.Wait()
}
