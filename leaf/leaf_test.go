package leaf_test

import (
	"encoding/binary"
	"encoding/hex"
	"slices"
	"strings"
	"sync"
	"testing"

	"assayer/api"
	"assayer/blake"
	"assayer/leaf"
)

const (
	top   = 1<<64 - 1
	one   = "\x00\x01\x02\x03\x04\x05\x06\x07\x08\x09\x0a\x0b\x0c\x0d\x0e\x0f\x10\x11\x12\x13\x14\x15\x16\x17\x18\x19\x1a\x1b\x1c\x1d\x1e\x1f"
	other = "\x20\x21\x22\x23\x24\x25\x26\x27\x28\x29\x2a\x2b\x2c\x2d\x2e\x2f\x30\x31\x32\x33\x34\x35\x36\x37\x38\x39\x3a\x3b\x3c\x3d\x3e\x3f"
)

// edges are numbers at the ends of the field, of what is beyond it, and of bytes.
func edges() []uint64 {
	return []uint64{0, 1, 5, 255, 256, 513, 1<<32 - 1, 1 << 32, 1 << 63, 0x0123456789abcdef, api.P - 1, api.P, api.P + 1, api.P + 5, top - 1, top}
}

// ordinary are n numbers over all 64 bits, always the same ones.
func ordinary(n int) []uint64 {
	x := uint64(0x9e3779b97f4a7c15)
	out := make([]uint64, n)
	for i := range out {
		x ^= x << 13
		x ^= x >> 7
		x ^= x << 17
		out[i] = x
	}
	return out
}

// upTo are the numbers 1 to n.
func upTo(n int) []uint64 {
	out := make([]uint64, n)
	for i := range out {
		out[i] = uint64(i + 1)
	}
	return out
}

// inPairs are the numbers of l, two in each pair.
func inPairs(l []uint64) []api.Pair {
	out := make([]api.Pair, len(l)/2)
	for i := range out {
		out[i] = api.Pair{A: l[2*i], B: l[2*i+1]}
	}
	return out
}

// text is the bytes of a row, by another means than layer 8.
func text(l []uint64) string {
	var out []byte
	for _, n := range l {
		out = binary.LittleEndian.AppendUint64(out, n)
	}
	return string(out)
}

// same holds that got is want, told in bytes.
func same(t *testing.T, what, got, want string) {
	t.Helper()
	if got != want {
		t.Errorf("%s: %x, not %x", what, got, want)
	}
}

// written holds that got is the sum that is written out, of 32 bytes.
func written(t *testing.T, what, got, want string) {
	t.Helper()
	if len(got) != 32 {
		t.Errorf("%s: %d bytes", what, len(got))
	}
	same(t, what, hex.EncodeToString([]byte(got)), want)
}

// P9.1: sums of rows that another program wrote: the chapter's example, none, one, two and many, a block's end among them, numbers beyond the field as they are.
func TestRowsWritten(t *testing.T) {
	for _, x := range []struct {
		row  []uint64
		want string
	}{
		{[]uint64{5}, "31fd538b7be1ed784c7e486d837cc974ac8685930706ffe7b33a045946f73841"},
		{nil, "e34d74dbaf4ff4c6abd871cc220451d2ea2648846c7757fbaac82fe51ad64bea"},
		{[]uint64{}, "e34d74dbaf4ff4c6abd871cc220451d2ea2648846c7757fbaac82fe51ad64bea"},
		{[]uint64{0}, "4ae15c95d4608ab2c5b3e32006d7c269eb1553eb5f2958022fa0b4523081c815"},
		{[]uint64{1}, "1a36321e8b27fc8e8f54727801d53b06c87ecbaa098ad36f9ef0508c92102835"},
		{[]uint64{513}, "01c593a2f8e6fca6ed0e8109c5f73153ce0ab9e035a7b1604ae93190f7abb2a6"},
		{[]uint64{api.P - 1}, "a2aa342606f4d04adb8633453c4260ab398e7d322c2af7c1768a0aecffec7ac4"},
		{[]uint64{api.P}, "88ad8e9ea420269e1791d27a400acc4cc40c5fe600f90c29f860e84b71f2bc4b"},
		{[]uint64{api.P + 5}, "2df5b9e3a178408d1d3774d109e637871497161f43d51efd912d7d744d7fa6f4"},
		{[]uint64{top}, "b4b7cbf7ac7d005df3651d8581b4f83432630402b3e203a998d0aa069c949575"},
		{[]uint64{0, 0}, "167b2f3446823e63ff50731cf4c137b0943921956ae31adc1f5666d542c87af4"},
		{[]uint64{5, 6}, "3076ab7f895a7d99d7ad902f5b9f9bf90e566ff39a51526cb040100314555d2d"},
		{[]uint64{6, 5}, "9482e1a32e8ea7aa0b1963e84eb175bdcc06280b0496b8d9cef1b101804ef9b1"},
		{upTo(7), "cc8c863395d3f6ab28a6fe2993c88fd60e09455f35032840dd3d06d78b6538b3"},
		{upTo(8), "a0d565c5ecc73259e717ca0333ade2c272ba6ed9167af5032a0ed04007379fad"},
		{upTo(9), "8511856ad8f3d4b5ddc10d8bf07ea6d87b35199c931d19273cfcb8db2595b9d2"},
		{upTo(100), "af7487abbd6107428d3cde44bc5550a32636c0d550fcac40ccfdbb27902fdff2"},
	} {
		written(t, "Base", leaf.Base(x.row), x.want)
		if len(x.row) > 0 {
			written(t, "Of numbers", leaf.Of(api.Open{Base: x.row}), x.want)
		}
		if p := inPairs(x.row); len(x.row)%2 == 0 {
			written(t, "Pairs", leaf.Pairs(p), x.want)
			written(t, "Of pairs", leaf.Of(api.Open{Row: p}), x.want)
		}
	}
}

// P9.1: nodes that another program wrote: of two texts of 32 bytes, the same two, the other way round; empty ones, and ones of other lengths.
func TestNodesWritten(t *testing.T) {
	for _, x := range []struct{ a, b, want string }{
		{one, other, "75556ea4660fd2ec755ae4190de9d55484c4c324c1d7fdbf1045080bfc00d078"},
		{other, one, "2c54193d65059488c384f5a0c9ba5f0fb03bf4544a8933d88405c7a5a5e4bb63"},
		{one, one, "b7aedcfeeb996e145e12a81206d8998f08a20785878b9a58120765bbbf6b9f30"},
		{other, other, "033f8ff0e5aef1ebc7d7eea3e1ada760bf5669242651796a0d64a2d9619e694b"},
		{"", "", "fc87f4f1d721942d282aa61989c069b290d1447d20d4b811430f47ea0edf9991"},
		{"a", "b", "5bfa44b0e0d5d82bec38266668d39a3d583f400b585dee60ccfe3806ace43386"},
		{"b", "a", "a4ba6a218f6f40d030aacd6b0f410208231aa5ed438ffc632d230a3b2a69a5c8"},
		{"", "ab", "5bfa44b0e0d5d82bec38266668d39a3d583f400b585dee60ccfe3806ace43386"},
		{"ab", "", "5bfa44b0e0d5d82bec38266668d39a3d583f400b585dee60ccfe3806ace43386"},
		{one[:31], other, "4a9f7853c3ae4c2d31ebaa5440668546015b9d2d39ca42befa8dc16fd2f01b4e"},
		{one, other[:31], "5df2b7bb20d1a3a2708b8daf50b75b2c0de657bb31065e82f5b085a3db89bb04"},
		{one + "x", other, "f57c9f38abe69f81e1751e136ee5b60c4d60391a089e5cb86180999d9b8f8f0e"},
		{strings.Repeat(one, 10), strings.Repeat(other, 10), "1b0eb5fb1f0d9c8720eefc31203f1c12808fe7987d14077245be9408e9c85d91"},
	} {
		written(t, "Node", leaf.Node(x.a, x.b), x.want)
	}
}

// P9.1: rows of numbers of any length and of any numbers.
func TestBase(t *testing.T) {
	l := append(edges(), ordinary(200)...)
	for _, n := range l {
		same(t, "Base of one", leaf.Base([]uint64{n}), blake.Sum("\x00"+text([]uint64{n})))
	}
	for n := range len(l) + 1 {
		same(t, "Base of many", leaf.Base(l[:n]), blake.Sum("\x00"+text(l[:n])))
	}
}

// P9.1: rows of pairs of any length and of any numbers, of each A, then B.
func TestPairs(t *testing.T) {
	l := append(edges(), ordinary(200)...)
	for _, a := range edges() {
		for _, b := range edges() {
			same(t, "Pairs of one", leaf.Pairs([]api.Pair{{A: a, B: b}}), blake.Sum("\x00"+text([]uint64{a, b})))
		}
	}
	for n := range len(l)/2 + 1 {
		same(t, "Pairs of many", leaf.Pairs(inPairs(l[:2*n])), blake.Sum("\x00"+text(l[:2*n])))
	}
}

// P9.1: nodes of texts of all lengths up to some blocks, and of sums.
func TestNode(t *testing.T) {
	s := text(ordinary(25))
	for n := range len(s) + 1 {
		a, b := s[:n], s[n:]
		same(t, "Node of both parts", leaf.Node(a, b), blake.Sum("\x01"+s))
		same(t, "Node of the other way round", leaf.Node(b, a), blake.Sum("\x01"+b+a))
		same(t, "Node of the same two", leaf.Node(a, a), blake.Sum("\x01"+a+a))
		same(t, "Node, first one empty", leaf.Node("", a), blake.Sum("\x01"+a))
		same(t, "Node, second one empty", leaf.Node(a, ""), blake.Sum("\x01"+a))
	}
	a, b := leaf.Base([]uint64{1}), leaf.Base([]uint64{2})
	if leaf.Node(a, b) == leaf.Node(b, a) || leaf.Node(a, a) == leaf.Node(a, b) || leaf.Node(a, a) == leaf.Node(b, b) {
		t.Error("unlike sums of one node")
	}
}

// opens are openings with the text that each has: of numbers alone, of pairs alone, of both, of neither, of any path.
func opens() (out []api.Open, want []string) {
	rows := [][]uint64{nil, {}, {0}, {5}, {api.P - 1}, {api.P}, {top}, {5, 6}, {0, 0}, edges(), ordinary(30)}
	paths := [][]string{nil, {}, {one}, {"", "x", other}}
	for _, base := range rows {
		for _, row := range rows {
			for _, path := range paths {
				x := api.Open{Base: base, Row: inPairs(row), Path: path}
				s := text(base)
				if len(base) == 0 {
					s = text(row[:2*len(x.Row)])
				}
				out, want = append(out, x), append(want, s)
			}
		}
	}
	return out, want
}

// P9.1: Text and Of go by Base, or, if that is empty, by Row, and never by the path.
func TestOpen(t *testing.T) {
	l, want := opens()
	for i, x := range l {
		same(t, "Text", leaf.Text(x), want[i])
		same(t, "Of", leaf.Of(x), blake.Sum("\x00"+want[i]))
		if len(x.Base) > 0 {
			same(t, "Of numbers", leaf.Of(x), leaf.Base(x.Base))
		} else {
			same(t, "Of pairs", leaf.Of(x), leaf.Pairs(x.Row))
		}
	}
}

// P9.1, openings written out: numbers ahead of pairs, a single nought isn't nothing, and there may be nothing.
func TestOpenWritten(t *testing.T) {
	five, six := "\x05\x00\x00\x00\x00\x00\x00\x00", "\x06\x00\x00\x00\x00\x00\x00\x00"
	pairs := []api.Pair{{A: 6, B: 5}}
	for _, x := range []struct {
		open api.Open
		want string
	}{
		{api.Open{Base: []uint64{5}}, five},
		{api.Open{Base: []uint64{5}, Row: pairs}, five},
		{api.Open{Row: pairs}, six + five},
		{api.Open{Base: []uint64{}, Row: pairs}, six + five},
		{api.Open{Base: []uint64{0}, Row: pairs}, "\x00\x00\x00\x00\x00\x00\x00\x00"},
		{api.Open{Base: []uint64{top}}, "\xff\xff\xff\xff\xff\xff\xff\xff"},
		{api.Open{Base: []uint64{api.P}}, "\x01\x00\x00\x00\xff\xff\xff\xff"},
		{api.Open{Path: []string{one, other}}, ""},
		{api.Open{}, ""},
	} {
		same(t, "Text", leaf.Text(x.open), x.want)
		same(t, "Of", leaf.Of(x.open), blake.Sum("\x00"+x.want))
	}
}

// P9.1: numbers and pairs of the same bytes have one text and one sum.
func TestSameBytes(t *testing.T) {
	l := append(edges(), ordinary(50)...)
	for n := 0; n <= len(l); n += 2 {
		base, row := l[:n], inPairs(l[:n])
		same(t, "sums", leaf.Pairs(row), leaf.Base(base))
		same(t, "texts", leaf.Text(api.Open{Row: row}), leaf.Text(api.Open{Base: base}))
		same(t, "sums of openings", leaf.Of(api.Open{Row: row}), leaf.Of(api.Open{Base: base}))
	}
}

// The chapter's way: a row and a node of the same bytes have unlike sums, wherever the node's two texts part.
func TestApart(t *testing.T) {
	rows := [][]uint64{nil, {0}, {1}, {256}, {0, 0}, upTo(8), edges(), ordinary(8)}
	for _, l := range rows {
		s := text(l)
		for n := range len(s) + 1 {
			node := leaf.Node(s[:n], s[n:])
			if node == leaf.Base(l) || node == leaf.Of(api.Open{Base: l}) {
				t.Errorf("a node and a row of %d numbers, parted at %d, have one sum", len(l), n)
			}
			if len(l)%2 == 0 && (node == leaf.Pairs(inPairs(l)) || node == leaf.Of(api.Open{Row: inPairs(l)})) {
				t.Errorf("a node and a row of %d pairs, parted at %d, have one sum", len(l)/2, n)
			}
		}
	}
}

// alike are rows that are nearly the same: of few numbers in all orders, of noughts alone, and one number or bit aside.
func alike() [][]uint64 {
	out := [][]uint64{{}}
	few := edges()
	for _, a := range few {
		out = append(out, []uint64{a})
		for _, b := range few {
			out = append(out, []uint64{a, b})
			for _, c := range few {
				out = append(out, []uint64{a, b, c}, []uint64{a, b, c, a})
			}
		}
	}
	for n := 5; n < 20; n++ {
		out = append(out, make([]uint64, n), ordinary(n), ordinary(n)[1:])
	}
	for bit := range 64 * 8 {
		l := upTo(8)
		l[bit/64] ^= 1 << (bit % 64)
		out = append(out, l)
	}
	return out
}

// unlike holds that what is told of unlike rows is unlike, of those whose length goes by so many.
func unlike(t *testing.T, what string, by int, tell func(l []uint64) string) {
	t.Helper()
	told := map[string][]uint64{}
	for _, l := range alike() {
		if len(l)%by != 0 {
			continue
		}
		s := tell(l)
		if before, ok := told[s]; ok && !slices.Equal(before, l) {
			t.Errorf("%s: %d and %d are told by %x", what, before, l, s)
		}
		told[s] = l
	}
}

// P9.2: unlike rows, of numbers or of pairs, have unlike texts, and none of these has the sum of another.
func TestUnlike(t *testing.T) {
	unlike(t, "Text of numbers", 1, func(l []uint64) string { return leaf.Text(api.Open{Base: l}) })
	unlike(t, "Of numbers", 1, func(l []uint64) string { return leaf.Of(api.Open{Base: l}) })
	unlike(t, "Base", 1, leaf.Base)
	unlike(t, "Text of pairs", 2, func(l []uint64) string { return leaf.Text(api.Open{Row: inPairs(l)}) })
	unlike(t, "Of pairs", 2, func(l []uint64) string { return leaf.Of(api.Open{Row: inPairs(l)}) })
	unlike(t, "Pairs", 2, func(l []uint64) string { return leaf.Pairs(inPairs(l)) })
}

// P9.2, rule 5: numbers that are the same modulo P are unlike here, as they are laid down as they are.
func TestModulo(t *testing.T) {
	for _, n := range []uint64{0, 1, 5, top - api.P} {
		a, b := api.Open{Base: []uint64{n}}, api.Open{Base: []uint64{n + api.P}}
		if leaf.Text(a) == leaf.Text(b) || leaf.Of(a) == leaf.Of(b) || leaf.Base(a.Base) == leaf.Base(b.Base) {
			t.Errorf("%d and P more have one text", n)
		}
		c, d := api.Open{Row: []api.Pair{{A: n}}}, api.Open{Row: []api.Pair{{A: n + api.P}}}
		if leaf.Text(c) == leaf.Text(d) || leaf.Of(c) == leaf.Of(d) || leaf.Pairs(c.Row) == leaf.Pairs(d.Row) {
			t.Errorf("a pair of %d and one of P more have one text", n)
		}
	}
}

// P1: rows and texts have no bound of their own.
func TestLong(t *testing.T) {
	l := ordinary(1<<20 + 4)
	s := text(l)
	want := blake.Sum("\x00" + s)
	same(t, "Base of a long row", leaf.Base(l), want)
	same(t, "Pairs of a long row", leaf.Pairs(inPairs(l)), want)
	same(t, "Of long numbers", leaf.Of(api.Open{Base: l}), want)
	same(t, "Of many pairs", leaf.Of(api.Open{Row: inPairs(l)}), want)
	same(t, "Node of long texts", leaf.Node(s, s), blake.Sum("\x01"+s+s))
	if leaf.Text(api.Open{Base: l}) != s || leaf.Text(api.Open{Row: inPairs(l)}) != s {
		t.Error("the text of a long row")
	}
}

// Rules 3 and 4: what is handed in is as it was, its spare room too, and no answer hangs on it afterwards, nor on an earlier call.
func TestKept(t *testing.T) {
	l := ordinary(20)
	p := inPairs(l)
	path := []string{one, other, "x"}
	for range 2 {
		x := api.Open{Base: l[:4:12], Row: p[:3:8], Path: path[:1:3]}
		y := api.Open{Row: p[:3:8], Path: path[:1:3]}
		a, b := leaf.Text(x), leaf.Text(y)
		same(t, "Base", leaf.Base(l[:4:12]), leaf.Of(x))
		same(t, "Pairs", leaf.Pairs(p[:3:8]), leaf.Of(y))
		if !slices.Equal(l, ordinary(20)) || !slices.Equal(p, inPairs(ordinary(20))) || !slices.Equal(path, []string{one, other, "x"}) {
			t.Fatal("what was handed in has changed")
		}
		clear(l)
		clear(p)
		same(t, "Text of numbers", a, text(ordinary(4)))
		same(t, "Text of pairs", b, text(ordinary(6)))
		copy(l, ordinary(20))
		copy(p, inPairs(ordinary(20)))
	}
}

// Rule 6: many may call at once.
func TestAtOnce(t *testing.T) {
	l := ordinary(40)
	p := inPairs(l)
	row, node := blake.Sum("\x00"+text(l)), blake.Sum("\x01"+one+other)
	var wait sync.WaitGroup
	for range 8 {
		wait.Go(func() {
			for range 50 {
				x := api.Open{Base: l, Row: p}
				if leaf.Base(l) != row || leaf.Pairs(p) != row || leaf.Of(x) != row || leaf.Node(one, other) != node || leaf.Text(x) != text(l) {
					t.Error("another answer at once")
				}
			}
		})
	}
	wait.Wait()
}
