package blake_test

import (
	"encoding/binary"
	"encoding/hex"
	"math/big"
	"slices"
	"strconv"
	"strings"
	"sync"
	"testing"

	"assayer/blake"
)

const (
	top  = 1<<64 - 1
	all  = 1<<32 - 1 // all bits of a word
	over = 1 << 32   // words count modulo that
)

// orders are the chapter's, as it writes them.
const orders = "0 1 2 3 4 5 6 7 8 9 10 11 12 13 14 15; 14 10 4 8 9 15 13 6 1 12 0 2 11 7 5 3; " +
	"11 8 12 0 5 2 15 13 10 14 3 6 7 1 9 4; 7 9 3 1 13 12 11 14 2 6 5 10 4 0 15 8; " +
	"9 0 5 7 2 4 10 15 14 1 11 12 6 8 3 13; 2 12 6 10 0 11 8 3 4 13 7 5 15 14 1 9; " +
	"12 5 1 15 14 13 4 10 0 7 6 3 9 2 8 11; 13 11 7 14 12 1 3 9 5 0 15 4 8 6 2 10; " +
	"6 15 14 9 11 3 0 8 12 2 13 7 1 4 10 5; 10 2 8 4 7 6 1 5 15 11 9 14 3 12 13 0"

// mixed are the places of v that are mixed, eight times a round.
var mixed = [8][4]int{
	{0, 4, 8, 12}, {1, 5, 9, 13}, {2, 6, 10, 14}, {3, 7, 11, 15},
	{0, 5, 10, 15}, {1, 6, 11, 12}, {2, 7, 8, 13}, {3, 4, 9, 14},
}

var (
	noughts = [8]uint32{}
	ones    = [8]uint32{all, all, all, all, all, all, all, all}
	steps   = [8]uint32{0x11111111, 0x22222222, 0x33333333, 0x44444444, 0x55555555, 0x66666666, 0x77777777, 0x88888888}
)

// start is the words that all begins with, by another means: the first 32 bits behind the point of the roots of the first eight primes.
func start() [8]uint32 {
	var h [8]uint32
	for i, p := range []int64{2, 3, 5, 7, 11, 13, 17, 19} {
		root := new(big.Int).Sqrt(new(big.Int).Lsh(big.NewInt(p), 64))
		h[i] = uint32(root.Uint64())
	}
	return h
}

// rounds are the orders, as numbers.
func rounds(t *testing.T) [][]int {
	t.Helper()
	var out [][]int
	for _, line := range strings.Split(orders, "; ") {
		var order []int
		for _, word := range strings.Fields(line) {
			n, err := strconv.Atoi(word)
			if err != nil {
				t.Fatal(err)
			}
			order = append(order, n)
		}
		out = append(out, order)
	}
	return out
}

// down is a turned down by n, by quotients and rests.
func down(a uint64, n int) uint64 {
	by := uint64(1) << n
	return a/by + a%by*(over/by)
}

// press is Press by another means: words are numbers of 64 bits that are taken modulo 2^32.
func press(t *testing.T, h [8]uint32, block [64]byte, n uint64, last bool) [8]uint32 {
	t.Helper()
	var v [16]uint64
	for i, word := range start() {
		v[i], v[i+8] = uint64(h[i]), uint64(word)
	}
	v[12] ^= n % over
	v[13] ^= n / over
	if last {
		v[14] = all - v[14]
	}
	for _, s := range rounds(t) {
		for i, p := range mixed {
			a, b, c, d := &v[p[0]], &v[p[1]], &v[p[2]], &v[p[3]]
			for j, turns := range [2][2]int{{16, 12}, {8, 7}} {
				word := binary.LittleEndian.Uint32(block[4*s[2*i+j]:])
				*a = (*a + *b + uint64(word)) % over
				*d = down(*d^*a, turns[0])
				*c = (*c + *d) % over
				*b = down(*b^*c, turns[1])
			}
		}
	}
	for i := range h {
		h[i] ^= uint32(v[i]) ^ uint32(v[i+8])
	}
	return h
}

// whole is Sum of one text by another means.
func whole(t *testing.T, s string) string {
	t.Helper()
	h := start()
	h[0] ^= 0x01010020
	for n := 0; ; n += 64 {
		var block [64]byte
		if copy(block[:], s[n:]); len(s)-n <= 64 {
			return laid(press(t, h, block, uint64(len(s)), true))
		}
		h = press(t, h, block, uint64(n+64), false)
	}
}

// laid is words in bytes, the lowest first.
func laid(h [8]uint32) string {
	var out []byte
	for _, word := range h {
		out = binary.LittleEndian.AppendUint32(out, word)
	}
	return string(out)
}

// text is n bytes, 0 to 250 again and again: no two blocks near one another are alike.
func text(n int) string {
	out := make([]byte, n)
	for i := range out {
		out[i] = byte(i % 251)
	}
	return string(out)
}

// spread is a rule that gives ordinary numbers over all 64 bits, always the same ones.
func spread() func() uint64 {
	x := uint64(0x9e3779b97f4a7c15)
	return func() uint64 {
		x ^= x << 13
		x ^= x >> 7
		x ^= x << 17
		return x
	}
}

// blocks are one of noughts, one of ones, a counted one, some with one byte or bit alone, then ordinary ones.
func blocks() [][64]byte {
	l := make([][64]byte, 12)
	l[1] = counted()
	for i := range 64 {
		l[2][i] = 255
		l[3][i] = 128
	}
	l[4][0], l[5][63], l[6][3], l[7][60] = 1, 128, 255, 1
	next := spread()
	for k := range l[8:] {
		for i := range 64 {
			l[8+k][i] = byte(next() >> 20)
		}
	}
	return l
}

// counted is the block 0 to 63.
func counted() [64]byte {
	var block [64]byte
	for i := range block {
		block[i] = byte(i)
	}
	return block
}

// filled is a block of one byte.
func filled(b byte) [64]byte {
	var block [64]byte
	for i := range block {
		block[i] = b
	}
	return block
}

// states are those of noughts, of ones, steps, those that all begins with, then ordinary ones.
func states() [][8]uint32 {
	l := [][8]uint32{noughts, ones, steps, start(), {1}, {7: 1 << 31}}
	next := spread()
	for range 4 {
		var h [8]uint32
		for i := range h {
			h[i] = uint32(next() >> 16)
		}
		l = append(l, h)
	}
	return l
}

// sizes are numbers of bytes: few, those where words or their signs begin and end, beyond 2^32 too, and an ordinary one.
func sizes() []uint64 {
	return []uint64{
		0, 1, 63, 64, 65, 128, 1<<31 - 1, 1 << 31, 1<<32 - 64, 1<<32 - 1, 1 << 32, 1<<32 + 1, 1<<32 + 64, 1 << 33,
		1<<40 + 5, 1<<63 - 1, 1 << 63, top - 1<<32, top - 1, top, 0x0123456789abcdef,
	}
}

// lengths are those of texts where blocks begin and end, and ordinary ones.
func lengths() []int {
	return []int{0, 1, 2, 3, 4, 5, 31, 32, 33, 62, 63, 64, 65, 66, 100, 126, 127, 128, 129, 130, 191, 192, 193, 255, 256, 257, 320, 1000}
}

// same holds a sum against what it is asked, in base sixteen.
func same(t *testing.T, what, got, want string) {
	t.Helper()
	if hex.EncodeToString([]byte(got)) != want {
		t.Errorf("%s: %x, not %s", what, got, want)
	}
}

// P7.1: words, blocks, and numbers of bytes of all kinds, of the last block and of one that isn't.
func TestPress(t *testing.T) {
	for _, h := range states() {
		for _, block := range blocks() {
			for _, n := range sizes() {
				for _, last := range []bool{false, true} {
					if got, want := blake.Press(h, block, n, last), press(t, h, block, n, last); got != want {
						t.Errorf("Press of %x, %x, %d, %v: %x, not %x", h, block, n, last, got, want)
					}
				}
			}
		}
	}
}

// P7.1: answers that are written out.
func TestPressWritten(t *testing.T) {
	for _, x := range []struct {
		h     [8]uint32
		block [64]byte
		n     uint64
		last  bool
		want  [8]uint32
	}{
		{noughts, filled(0), 0, false, [8]uint32{0x6e26b02a, 0xa6a7800d, 0x51bb7b89, 0x1f01db51, 0x077b942d, 0x23e6122a, 0xa37d48e1, 0x6e00c75e}},
		{noughts, filled(0), 0, true, [8]uint32{0x45ec4013, 0xd925613b, 0x856d2a3c, 0xbf944ff6, 0xc50a2561, 0x65e31379, 0x16784816, 0x47ad26d8}},
		{ones, filled(255), top, false, [8]uint32{0xd347872a, 0x55f9379a, 0x1423a9ee, 0x206990ce, 0x139e90ba, 0xc56233fc, 0x63cdc271, 0x8d4d4d27}},
		{ones, filled(255), top, true, [8]uint32{0x3570b638, 0x8125b93a, 0xa68c3ecd, 0x88ad94d0, 0x7fe13e84, 0x01f184e0, 0x41a5f0df, 0x1a4da8cb}},
		{noughts, filled(255), 1<<32 - 1, false, [8]uint32{0x9d76364c, 0xb59f56ac, 0x1a3fb0d7, 0xcc5a19d1, 0x70d7b464, 0x6e1b1d72, 0xf184064d, 0x65aeebe4}},
		{ones, filled(0), 1 << 32, true, [8]uint32{0xbd70e2ab, 0x40b2534d, 0x071948bc, 0x35872c45, 0x0d2f40ad, 0x772747d5, 0x2a71f94b, 0x9fb1ed78}},
		{steps, counted(), 64, false, [8]uint32{0x41a8b034, 0x1eed7a74, 0xc0f44ee1, 0x6f3ddd58, 0x389bec17, 0xaeddde2c, 0x17e49d1e, 0x3513d345}},
		{steps, counted(), 64, true, [8]uint32{0x9b06e310, 0x89a83922, 0xe7176584, 0xb9685d39, 0xa7d2f76b, 0x1647f266, 0xc8a8dbc5, 0x7863719b}},
		{steps, counted(), 1 << 32, false, [8]uint32{0x7c9f9d50, 0x70bb8394, 0xf5de5821, 0x254c7eb4, 0x14df9489, 0x646b523b, 0x8dccf239, 0xeac5331d}},
		{steps, counted(), 1<<32 + 64, false, [8]uint32{0xdc59ade3, 0x7b44c407, 0x36998bc8, 0x84614c43, 0x548567b3, 0x1f5abad5, 0x9d37da29, 0x24cd09bf}},
		{steps, counted(), 1<<32 + 64, true, [8]uint32{0xc876e1aa, 0xf8f37a2b, 0xc151b314, 0xaa8d6f81, 0x91733cfd, 0xe1dc5e0e, 0x33eaed73, 0xb953d932}},
		{steps, counted(), 0x0123456789abcdef, false, [8]uint32{0x8578dc47, 0x2d145aa6, 0x73df9e52, 0xfd91022c, 0x95c0ef76, 0x762e9321, 0x0de826f7, 0x42d61edc}},
		{steps, counted(), 0x0123456789abcdef, true, [8]uint32{0xa607b95a, 0xca15629f, 0xfd6bd761, 0x8e08e076, 0xe8f38f74, 0x56b04764, 0x71463538, 0xeccc375c}},
		{steps, counted(), 1 << 63, false, [8]uint32{0x910d4122, 0xc998764c, 0x2159c49e, 0x9d2a7ca0, 0x93739f59, 0x9e8b31db, 0x0faa391f, 0xece29e70}},
	} {
		if got := blake.Press(x.h, x.block, x.n, x.last); got != x.want {
			t.Errorf("Press of %x, %x, %d, %v: %x, not %x", x.h, x.block, x.n, x.last, got, x.want)
		}
	}
}

// P7.1: each bit that is handed in counts.
func TestPressBits(t *testing.T) {
	h, block, n := steps, counted(), uint64(1<<32+64)
	seen := map[[8]uint32]string{}
	put := func(what string, h [8]uint32, block [64]byte, n uint64, last bool) {
		t.Helper()
		got := blake.Press(h, block, n, last)
		if before, ok := seen[got]; ok {
			t.Errorf("%s: the same as %s", what, before)
		}
		seen[got] = what
	}
	put("as it is", h, block, n, false)
	put("the last one", h, block, n, true)
	for i := range 256 {
		other := h
		other[i/32] ^= 1 << (i % 32)
		put("bit "+strconv.Itoa(i)+" of h", other, block, n, false)
	}
	for i := range 512 {
		other := block
		other[i/8] ^= 1 << (i % 8)
		put("bit "+strconv.Itoa(i)+" of the block", h, other, n, false)
	}
	for i := range 64 {
		put("bit "+strconv.Itoa(i)+" of n", h, block, n^1<<i, false)
	}
	if len(seen) != 2+256+512+64 {
		t.Errorf("%d answers", len(seen))
	}
}

// P7.1 and P7.2, of RFC 7693: its own test, of many texts with keys and without, and of sums of 16 to 32 bytes.
func TestRFC(t *testing.T) {
	var out []string
	for _, long := range []int{16, 20, 28, 32} {
		for _, n := range []int{0, 3, 64, 65, 255, 1024} {
			in := sequence(n)
			out = append(out, keyed(long, "", in), keyed(long, sequence(long), in))
		}
	}
	same(t, "the RFC's test", blake.Sum(out...), "6a411f08ce25adcdfb02aba641451cec53c598b24f4fc787fbdc88797f4c1dfe")
}

// sequence is the RFC's text of n bytes.
func sequence(n int) string {
	var out []byte
	a, b := 0xdead4bad*uint32(n), uint32(1)
	for range n {
		a, b = b, a+b
		out = append(out, byte(b>>24))
	}
	return string(out)
}

// keyed is the RFC's sum of so many bytes, with a key, by Press alone.
func keyed(long int, key, in string) string {
	h := start()
	h[0] ^= 0x01010000 ^ uint32(len(key))<<8 ^ uint32(long)
	if key != "" {
		in = key + strings.Repeat("\x00", 64-len(key)) + in
	}
	n := 0
	for ; len(in)-n > 64; n += 64 {
		h = blake.Press(h, [64]byte([]byte(in[n:n+64])), uint64(n+64), false)
	}
	var block [64]byte
	copy(block[:], in[n:])
	return laid(blake.Press(h, block, uint64(len(in)), true))[:long]
}

// P7.2: one text of each number of bytes, around all ends of blocks.
func TestSum(t *testing.T) {
	s := text(5000)
	for n := range 700 {
		if got, want := blake.Sum(s[:n]), whole(t, s[:n]); got != want {
			t.Errorf("Sum of %d bytes: %x, not %x", n, got, want)
		}
	}
	for n := 700; n <= len(s); n += 61 {
		if got, want := blake.Sum(s[:n]), whole(t, s[:n]); got != want {
			t.Errorf("Sum of %d bytes: %x, not %x", n, got, want)
		}
	}
}

// P7.2, the chapter's example, and sums that are written out.
func TestSumWritten(t *testing.T) {
	same(t, "abc", blake.Sum("abc"), "508c5e8c327c14e2e1a72ba34eeb452f37458b209ed63a294d999b4c86675982")
	same(t, "a, b, c", blake.Sum("a", "b", "c"), "508c5e8c327c14e2e1a72ba34eeb452f37458b209ed63a294d999b4c86675982")
	same(t, "a sentence", blake.Sum("The quick brown fox jumps over the lazy dog"), "606beeec743ccbeff6cbcdf5d5302aa855c256c29b88c8ed331ea1a6bf3c8812")
	same(t, "a million times a", blake.Sum(strings.Repeat("a", 1000000)), "bec0c0e6cde5b67acb73b81f79a67a4079ae1c60dac9d2661af18e9f8b50dfa5")
	var each []string
	for n := range 1025 {
		each = append(each, blake.Sum(text(n)))
	}
	same(t, "sums of 0 to 1024 bytes", blake.Sum(each...), "c758ad4264d16c10dc9d629333ca9e5dde8659de3a4f0645b8062b93fcb0b171")
	for _, x := range []struct {
		n    int
		want string
	}{
		{0, "69217a3079908094e11121d042354a7c1f55b6482ca1a51e1b250dfd1ed0eef9"},
		{1, "e34d74dbaf4ff4c6abd871cc220451d2ea2648846c7757fbaac82fe51ad64bea"},
		{2, "ddad9ab15dac4549ba42f49d262496bef6c0bae1dd342a8808f8ea267c6e210c"},
		{63, "e57cb79487dd57902432b250733813bd96a84efce59f650fac26e6696aefafc3"},
		{64, "56f34e8b96557e90c1f24b52d0c89d51086acf1b00f634cf1dde9233b8eaaa3e"},
		{65, "1b53ee94aaf34e4b159d48de352c7f0661d0a40edff95a0b1639b4090e974472"},
		{127, "f18417b39d617ab1c18fdf91ebd0fc6d5516bb34cf39364037bce81fa04cecb1"},
		{128, "1fa877de67259d19863a2a34bcc6962a2b25fcbf5cbecd7ede8f1fa36688a796"},
		{129, "5bd169e67c82c2c2e98ef7008bdf261f2ddf30b1c00f9e7f275bb3e8a28dc9a2"},
		{1000, "1c067a5e746fb0f6734efac9a8cdb0e11061f0077f255184365c690115392501"},
		{4095, "1db35136887b3fd2c2cbeb7dc4d217da0e23a0a30ae596e660b602b6f5875a46"},
		{4096, "753200579e43772518340d84db0958f343329f84493e7c69fcf195d4060cb9c5"},
		{4097, "e9c3959a48e4d0c3e58e2c6fc2686955a677f2c315eeb0097f3e2fe543a01ab9"},
		{10000, "ccc0841dd7c39f8fe87956a69f975c51c7fc2e021e0efc9f566e83060c4df5ce"},
	} {
		same(t, strconv.Itoa(x.n)+" bytes", blake.Sum(text(x.n)), x.want)
	}
}

// P7.2: of no text at all, and of empty ones alone, the sum is that of nothing.
func TestNothing(t *testing.T) {
	const want = "69217a3079908094e11121d042354a7c1f55b6482ca1a51e1b250dfd1ed0eef9"
	same(t, "no text", blake.Sum(), want)
	same(t, "a list of none", blake.Sum([]string{}...), want)
	same(t, "a nil list", blake.Sum([]string(nil)...), want)
	same(t, "an empty text", blake.Sum(""), want)
	same(t, "empty texts", blake.Sum("", "", ""), want)
	same(t, "many empty texts", blake.Sum(make([]string, 1000)...), want)
}

// P7.2: a text parted at each place, empty texts between too, has the same sum.
func TestParted(t *testing.T) {
	s := text(1000)
	for _, n := range lengths() {
		want := whole(t, s[:n])
		for i := range n + 1 {
			if blake.Sum(s[:i], s[i:n]) != want {
				t.Errorf("%d bytes parted at %d", n, i)
			}
			if blake.Sum("", s[:i], "", "", s[i:n], "") != want {
				t.Errorf("%d bytes parted at %d, with empty texts", n, i)
			}
		}
	}
	for i := range 131 {
		for j := i; j <= 130; j++ {
			if blake.Sum(s[:i], s[i:j], s[j:130]) != blake.Sum(s[:130]) {
				t.Errorf("130 bytes parted at %d and %d", i, j)
			}
		}
	}
}

// P7.2: many texts of few bytes, and of as many as blocks have, of one less and of one more.
func TestMany(t *testing.T) {
	s := text(5000)
	want := whole(t, s)
	for _, n := range []int{1, 2, 3, 7, 8, 31, 32, 33, 63, 64, 65, 127, 128, 129, 4999} {
		var parts, between []string
		for rest := s; rest != ""; {
			k := min(n, len(rest))
			parts = append(parts, rest[:k])
			between = append(between, "", rest[:k])
			rest = rest[k:]
		}
		if blake.Sum(parts...) != want {
			t.Errorf("%d texts of %d bytes", len(parts), n)
		}
		if blake.Sum(between...) != want {
			t.Errorf("%d texts of %d bytes, with empty ones between", len(parts), n)
		}
	}
	var rising []string
	for i := 0; i < len(s); i += len(rising) {
		rising = append(rising, s[i:min(i+len(rising)+1, len(s))])
	}
	if blake.Sum(rising...) != want {
		t.Error("texts of 1, 2, 3 and so on bytes")
	}
}

// P7.2: unlike texts have unlike sums, where one is the other with bytes 0 behind or ahead, or they have their bytes in another order.
func TestUnlike(t *testing.T) {
	seen := map[string]string{}
	put := func(s string) {
		t.Helper()
		sum := blake.Sum(s)
		if len(sum) != 32 {
			t.Errorf("Sum of %x has %d bytes", s, len(sum))
		}
		if before, ok := seen[sum]; ok && before != s {
			t.Errorf("Sum of %x is that of %x", s, before)
		}
		seen[sum] = s
	}
	for n := range 260 {
		put(strings.Repeat("\x00", n))
		put(strings.Repeat("\xff", n))
		put(text(n))
		put(text(n) + "\x00")
		put("\x01" + text(n))
		put(text(n) + text(64) + text(n))
	}
	for _, n := range []int{64, 128, 129} {
		for i := range 8 * n {
			other := []byte(text(n))
			other[i/8] ^= 1 << (i % 8)
			put(string(other))
		}
	}
}

// P7.1 and P7.2: a sum is Press of block by block, the last one as the last.
func TestBlocks(t *testing.T) {
	s := text(192)
	h := start()
	h[0] ^= 0x01010020
	one := blake.Press(h, [64]byte([]byte(s[:64])), 64, false)
	two := blake.Press(one, [64]byte([]byte(s[64:128])), 128, false)
	for _, x := range []struct {
		n    int
		want [8]uint32
	}{
		{0, blake.Press(h, [64]byte{}, 0, true)},
		{64, blake.Press(h, [64]byte([]byte(s[:64])), 64, true)},
		{65, blake.Press(one, [64]byte{s[64]}, 65, true)},
		{128, blake.Press(one, [64]byte([]byte(s[64:128])), 128, true)},
		{129, blake.Press(two, [64]byte{s[128]}, 129, true)},
		{192, blake.Press(two, [64]byte([]byte(s[128:192])), 192, true)},
	} {
		if got := blake.Sum(s[:x.n]); got != laid(x.want) {
			t.Errorf("Sum of %d bytes: %x, not %x", x.n, got, laid(x.want))
		}
	}
}

// Rule 3: what is handed in stays as it is, and so does the room behind it.
func TestKept(t *testing.T) {
	list := []string{text(70), "", "abc", "behind", "more"}
	before := slices.Clone(list)
	sum := blake.Sum(list[:3]...)
	if !slices.Equal(list, before) {
		t.Errorf("the list is now %q", list)
	}
	list[0] = "another"
	if sum != whole(t, text(70)+"abc") {
		t.Errorf("the sum is now %x", sum)
	}
	h, block := steps, counted()
	blake.Press(h, block, 64, true)
	if h != steps || block != counted() {
		t.Errorf("the words are now %x, the block %x", h, block)
	}
}

// Rules 4 and 6: nothing is kept from call to call, and many goroutines may ask at once.
func TestAtOnce(t *testing.T) {
	var want []string
	for _, n := range lengths() {
		want = append(want, whole(t, text(n)))
	}
	press := press(t, steps, counted(), 1<<32, true)
	var wg sync.WaitGroup
	for range 8 {
		wg.Go(func() {
			for range 10 {
				for i, n := range lengths() {
					s := text(n)
					if blake.Sum(s[:n/2], s[n/2:]) != want[i] {
						t.Errorf("another sum of %d bytes at once", n)
					}
				}
				if blake.Press(steps, counted(), 1<<32, true) != press {
					t.Error("another answer of Press at once")
				}
			}
		})
	}
	wg.Wait()
}
