package clash_test

import (
	"encoding/binary"
	"encoding/hex"
	"math"
	"slices"
	"strings"
	"sync"
	"testing"

	"assayer/api"
	"assayer/blake"
	"assayer/clash"
	"assayer/leaf"
	"assayer/tree"
)

const (
	first  = "\x00\x01\x02\x03\x04\x05\x06\x07\x08\x09\x0a\x0b\x0c\x0d\x0e\x0f\x10\x11\x12\x13\x14\x15\x16\x17\x18\x19\x1a\x1b\x1c\x1d\x1e\x1f"
	second = "\x20\x21\x22\x23\x24\x25\x26\x27\x28\x29\x2a\x2b\x2c\x2d\x2e\x2f\x30\x31\x32\x33\x34\x35\x36\x37\x38\x39\x3a\x3b\x3c\x3d\x3e\x3f"
	third  = "\x40\x41\x42\x43\x44\x45\x46\x47\x48\x49\x4a\x4b\x4c\x4d\x4e\x4f\x50\x51\x52\x53\x54\x55\x56\x57\x58\x59\x5a\x5b\x5c\x5d\x5e\x5f"
)

// places are some of all kinds: even, odd, far, below 0, and the ends.
func places() []int {
	return []int{
		0, 1, 2, 3, 4, 5, 6, 7, 8, 21, 42, 1<<40 - 1, 1 << 40, 0x5555555555555555, math.MaxInt - 1, math.MaxInt,
		-1, -2, -3, -4, -5, -6, -7, -8, -21, -42, -1 << 40, 1 - 1<<40, math.MinInt + 2, math.MinInt + 1, math.MinInt,
	}
}

// sums are n of 32 bytes.
func sums(n int) []string {
	out := make([]string, n)
	for i := range out {
		out[i] = leaf.Base([]uint64{uint64(i)})
	}
	return out
}

// uneven are n texts, some of them empty, or of another length than a sum.
func uneven(n int) []string {
	out := make([]string, n)
	for i := range out {
		out[i] = strings.Repeat(string(rune('a'+i%26)), i*7%70)
	}
	return out
}

// text is the bytes of numbers, by another means than layer 8.
func text(l ...uint64) string {
	var out []byte
	for _, n := range l {
		out = binary.LittleEndian.AppendUint64(out, n)
	}
	return string(out)
}

// opens are rows of numbers, of pairs, of both and of neither, with the text that each has.
func opens() ([]api.Open, []string) {
	top := uint64(math.MaxUint64)
	return []api.Open{
		{Base: []uint64{5}},
		{Base: []uint64{5, 6, 7}},
		{Base: []uint64{0}},
		{Base: []uint64{api.P, top, api.P - 1}},
		{Row: []api.Pair{{A: 5, B: 6}, {A: 7}}},
		{Row: []api.Pair{{}}},
		{Row: []api.Pair{{A: top, B: api.P}}},
		{Base: []uint64{5}, Row: []api.Pair{{A: 6}}},
		{Base: []uint64{}, Row: []api.Pair{{A: 6}}},
		{},
		{Base: []uint64{}, Row: []api.Pair{}, Path: []string{}},
	}, []string{
		text(5), text(5, 6, 7), text(0), text(api.P, top, api.P-1),
		text(5, 6, 7, 0), text(0, 0), text(top, api.P), text(5), text(6, 0), "", "",
	}
}

// way is the trail from a row's text up, by the bits of a place; one below 0 goes as its opposite, since it is halved towards 0.
func way(i int, row string, path []string) []string {
	n := uint64(i)
	if i < 0 {
		n = -n
	}
	out := []string{"\x00" + row}
	for j, beside := range path {
		two := [2]string{blake.Sum(out[j]), beside}
		odd := n >> j & 1
		out = append(out, "\x01"+two[odd]+two[1-odd])
	}
	return out
}

// parting is the last place at which two lists of as many are unlike, or -1.
func parting(a, b []string) int {
	last := -1
	for j := range a {
		if a[j] != b[j] {
			last = j
		}
	}
	return last
}

// goes holds that a trail is what it should be.
func goes(t *testing.T, i int, x api.Open, want []string) {
	t.Helper()
	if got := clash.Trail(i, x); !slices.Equal(got, want) {
		t.Errorf("Trail from place %d, a path of %d: %x, not %x", i, len(x.Path), got, want)
	}
}

// part holds that two lists part by these texts.
func part(t *testing.T, a, b []string, x, y string) {
	t.Helper()
	if s, u, ok := clash.Unlike(a, b); !ok || s != x || u != y {
		t.Errorf("Unlike of %x and %x: %x, %x, %v", a, b, s, u, ok)
	}
}

// alike holds that two lists show nothing.
func alike(t *testing.T, a, b []string) {
	t.Helper()
	if s, u, ok := clash.Unlike(a, b); ok || s != "" || u != "" {
		t.Errorf("Unlike of %x and %x: %x, %x, %v", a, b, s, u, ok)
	}
}

// nothing holds that two openings show nothing, either way round.
func nothing(t *testing.T, what, root string, depth, i int, a, b api.Open) {
	t.Helper()
	for range 2 {
		if s, u, ok := clash.Extract(root, depth, i, a, b); ok || s != "" || u != "" {
			t.Errorf("Extract, %s: depth %d, place %d: %x, %x, %v", what, depth, i, s, u, ok)
		}
		a, b = b, a
	}
}

// P11.1, the chapter's example: of a, b, c and x, y, c: b and y.
func TestExample(t *testing.T) {
	part(t, []string{"a", "b", "c"}, []string{"x", "y", "c"}, "b", "y")
}

// P11.1: whole trails that another program wrote: of one number, of three, of pairs and of neither.
func TestTrailWritten(t *testing.T) {
	for _, x := range []struct {
		open api.Open
		want [3]string
	}{
		{api.Open{Base: []uint64{5}}, [3]string{
			"000500000000000000",
			"017031fd538b7be1ed784c7e486d837cc974ac8685930706ffe7b33a045946f73841",
			"015061ded2960be988f70a9a9fac4ab8f8da2c9e880b24f6fdff302ecdd157176e71",
		}},
		{api.Open{Base: []uint64{5, 6, 7}, Row: []api.Pair{{A: 5}}}, [3]string{
			"00050000000000000006000000000000000700000000000000",
			"0170b679e67acf6f1c9bf51d9a3f9bae78dafd6705518ac8645823402e766f9d875e",
			"019d47be7222057221ffa5b3c9c66a2413b80abca0e303af6880109a5845a0edab71",
		}},
		{api.Open{Row: []api.Pair{{A: 5, B: 6}, {A: 7}}}, [3]string{
			"000500000000000000060000000000000007000000000000000000000000000000",
			"01707613fc77f3c13e484a90dcba9ad3e7da3b122a38d7dbbc8290636187bae7dae7",
			"01c1b963dbc4a955f13b71f9edbe54eeb2123b42de32ec5c19d100e898870ab89d71",
		}},
		{api.Open{}, [3]string{
			"00",
			"0170e34d74dbaf4ff4c6abd871cc220451d2ea2648846c7757fbaac82fe51ad64bea",
			"0199770a4eb1b83b267889876cdacfd8b5af96b1f434d730d2ce2ee73f296d0a4871",
		}},
	} {
		x.open.Path = []string{"p", "q"}
		got := clash.Trail(1, x.open)
		if len(got) != 3 {
			t.Fatalf("a trail by a path of two: %x", got)
		}
		for j, want := range x.want {
			if s := hex.EncodeToString([]byte(got[j])); s != want {
				t.Errorf("text %d of a trail: %s, not %s", j, s, want)
			}
		}
	}
}

// P11.1: sums of trails' last texts that another program wrote, of all places' kinds: even, odd, greater than the path needs, below 0.
func TestPlacesWritten(t *testing.T) {
	ends := []string{
		"c7fbf68c9883293c6c7b99984e8debed345ab1014487ce35c4298a2b43ef8797",
		"093f8895e3c5e00fd973f592da642835d271cec80d20110059497ffad12ae231",
		"8fe47e68779f1bb5e7d8b861a79c3d413b6b58fd6bd98516ae0b0987125b4f15",
		"23850214d4f0b63191ff4afb06f8bff78b67d557aa7614c6670275cd5543536d",
		"c481caaa5a39bcdf70ac8a977fc4049a752f1c2c3a7245732d877f5d726b42ea",
		"b353f52da1a7ea678d07dedb7c956e7c88a339c4e93e1fb29281f1c8ebbbe3ad",
		"102c8215e7ec43b83177412698a7bf0834a334c51bfb056308759ce8a3a50a22",
		"9abb33116ade0a03856cd10d001e04c3810325ca37e108f4f636d0b0caabfa21",
	}
	x := api.Open{Base: []uint64{5}, Path: []string{first, second, third}}
	for _, at := range []struct{ i, end int }{
		{0, 0}, {1, 1}, {2, 2}, {3, 3}, {4, 4}, {5, 5}, {6, 6}, {7, 7}, {8, 0}, {math.MaxInt, 7},
		{-1, 1}, {-2, 2}, {-3, 3}, {-4, 4}, {-5, 5}, {-6, 6}, {-7, 7}, {-8, 0}, {math.MinInt, 0}, {math.MinInt + 1, 7},
	} {
		l := clash.Trail(at.i, x)
		if got := hex.EncodeToString([]byte(blake.Sum(l[len(l)-1]))); len(l) != 4 || got != ends[at.end] {
			t.Errorf("a trail of %d texts from place %d ends with the sum %s", len(l), at.i, got)
		}
	}
}

// P11.1: of no path a trail is the row's text alone, wherever it is.
func TestNoPath(t *testing.T) {
	l, rows := opens()
	for k, x := range l {
		for _, i := range places() {
			goes(t, i, x, []string{"\x00" + rows[k]})
		}
	}
}

// P11.1: one step up, of an even and of an odd place, from 0 on and below.
func TestOneStep(t *testing.T) {
	l, rows := opens()
	for k, x := range l {
		for _, beside := range []string{first, "", "p", first + second} {
			x.Path = []string{beside}
			low := "\x00" + rows[k]
			for _, i := range []int{0, 2, 4, 1 << 40, math.MaxInt - 1, -2, -4, math.MinInt} {
				goes(t, i, x, []string{low, "\x01" + blake.Sum(low) + beside})
			}
			for _, i := range []int{1, 3, 5, 1<<40 + 1, math.MaxInt, -1, -3, -5, math.MinInt + 1} {
				goes(t, i, x, []string{low, "\x01" + beside + blake.Sum(low)})
			}
		}
	}
}

// P11.1: rows of all kinds, at places of all kinds, by paths of any length, of sums and of other texts.
func TestTrail(t *testing.T) {
	l, rows := opens()
	for _, path := range [][]string{sums(70), uneven(70)} {
		for k, x := range l {
			for _, i := range places() {
				for _, n := range []int{1, 2, 3, 4, 40, 41, 62, 63, 64, 65, 70} {
					x.Path = path[:n]
					goes(t, i, x, way(i, rows[k], path[:n]))
				}
			}
		}
	}
}

// P11.1: a trail from place 0 on goes where layer 10 climbs, and from a tree's leaf by the sums of the tree's rows.
func TestTrailOfTree(t *testing.T) {
	for k := range 6 {
		b := tree.Build(sums(1 << k))
		for i := range 1 << k {
			path, _ := tree.Path(b, i)
			x := api.Open{Base: []uint64{uint64(i)}, Path: path}
			for j, s := range clash.Trail(i, x) {
				if blake.Sum(s) != b[j][i>>j] || blake.Sum(s) != tree.Climb(leaf.Of(x), i, path[:j]) {
					t.Errorf("text %d of the trail from leaf %d of 2^%d has another sum", j, i, k)
				}
			}
		}
	}
}

// P1, P11.1: a path of very many sums, and a long row, have a trail.
func TestLongTrail(t *testing.T) {
	path := slices.Repeat([]string{second}, 100000)
	goes(t, 5, api.Open{Path: path}, way(5, "", path))
	long := make([]uint64, 1<<20)
	goes(t, -1, api.Open{Base: long, Path: path[:1]}, way(-1, text(long...), path[:1]))
}

// P11.1: lists that are unlike at the first, a middle, the last place, at several and at all.
func TestUnlike(t *testing.T) {
	abc := []string{"a", "b", "c", "d"}
	for _, x := range []struct {
		l []string
		j int
	}{
		{[]string{"x", "b", "c", "d"}, 0},
		{[]string{"a", "x", "c", "d"}, 1},
		{[]string{"a", "b", "x", "d"}, 2},
		{[]string{"a", "b", "c", "x"}, 3},
		{[]string{"x", "y", "c", "d"}, 1},
		{[]string{"x", "b", "y", "d"}, 2},
		{[]string{"x", "b", "c", "y"}, 3},
		{[]string{"a", "x", "c", "y"}, 3},
		{[]string{"w", "x", "y", "d"}, 2},
		{[]string{"w", "x", "y", "z"}, 3},
		{[]string{"b", "c", "d", "a"}, 3},
		{[]string{"d", "b", "c", "d"}, 0},
		{[]string{"", "b", "c", "d"}, 0},
		{[]string{"a", "b", "c", ""}, 3},
		{[]string{"a", "b", "c", "d\x00"}, 3},
		{[]string{"a", "b\x00", "c", "d"}, 1},
	} {
		part(t, abc, x.l, abc[x.j], x.l[x.j])
		part(t, x.l, abc, x.l[x.j], abc[x.j])
	}
	part(t, []string{"a"}, []string{"b"}, "a", "b")
	part(t, []string{""}, []string{"b"}, "", "b")
	part(t, []string{"a", "a"}, []string{"b", "a"}, "a", "b")
}

// P11.1: long lists of sums that part at each place, with and without others before it.
func TestUnlikeAt(t *testing.T) {
	for _, l := range [][]string{sums(41), uneven(41)} {
		for j := range l {
			other := slices.Clone(l)
			other[j] += "x"
			part(t, l, other, l[j], l[j]+"x")
			for k := range j {
				other[k] = "other"
			}
			part(t, other, l, l[j]+"x", l[j])
		}
	}
}

// P11.1: of lists alike, and of two empty ones, there is nothing.
func TestUnlikeAlike(t *testing.T) {
	alike(t, nil, nil)
	alike(t, nil, []string{})
	alike(t, []string{}, []string{})
	for _, l := range [][]string{{""}, {"a"}, {"a", "b", "c"}, {"", "", ""}, sums(41), uneven(41)} {
		alike(t, l, l)
		alike(t, l, slices.Clone(l))
	}
}

// P11.1: of lists that haven't as many there is nothing, whatever is unlike in them.
func TestUnlikeLengths(t *testing.T) {
	abc, other := []string{"a", "b", "c", "d", "e"}, []string{"v", "w", "x", "y", "z"}
	for n := range 6 {
		for m := range 6 {
			if n == m {
				continue
			}
			for _, l := range [][]string{abc, other, {"", "", "", "", ""}, abc[:5:5]} {
				alike(t, abc[:n], l[:m])
				alike(t, abc[5-n:], l[5-m:])
			}
		}
	}
	alike(t, []string{"a"}, nil)
	alike(t, nil, []string{""})
	alike(t, []string{""}, []string{})
}

// P11.1: trails that are made so, with one end, part at the last of the texts that were made other ones.
func TestMadeTrails(t *testing.T) {
	a := clash.Trail(5, api.Open{Base: []uint64{1}, Path: sums(10)})
	b := clash.Trail(5, api.Open{Base: []uint64{2}, Path: sums(10)})
	part(t, a, b, a[10], b[10])
	for j := range a {
		made := slices.Concat(b[:j+1], a[j+1:])
		part(t, a, made, a[j], b[j])
		part(t, made, a, b[j], a[j])
	}
	other := append(sums(9), third)
	c := clash.Trail(5, api.Open{Base: []uint64{1}, Path: other})
	if !slices.Equal(a[:10], c[:10]) {
		t.Error("trails of one row part ahead of where their paths do")
	}
	part(t, a, c, a[10], c[10])
}

// P11.2: where one of both, or neither, leads to the root, there is nothing, though the texts are unlike.
func TestOneElsewhere(t *testing.T) {
	for depth := range 41 {
		for _, i := range []int{0, 1<<depth - 1, 1 << depth / 3} {
			a := api.Open{Base: []uint64{1}, Path: sums(depth)}
			b := api.Open{Base: []uint64{2}, Path: sums(depth)}
			c := api.Open{Row: []api.Pair{{A: 3}}, Path: sums(depth)}
			for _, root := range []string{tree.Climb(leaf.Of(a), i, a.Path), tree.Climb(leaf.Of(b), i, b.Path), first, ""} {
				nothing(t, "one leads elsewhere", root, depth, i, a, b)
				nothing(t, "one leads elsewhere", root, depth, i, a, c)
				nothing(t, "one leads elsewhere", root, depth, i, b, c)
			}
		}
	}
}

// P11.2: where both texts are alike there is nothing: of one opening twice, and of numbers and pairs of the same bytes.
func TestTextsAlike(t *testing.T) {
	l, _ := opens()
	for _, depth := range []int{0, 1, 2, 7, 40} {
		for _, i := range []int{0, 1, 1<<depth - 1, 1 << depth, -1} {
			for _, x := range l {
				x.Path = sums(depth)
				nothing(t, "one opening", tree.Climb(leaf.Of(x), max(i, 0), x.Path), depth, i, x, x)
			}
			a := api.Open{Base: []uint64{5, 6}, Row: []api.Pair{{A: 9}}, Path: sums(depth)}
			b := api.Open{Row: []api.Pair{{A: 5, B: 6}}, Path: sums(depth)}
			nothing(t, "the same bytes", tree.Climb(leaf.Of(a), max(i, 0), a.Path), depth, i, a, b)
		}
	}
}

// P11.2: at the depth 0 a row leads to its own sum, and no other row does.
func TestDepthNought(t *testing.T) {
	l, rows := opens()
	for j, a := range l {
		for k, b := range l {
			nothing(t, "no path", leaf.Of(a), 0, 0, a, b)
			nothing(t, "another place", leaf.Of(a), 0, 1, a, b)
			nothing(t, "no row", "", 0, 0, a, b)
			if leads := tree.Leads(leaf.Of(a), 0, 0, b); leads != (rows[j] == rows[k]) {
				t.Errorf("row %d leads to the sum of row %d: %v", k, j, leads)
			}
		}
	}
}

// P1, P11.2: depths, places and paths that may not be show nothing, whatever climbs to the root.
func TestNoPlace(t *testing.T) {
	for _, depth := range []int{-1, 0, 1, 3, 40, 41, 64, math.MinInt, math.MaxInt} {
		for _, n := range []int{0, 1, 3, 40, 41, 64} {
			for _, i := range places() {
				a := api.Open{Base: []uint64{1}, Path: sums(n)}
				b := api.Open{Base: []uint64{2}, Path: uneven(n)}
				for _, root := range []string{tree.Climb(leaf.Of(a), i, a.Path), tree.Climb(leaf.Of(b), i, b.Path), ""} {
					nothing(t, "no place", root, depth, i, a, b)
				}
			}
		}
	}
}

// P11.3: a tree's leaf, opened, has one row alone: nothing else that is opened there by that path, or by another leaf's, leads to the root.
func TestTree(t *testing.T) {
	const k = 4
	b := tree.Build(sums(1 << k))
	root := tree.Root(b)
	for i := range 1 << k {
		path, _ := tree.Path(b, i)
		x := api.Open{Base: []uint64{uint64(i)}, Path: path}
		nothing(t, "a leaf twice", root, k, i, x, x)
		for j := range 1 << k {
			beside, _ := tree.Path(b, j)
			for _, y := range []api.Open{{Base: []uint64{uint64(j)}, Path: path}, {Base: []uint64{uint64(j)}, Path: beside}, {Base: []uint64{uint64(i)}, Path: beside}, {Path: path}} {
				nothing(t, "two leaves", root, k, i, x, y)
			}
		}
	}
}

// Rule 3: what is handed in is as it was, its spare room too, and no answer hangs on it, nor on another answer.
func TestKept(t *testing.T) {
	base, pairs, path := []uint64{5, 6, 7}, []api.Pair{{A: 1}, {B: 2}}, sums(8)
	a := api.Open{Base: base[:2:3], Row: pairs[:1:2], Path: path[:3:6]}
	b := api.Open{Row: pairs[:1:2], Path: path[:3:6]}
	want := way(6, text(5, 6), sums(3))
	got, again := clash.Trail(6, a), clash.Trail(6, a)
	low, high := clash.Trail(6, b)[:2:4], way(6, text(1, 0), sums(3))[:2]
	for range 2 {
		part(t, got[:2:3], low, want[1], high[1])
		nothing(t, "as it was", tree.Climb(leaf.Of(a), 6, a.Path), 3, 6, a, b)
		nothing(t, "as it was", tree.Climb(leaf.Of(b), 6, b.Path), 3, 6, a, b)
	}
	if !slices.Equal(got, want) || !slices.Equal(low, high) {
		t.Error("a list that was handed in has changed")
	}
	if !slices.Equal(base, []uint64{5, 6, 7}) || !slices.Equal(pairs, []api.Pair{{A: 1}, {B: 2}}) || !slices.Equal(path, sums(8)) {
		t.Error("what was handed in has changed")
	}
	clear(base)
	clear(pairs)
	clear(path)
	clear(again[:cap(again)])
	if !slices.Equal(got, want) {
		t.Error("a trail hangs on what was handed in, or on another one")
	}
}

// Rule 6: many may call at once.
func TestAtOnce(t *testing.T) {
	x := api.Open{Base: []uint64{5}, Path: sums(20)}
	y := api.Open{Base: []uint64{6}, Path: sums(20)}
	a, b := way(77, text(5), x.Path), way(77, text(6), y.Path)
	root := blake.Sum(a[20])
	var wait sync.WaitGroup
	for range 8 {
		wait.Go(func() {
			for range 20 {
				goes(t, 77, x, a)
				part(t, a, b, a[20], b[20])
				nothing(t, "at once", root, 20, 77, x, y)
			}
		})
	}
	wait.Wait()
}
