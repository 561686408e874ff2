package tree_test

import (
	"encoding/hex"
	"math"
	"slices"
	"strings"
	"sync"
	"testing"

	"assayer/api"
	"assayer/blake"
	"assayer/leaf"
	"assayer/tree"
)

const (
	first  = "\x00\x01\x02\x03\x04\x05\x06\x07\x08\x09\x0a\x0b\x0c\x0d\x0e\x0f\x10\x11\x12\x13\x14\x15\x16\x17\x18\x19\x1a\x1b\x1c\x1d\x1e\x1f"
	second = "\x20\x21\x22\x23\x24\x25\x26\x27\x28\x29\x2a\x2b\x2c\x2d\x2e\x2f\x30\x31\x32\x33\x34\x35\x36\x37\x38\x39\x3a\x3b\x3c\x3d\x3e\x3f"
	third  = "\x40\x41\x42\x43\x44\x45\x46\x47\x48\x49\x4a\x4b\x4c\x4d\x4e\x4f\x50\x51\x52\x53\x54\x55\x56\x57\x58\x59\x5a\x5b\x5c\x5d\x5e\x5f"
)

// leaves are the sums of the numbers from 0 on.
func leaves(n int) []string {
	out := make([]string, n)
	for i := range out {
		out[i] = leaf.Base([]uint64{uint64(i)})
	}
	return out
}

// uneven are n texts, some of them empty, or of another length than a sum.
func uneven(n int) []string {
	out := make([]string, n)
	for i := range out {
		out[i] = strings.Repeat(string(rune('a'+i%26)), i*7%70)
	}
	return out
}

// node is a node by layer 7 alone.
func node(a, b string) string { return blake.Sum("\x01" + a + b) }

// top is the root over l, by its two halves.
func top(l []string) string {
	if len(l) == 1 {
		return l[0]
	}
	return node(top(l[:len(l)/2]), top(l[len(l)/2:]))
}

// way is the path of leaf i of l, each sum the root over the leaves below it.
func way(l []string, i int) (out []string) {
	for j := 0; 1<<j < len(l); j++ {
		from := (i>>j ^ 1) << j
		out = append(out, top(l[from:from+1<<j]))
	}
	return out
}

// led is where a sum leads, worked out from the root down.
func led(sum string, i int, path []string) string {
	if len(path) == 0 {
		return sum
	}
	j := len(path) - 1
	below := led(sum, i, path[:j])
	if i>>j&1 == 1 {
		return node(path[j], below)
	}
	return node(below, path[j])
}

// same holds that got is want, told in bytes.
func same(t *testing.T, what, got, want string) {
	t.Helper()
	if got != want {
		t.Errorf("%s: %x, not %x", what, got, want)
	}
}

// written holds that got is the sum that is written out.
func written(t *testing.T, what, got, want string) {
	t.Helper()
	same(t, what, hex.EncodeToString([]byte(got)), want)
}

// paths holds that a tree has that path at leaf i.
func paths(t *testing.T, b [][]string, i int, want []string) {
	t.Helper()
	if got, ok := tree.Path(b, i); !ok || !slices.Equal(got, want) {
		t.Errorf("Path of leaf %d: %x, %v, not %x", i, got, ok, want)
	}
}

// noPath holds that there is no leaf i.
func noPath(t *testing.T, b [][]string, i int) {
	t.Helper()
	if got, ok := tree.Path(b, i); ok || len(got) != 0 {
		t.Errorf("Path of no leaf, %d of %d rows: %x, %v", i, len(b), got, ok)
	}
}

// leads holds whether what is opened leads to a root.
func leads(t *testing.T, want bool, what, root string, depth, i int, x api.Open) {
	t.Helper()
	if got := tree.Leads(root, depth, i, x); got != want {
		t.Errorf("Leads, %s: depth %d, place %d, %d sums: %v", what, depth, i, len(x.Path), got)
	}
}

// P10.1, the chapter's example: of two leaves the root is their node.
func TestExample(t *testing.T) {
	b := tree.Build([]string{first, second})
	if len(b) != 2 || !slices.Equal(b[0], []string{first, second}) || !slices.Equal(b[1], []string{leaf.Node(first, second)}) {
		t.Errorf("a tree of two leaves: %x", b)
	}
	written(t, "its root", tree.Root(b), "75556ea4660fd2ec755ae4190de9d55484c4c324c1d7fdbf1045080bfc00d078")
	paths(t, b, 0, []string{second})
	paths(t, b, 1, []string{first})
}

// P10.1: roots that another program wrote, over the sums of 2^0 to 2^10 numbers.
func TestRootsWritten(t *testing.T) {
	for k, want := range []string{
		"4ae15c95d4608ab2c5b3e32006d7c269eb1553eb5f2958022fa0b4523081c815",
		"596c13fa3069e8ba1f40185a8188a6902537abd1f42679fa8ed7dc87fe10e3a8",
		"f8b19446a304c7e5e7b3aa03f7f84230599696125244c2d390aa77fd5c5b3528",
		"28f490aceafa279fd9559acdacf9ed99b30b0e379b65062c0523213a14a022b7",
		"38ee2f2781b188fb6c325a618e2f1120015b0086ed195ac722b5d1f0f2649b36",
		"e3a49fc812a4bbd98b785bf1776422fb2cd416610637cd65d628dcebe051301a",
		"981530dde77e78059b5763f1ed2c4668424a0c913713d63750c0f30370f4e141",
		"08840018f78f05f2c34eea68cbd41b0603cd3c316bc7c02e7a7b4d65674f184e",
		"1496f6955beb1d79e8faf84bb8b0d7719dc0a2dafbf9b8f52b3931bebfb55fc9",
		"f6a5e7f9cce286d4ff02789f8ae8299258e2fc60c85c9364045ef644d6fb71b9",
		"178f00b10915ebb947d2701a7109338aeb6ce798dfc048c311945b8be1b81337",
	} {
		written(t, "a root", tree.Root(tree.Build(leaves(1<<k))), want)
	}
}

// P10.1: all rows of a tree, and all its paths, that another program wrote.
func TestTreeWritten(t *testing.T) {
	b := tree.Build(leaves(4))
	want := [][]string{{
		"4ae15c95d4608ab2c5b3e32006d7c269eb1553eb5f2958022fa0b4523081c815",
		"1a36321e8b27fc8e8f54727801d53b06c87ecbaa098ad36f9ef0508c92102835",
		"5b61d7c3a9a0eaa761dfe44d4bfe3c208d965c77d77c0a9d53a9426b85102b0d",
		"9dec95aa32f25fc2ff7e1a9cf25e7fe04b281902308aebc35195bc805a2e5889",
	}, {
		"596c13fa3069e8ba1f40185a8188a6902537abd1f42679fa8ed7dc87fe10e3a8",
		"e4081c2b2e1710b4ee2c42c19ca3a5d368da3e0a5efe15c797953b5d5f56b9da",
	}, {
		"f8b19446a304c7e5e7b3aa03f7f84230599696125244c2d390aa77fd5c5b3528",
	}}
	if len(b) != 3 || len(b[0]) != 4 || len(b[1]) != 2 || len(b[2]) != 1 {
		t.Fatalf("a tree of four leaves: %x", b)
	}
	for j, row := range want {
		for i, sum := range row {
			written(t, "a row's sum", b[j][i], sum)
		}
	}
	for i := range 4 {
		p, ok := tree.Path(b, i)
		if !ok || len(p) != 2 {
			t.Fatalf("the path of leaf %d of four: %x, %v", i, p, ok)
		}
		written(t, "a path's first sum", p[0], want[0][[]int{1, 0, 3, 2}[i]])
		written(t, "a path's second sum", p[1], want[1][[]int{1, 1, 0, 0}[i]])
	}
}

// P10.1: trees of texts that are empty or of other lengths than a sum, whose roots another program wrote.
func TestUnevenWritten(t *testing.T) {
	for _, x := range []struct {
		l    []string
		want string
	}{
		{[]string{"a", "b"}, "5bfa44b0e0d5d82bec38266668d39a3d583f400b585dee60ccfe3806ace43386"},
		{[]string{"b", "a"}, "a4ba6a218f6f40d030aacd6b0f410208231aa5ed438ffc632d230a3b2a69a5c8"},
		{[]string{"", ""}, "fc87f4f1d721942d282aa61989c069b290d1447d20d4b811430f47ea0edf9991"},
		{[]string{"a", ""}, "f23b7db3bc1f05934498546f2ce8617c2ce84a4bcf8bc21768d9d86cc1b06f2b"},
		{[]string{"", "a"}, "f23b7db3bc1f05934498546f2ce8617c2ce84a4bcf8bc21768d9d86cc1b06f2b"},
		{[]string{"a", "b", "c", "d"}, "07e4cbb06778a3aa9d419e125071287406e70b64221fa221e8f5c9ddbc36e87f"},
		{[]string{"", "", "", ""}, "e7cd1f695d0b5e3ae67f1f5e1c24d829ac08d63c0c6dde0f19fd2ad8beeec429"},
		{[]string{first[:31], first + second[:1]}, "7aa368fd228cbc61e42c00fe58df4d6d874c23b224c154723a774d6bc8c16874"},
		{[]string{"ab", "", "c", strings.Repeat("d", 100)}, "8aedc1ab8f4d1cefc171bf6450d36d77798860b36f93b6a70e933fec2309a8e9"},
	} {
		b := tree.Build(x.l)
		written(t, "an uneven tree's root", tree.Root(b), x.want)
		for i := range x.l {
			paths(t, b, i, way(x.l, i))
		}
	}
}

// P10.1: of one leaf the tree is that leaf, which is its root, and the path is none.
func TestOneLeaf(t *testing.T) {
	for _, sum := range []string{first, "", "a", first[:31], first + "x", strings.Repeat("long", 1000)} {
		b := tree.Build([]string{sum})
		if len(b) != 1 || len(b[0]) != 1 || b[0][0] != sum {
			t.Errorf("a tree of one leaf: %x", b)
		}
		same(t, "the root of one leaf", tree.Root(b), sum)
		paths(t, b, 0, nil)
		for _, i := range []int{-1, 1, 2, math.MinInt, math.MaxInt} {
			noPath(t, b, i)
		}
	}
}

// P10.1: every row of trees of many leaves, each sum the root over the leaves below it.
func TestBuild(t *testing.T) {
	for k := range 11 {
		for _, l := range [][]string{leaves(1 << k), uneven(1 << k), make([]string, 1<<k)} {
			b := tree.Build(l)
			if len(b) != k+1 || !slices.Equal(b[0], l) {
				t.Fatalf("a tree of %d leaves has %d rows", len(l), len(b))
			}
			for j, row := range b {
				if len(row) != 1<<(k-j) {
					t.Fatalf("row %d over %d leaves has %d sums", j, len(l), len(row))
				}
				for i, sum := range row {
					same(t, "a row's sum", sum, top(l[i<<j:(i+1)<<j]))
				}
			}
			same(t, "the root of many", tree.Root(b), top(l))
		}
	}
}

// P10.1: of none, and of a number of leaves that is no power of two, there is no tree.
func TestNoTree(t *testing.T) {
	l := leaves(1<<12 + 2)
	power := 1
	for n := range l {
		if n > power {
			power *= 2
		}
		if b := tree.Build(l[:n]); (len(b) > 0) != (n == power) {
			t.Errorf("a tree of %d leaves has %d rows", n, len(b))
		}
	}
	if len(tree.Build(nil)) != 0 || len(tree.Build([]string{})) != 0 || len(tree.Build(l[:3:4])) != 0 || len(tree.Build(uneven(6))) != 0 {
		t.Error("a tree of no power of two")
	}
}

// P10.1: the root is the last row's only sum, of whatever rows there are.
func TestRoot(t *testing.T) {
	for _, x := range []struct {
		b    [][]string
		want string
	}{
		{nil, ""},
		{[][]string{}, ""},
		{[][]string{nil}, ""},
		{[][]string{{}}, ""},
		{[][]string{{""}}, ""},
		{[][]string{{"a"}}, "a"},
		{[][]string{{"a", "b"}}, ""},
		{[][]string{{"a", "b", "c"}}, ""},
		{[][]string{{"a", "b"}, {"c"}}, "c"},
		{[][]string{{"a"}, {"b"}}, "b"},
		{[][]string{{"a"}, {"b", "c"}}, ""},
		{[][]string{{"a"}, {}}, ""},
		{[][]string{{"a"}, nil}, ""},
		{[][]string{nil, {"a"}}, "a"},
		{[][]string{{"a"}, {"b"}, {"c"}}, "c"},
		{tree.Build(leaves(8))[:3], ""},
	} {
		same(t, "Root", tree.Root(x.b), x.want)
	}
}

// P10.1: every leaf's path, the first, the last and all in the middle, and none of what is no leaf.
func TestPath(t *testing.T) {
	for k := range 8 {
		n := 1 << k
		for _, l := range [][]string{leaves(n), uneven(n)} {
			b := tree.Build(l)
			for i := range n {
				paths(t, b, i, way(l, i))
			}
			for _, i := range []int{-1, -2, -n, -n - 1, n, n + 1, 2*n - 1, 2 * n, 1 << 32, math.MinInt, math.MinInt + 1, math.MinInt + n, math.MaxInt, math.MaxInt - 1} {
				noPath(t, b, i)
			}
		}
	}
}

// P10.1: of no tree there is no path.
func TestNoPath(t *testing.T) {
	for _, b := range [][][]string{nil, {}, {nil}, {{}}, {nil, nil}, {{}, {"a"}}, tree.Build(nil), tree.Build(leaves(3))} {
		for _, i := range []int{-1, 0, 1, 2, math.MinInt, math.MaxInt} {
			noPath(t, b, i)
		}
	}
}

// P1: rows that Build never makes may have any answer, but an answer they have.
func TestNotBuilt(t *testing.T) {
	l := []string{"a", "b", "c", "d", "e"}
	for n := range 5 {
		for m := range 5 {
			for r := range 3 {
				for _, b := range [][][]string{{l[:n], l[:m], l[:r]}, {l[:n], l[:m]}, {l[:n], nil, l[:m], nil}} {
					for i := -2; i < 7; i++ {
						p, ok := tree.Path(b, i)
						if !ok && len(p) != 0 || ok && len(p) != len(b)-1 || ok && (i < 0 || i >= n) {
							t.Errorf("Path of %d of odd rows %q: %q, %v", i, b, p, ok)
						}
					}
				}
			}
		}
	}
}

// P10.2: climbs that another program wrote: by no path, of places greater than the path needs, of sums of other lengths.
func TestClimbWritten(t *testing.T) {
	for _, x := range []struct {
		sum  string
		i    int
		path []string
		want string
	}{
		{first, 0, []string{second}, "75556ea4660fd2ec755ae4190de9d55484c4c324c1d7fdbf1045080bfc00d078"},
		{first, 1, []string{second}, "2c54193d65059488c384f5a0c9ba5f0fb03bf4544a8933d88405c7a5a5e4bb63"},
		{first, 2, []string{second}, "75556ea4660fd2ec755ae4190de9d55484c4c324c1d7fdbf1045080bfc00d078"},
		{first, 3, []string{second}, "2c54193d65059488c384f5a0c9ba5f0fb03bf4544a8933d88405c7a5a5e4bb63"},
		{first, 0, []string{second, third}, "a32626aec9763be3e2ac98bf3e2fb6a9e862e9bb96bdd930b4d91497bf16fe44"},
		{first, 1, []string{second, third}, "d4ef580c06d4aecb21860cd09a8725c16bddaab992945b157f69e69c3623a190"},
		{first, 2, []string{second, third}, "b20097445f8bab5b3c175d0ca9ae8f437a566a9fbbfdb8282fafacb5c280a586"},
		{first, 3, []string{second, third}, "2cfd250f553c621cd0be1edf8120d702bca6e45dc8b386f4d05eb815ac0815d9"},
		{first, 4, []string{second, third}, "a32626aec9763be3e2ac98bf3e2fb6a9e862e9bb96bdd930b4d91497bf16fe44"},
		{first, math.MaxInt, []string{second, third}, "2cfd250f553c621cd0be1edf8120d702bca6e45dc8b386f4d05eb815ac0815d9"},
		{"", 0, []string{""}, "fc87f4f1d721942d282aa61989c069b290d1447d20d4b811430f47ea0edf9991"},
		{"", 1, []string{"a"}, "f23b7db3bc1f05934498546f2ce8617c2ce84a4bcf8bc21768d9d86cc1b06f2b"},
		{"a", 0, []string{"b", "cd"}, "96ef6fb54b262c6a16db755a0652e14afb7a695e5d4ab955c031ba3aa1efbe1d"},
		{"a", 1, []string{"b", "cd"}, "746ac6b6414df710458bfb4e892f3f85338d36c52cc1dccc1dc84ecc2bd9339d"},
		{"a", 2, []string{"b", "cd"}, "e4efc3500fe8496b4c0513359ab1eb54a78a1bc2f60f6e814f047478029ba556"},
		{"a", 3, []string{"b", "cd"}, "ab9f7027f819eea5965e9ac7d530f9be6f3743770276c395fc298a4a8526dc8c"},
		{first[:31], 1, []string{second + "x", ""}, "0b22e794152795ecd955435f1159544f1c537042b06299e07b85ddcf5bb1dc19"},
		{leaf.Base([]uint64{5}), 0, leaves(40), "868af1d2216dc94533d79795757c333f0d1bb60157772b0bd41d1d86156c76a6"},
		{leaf.Base([]uint64{5}), 1, leaves(40), "cfada557a1dc53c7afb8ae63db346395052835cb2d37d99ff0896f1cd4443f24"},
		{leaf.Base([]uint64{5}), 1 << 39, leaves(40), "439207615a2d62949d1a88052fe77c7eac61e4297dfbda8dfc83ba460eb74d1c"},
		{leaf.Base([]uint64{5}), 1<<40 - 1, leaves(40), "6d0d005a70f608368e81d612c4fd6b05ec4866b6e1ec6119f260903f80d899ce"},
		{leaf.Base([]uint64{5}), 0x5555555555, leaves(40), "571117c6ba228b90e199af704ce02b551655e75ae58575d6cf1be87647b3e9a6"},
	} {
		written(t, "Climb", tree.Climb(x.sum, x.i, x.path), x.want)
	}
}

// P10.2: by no path each sum leads to itself; by paths of any length, at all places from 0 on, it leads where it leads from the root down.
func TestClimb(t *testing.T) {
	places := []int{0, 1, 2, 3, 4, 5, 6, 7, 8, 21, 42, 1<<40 - 1, 1 << 40, 0x5555555555555555, math.MaxInt - 1, math.MaxInt}
	for _, l := range [][]string{leaves(70), uneven(70)} {
		for _, i := range places {
			for _, sum := range []string{"", "a", first, first[:31], first + "x"} {
				same(t, "Climb of no path", tree.Climb(sum, i, nil), sum)
				same(t, "Climb of an empty path", tree.Climb(sum, i, l[:0]), sum)
				for _, n := range []int{1, 2, 3, 40, 41, 62, 63, 64, 70} {
					same(t, "Climb", tree.Climb(sum, i, l[:n]), led(sum, i, l[:n]))
				}
			}
		}
	}
}

// P1: a place below 0, of which Climb isn't asked, and a path of many sums have an end.
func TestClimbEnds(t *testing.T) {
	for _, i := range []int{-1, -2, math.MinInt} {
		if got := tree.Climb(first, i, leaves(70)); len(got) != 32 {
			t.Errorf("Climb from %d: %x", i, got)
		}
	}
	long := slices.Repeat([]string{second}, 100000)
	want := first
	for range long {
		want = node(want, second)
	}
	same(t, "Climb of a long path", tree.Climb(first, 0, long), want)
}

// opened is what has some numbers, or a few pairs, and a path of so many sums.
func opened(pairs bool, depth int) api.Open {
	if pairs {
		return api.Open{Row: []api.Pair{{A: 5, B: 6}, {A: 7}}, Path: leaves(depth)}
	}
	return api.Open{Base: []uint64{5, 6, 7}, Path: leaves(depth)}
}

// P10.2: of every depth from 0 to 40 the first place, the last one and some between, and no more.
func TestLeads(t *testing.T) {
	for depth := range 41 {
		for _, x := range []api.Open{opened(false, depth), opened(true, depth), {Path: leaves(depth)}} {
			n := 1 << depth
			for _, i := range []int{0, n / 3, n / 2, n - 1} {
				root := led(leaf.Of(x), i, x.Path)
				leads(t, true, "a place", root, depth, i, x)
				// All these have the same last bits, and climb to the same root.
				for _, far := range []int{i + n, i + 2*n, i + 1<<41, i + 1<<62, math.MaxInt - n + 1 + i, i - n, i - 2*n, math.MinInt + i} {
					leads(t, false, "a place too far", root, depth, far, x)
				}
				for _, other := range []int{-1, -2, 41, 42, 64, 65, 1 << 32, math.MinInt, math.MaxInt, depth - 1, depth + 1} {
					leads(t, false, "another depth", root, other, i, x)
				}
			}
			leads(t, false, "just behind the last place", led(leaf.Of(x), 0, x.Path), depth, n, x)
		}
	}
}

// P10.2: a depth that may not be has no place, though a path of as many sums leads there.
func TestDepths(t *testing.T) {
	for _, depth := range []int{41, 42, 62, 63, 64, 65, 100} {
		x := opened(false, depth)
		for _, i := range []int{0, 1, 1 << 39, 1<<40 - 1, 1 << 40, math.MaxInt} {
			leads(t, false, "too deep", led(leaf.Of(x), i, x.Path), depth, i, x)
		}
	}
	for _, depth := range []int{-1, -2, -40, -64, math.MinInt, math.MinInt + 1} {
		for _, i := range []int{0, 1, -1} {
			x := opened(false, 0)
			leads(t, false, "no depth", leaf.Of(x), depth, i, x)
		}
	}
}

// P10.2: a place below 0 is none, whichever way its bits would go.
func TestBelow(t *testing.T) {
	for depth := range 41 {
		x := opened(false, depth)
		for _, i := range []int{-1, -2, -3, -1 << 20, -1 << 40, math.MinInt, math.MinInt + 1, math.MinInt + 5} {
			for _, turned := range []int{-i, -(i + 1), i & math.MaxInt, i & 1, 0, math.MaxInt} {
				leads(t, false, "below 0", led(leaf.Of(x), turned, x.Path), depth, i, x)
			}
			leads(t, false, "below 0", tree.Climb(leaf.Of(x), i, x.Path), depth, i, x)
		}
	}
}

// P10.2: a path of too few or too many sums leads nowhere, though its climb is the root.
func TestPathLengths(t *testing.T) {
	for depth := range 41 {
		for n := range 44 {
			x := opened(depth%2 == 0, n)
			leads(t, n == depth, "so many sums", led(leaf.Of(x), 0, x.Path), depth, 0, x)
			if depth > 0 {
				leads(t, n == depth, "so many sums", led(leaf.Of(x), 1, x.Path), depth, 1, x)
			}
		}
	}
	leads(t, true, "no path", leaf.Of(opened(true, 0)), 0, 0, api.Open{Row: opened(true, 0).Row})
}

// P10.2: a path leads nowhere, if one of its sums has another length than 32 bytes, though its climb is the root.
func TestSumLengths(t *testing.T) {
	for _, depth := range []int{1, 2, 3, 7, 40} {
		for at := range depth {
			for _, sum := range []string{"", "a", first[:31], first + "x", first + second, strings.Repeat("long", 100)} {
				x := opened(false, depth)
				x.Path[at] = sum
				leads(t, false, "a sum of another length", led(leaf.Of(x), 0, x.Path), depth, 0, x)
				leads(t, false, "a sum of another length", led(leaf.Of(x), 1, x.Path), depth, 1, x)
				x.Path[(at+1)%depth] = (first + second)[:max(0, 64-len(sum))]
				leads(t, false, "two sums of another length", led(leaf.Of(x), 0, x.Path), depth, 0, x)
			}
		}
	}
}

// P10.2: another root, another row, another sum of the path, another place.
func TestOthers(t *testing.T) {
	for _, depth := range []int{0, 1, 2, 5, 40} {
		i := 1<<depth - 1
		x := opened(false, depth)
		root := led(leaf.Of(x), i, x.Path)
		for bit := range 256 {
			other := []byte(root)
			other[bit/8] ^= 1 << (bit % 8)
			leads(t, false, "another root", string(other), depth, i, x)
		}
		for bit := range depth {
			leads(t, false, "another place", root, depth, i^(1<<bit), x)
		}
		for _, other := range []string{"", root[:31], root[1:], root + "\x00", root + root, leaf.Of(x) + "x", first} {
			leads(t, false, "another root", other, depth, i, x)
		}
		for _, row := range [][]uint64{nil, {5}, {5, 6}, {5, 6, 8}, {6, 5, 7}, {5, 6, 7, 0}, {5 + api.P, 6, 7}} {
			leads(t, false, "another row", root, depth, i, api.Open{Base: row, Row: x.Row, Path: x.Path})
		}
		for at := range depth {
			y := opened(false, depth)
			y.Path[at] = third
			leads(t, false, "another sum", root, depth, i, y)
			y = opened(false, depth)
			y.Path[at], y.Path[(at+1)%depth] = y.Path[(at+1)%depth], y.Path[at]
			leads(t, depth == 1, "two sums that changed places", root, depth, i, y)
		}
	}
}

// P10.2: the row that counts is layer 9's: numbers ahead of pairs, and a row of the bytes of two sums isn't their node.
func TestRows(t *testing.T) {
	x := opened(false, 3)
	root := led(leaf.Base(x.Base), 5, x.Path)
	x.Row = opened(true, 0).Row
	leads(t, true, "numbers, and pairs too", root, 3, 5, x)
	y := opened(true, 3)
	leads(t, true, "pairs", led(leaf.Pairs(y.Row), 5, y.Path), 3, 5, y)
	leads(t, false, "numbers of pairs", led(leaf.Pairs(x.Row), 5, x.Path), 3, 5, x)
	b := tree.Build([]string{leaf.Base([]uint64{1}), leaf.Base([]uint64{2})})
	var row []uint64
	for s := b[0][0] + b[0][1]; len(s) > 0; s = s[8:] {
		n := uint64(0)
		for k := range 8 {
			n |= uint64(s[k]) << (8 * k)
		}
		row = append(row, n)
	}
	leads(t, false, "a node as a row", tree.Root(b), 0, 0, api.Open{Base: row})
}

// P10.3: each leaf's path leads to the root at its own place and at no other, of numbers and of pairs.
func TestEachLeaf(t *testing.T) {
	for k := range 7 {
		n := 1 << k
		rows := make([]api.Open, n)
		sums := make([]string, n)
		for i := range rows {
			rows[i] = api.Open{Base: []uint64{uint64(i), 9}}
			if i%3 == 1 {
				rows[i] = api.Open{Row: []api.Pair{{A: uint64(i)}}}
			}
			sums[i] = leaf.Of(rows[i])
		}
		b := tree.Build(sums)
		for i, x := range rows {
			x.Path, _ = tree.Path(b, i)
			same(t, "Climb of a leaf", tree.Climb(sums[i], i, x.Path), tree.Root(b))
			for j := range 2 * n {
				leads(t, i == j, "a leaf of a tree", tree.Root(b), k, j, x)
				if j < n && j != i {
					leads(t, false, "another leaf by this one's path", tree.Root(b), k, i, api.Open{Base: rows[j].Base, Row: rows[j].Row, Path: x.Path})
				}
			}
		}
	}
}

// P10.3: of leaves that aren't sums each one's path climbs to the root too.
func TestEachUneven(t *testing.T) {
	for k := range 8 {
		l := uneven(1 << k)
		b := tree.Build(l)
		for i, sum := range l {
			p, ok := tree.Path(b, i)
			if got := tree.Climb(sum, i, p); !ok || len(p) != k || got != tree.Root(b) {
				t.Errorf("leaf %d of %d uneven ones: %x, %v", i, len(l), got, ok)
			}
		}
	}
}

// P10.3: where leaves, and all beside them, are alike, a path leads to the root at all their places.
func TestAlike(t *testing.T) {
	rows := [][]uint64{{1}, {2}}
	for k := range 6 {
		n := 1 << k
		for _, by := range []int{1, 2} {
			sums := make([]string, n)
			for i := range sums {
				sums[i] = leaf.Base(rows[i%by])
			}
			b := tree.Build(sums)
			for i := range n {
				p, _ := tree.Path(b, i)
				for j := range n {
					leads(t, i%by == j%by, "leaves alike", tree.Root(b), k, j, api.Open{Base: rows[i%by], Path: p})
				}
			}
		}
	}
}

// P1, P10.3: a tree of more leaves than the program ever has, at its ends and in between.
func TestMany(t *testing.T) {
	const k = 16
	b := tree.Build(leaves(1 << k))
	same(t, "the root of very many", tree.Root(b), top(b[0]))
	for _, i := range []int{0, 1, 1<<15 - 1, 1 << 15, 12345, 1<<k - 2, 1<<k - 1} {
		p, _ := tree.Path(b, i)
		paths(t, b, i, way(b[0], i))
		leads(t, true, "one of very many", tree.Root(b), k, i, api.Open{Base: []uint64{uint64(i)}, Path: p})
	}
}

// Rules 3 and 4: what is handed in is as it was, its spare room too.
func TestLeft(t *testing.T) {
	l := leaves(20)
	spare := l[:8:16]
	b := tree.Build(spare)
	p, _ := tree.Path(b, 5)
	short := p[:2:3]
	for range 2 {
		x := api.Open{Base: []uint64{5}, Row: []api.Pair{{A: 1}}, Path: p}
		tree.Build(spare)
		tree.Root(b)
		tree.Path(b, 6)
		tree.Climb(l[5], 5, short)
		leads(t, true, "as it was", tree.Root(b), 3, 5, x)
		if x.Base[0] != 5 || x.Row[0] != (api.Pair{A: 1}) {
			t.Error("an opened row has changed")
		}
	}
	if !slices.Equal(l, leaves(20)) || !slices.Equal(p, way(leaves(8), 5)) || len(b) != 4 {
		t.Error("what was handed in has changed")
	}
	for j, row := range b {
		for i, sum := range row {
			same(t, "a tree that was handed in", sum, top(l[i<<j:(i+1)<<j]))
		}
	}
}

// Rules 3 and 4: an answer is new memory, that hangs neither on what was handed in nor on another answer, nor one of its lists on the other.
func TestNew(t *testing.T) {
	for _, n := range []int{1, 2, 8} {
		l := leaves(n)
		b, again := tree.Build(l), tree.Build(l)
		p, _ := tree.Path(b, n-1)
		q, _ := tree.Path(b, n-1)
		clear(l)
		clear(q)
		for j := range again {
			clear(again[j][:cap(again[j])])
		}
		for j := range b {
			_ = append(b[j], "x", "x", "x", "x", "x", "x", "x", "x")
		}
		if !slices.Equal(b[0], leaves(n)) || tree.Root(b) != top(leaves(n)) || !slices.Equal(p, way(leaves(n), n-1)) {
			t.Errorf("a tree of %d leaves has changed with another list", n)
		}
		clear(p[:cap(p)])
		paths(t, b, n-1, way(leaves(n), n-1))
		for j := range b {
			clear(b[j][:cap(b[j])])
			if j+1 < len(b) && b[j+1][0] == "" {
				t.Errorf("rows %d and %d share their memory", j, j+1)
			}
		}
	}
}

// Rule 6: many may call at once.
func TestAtOnce(t *testing.T) {
	l := leaves(64)
	b := tree.Build(l)
	root := top(l)
	var wait sync.WaitGroup
	for g := range 8 {
		wait.Go(func() {
			for i := range l {
				p, ok := tree.Path(b, i)
				x := api.Open{Base: []uint64{uint64(i)}, Path: p}
				if !ok || tree.Root(tree.Build(l)) != root || tree.Climb(l[i], i, p) != root || !tree.Leads(root, 6, i, x) || tree.Leads(root, 6, i^(g+1), x) {
					t.Error("another answer at once")
				}
			}
		})
	}
	wait.Wait()
}
