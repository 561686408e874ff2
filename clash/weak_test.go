package clash_test

import (
	"encoding/json"
	"os"
	"os/exec"
	"path/filepath"
	"slices"
	"strings"
	"testing"

	"assayer/api"
	"assayer/blake"
	"assayer/clash"
	"assayer/leaf"
	"assayer/tree"
)

// weakBlake stands in for layer 7 where unlike texts of one sum are asked for: of layer 7's own nobody has any. It has eight sums.
const weakBlake = `package blake

func Press(h [8]uint32, block [64]byte, n uint64, last bool) [8]uint32 { return h }

func Sum(l ...string) string {
	n := uint32(2166136261)
	for _, text := range l {
		for _, c := range []byte(text) {
			n = (n ^ uint32(c)) * 16777619
		}
	}
	sum := make([]byte, 32)
	for i := range sum {
		sum[i] = byte(n>>13) & 7
	}
	return string(sum)
}
`

// weakly tells the inner run of a test that its sums must be weak.
const weakly = "CLASH_WEAKLY"

// runWeakly runs a test again, built with weak sums in place of layer 7's files.
func runWeakly(t *testing.T, name string) {
	t.Helper()
	blakes, err := filepath.Abs("../blake")
	if err != nil {
		t.Fatal(err)
	}
	files, err := filepath.Glob(filepath.Join(blakes, "*.go"))
	if err != nil || len(files) == 0 {
		t.Fatalf("the files of layer 7: %v, %v", files, err)
	}
	dir := t.TempDir()
	instead := map[string]string{}
	for _, file := range files {
		instead[file] = ""
	}
	instead[filepath.Join(blakes, "weak.go")] = lay(t, dir, "weak.go", weakBlake)
	told, err := json.Marshal(map[string]any{"Replace": instead})
	if err != nil {
		t.Fatal(err)
	}
	run := exec.Command("go", "test", "-overlay", lay(t, dir, "overlay.json", string(told)), "-count=1", "-run", "^"+name+"$", ".")
	run.Env = append(os.Environ(), weakly+"=1")
	if out, err := run.CombinedOutput(); err != nil {
		t.Errorf("with weak sums: %v\n%s", err, out)
	}
}

// lay lays a text down in a file, and answers where.
func lay(t *testing.T, dir, name, s string) string {
	t.Helper()
	path := filepath.Join(dir, name)
	if err := os.WriteFile(path, []byte(s), 0o600); err != nil {
		t.Fatal(err)
	}
	return path
}

// some are openings of a depth, rows of all kinds by paths that are always the same ones: of the eight sums, of others, and of a text that is none.
func some(depth int) (out []api.Open) {
	rows := []api.Open{{}, {Base: []uint64{5, 6}}, {Row: []api.Pair{{A: 5, B: 6}}}}
	for n := range uint64(10) {
		rows = append(rows, api.Open{Base: []uint64{n}}, api.Open{Row: []api.Pair{{A: n}}})
	}
	besides := []string{first, second, third[:31]}
	for n := range byte(8) {
		besides = append(besides, strings.Repeat(string(rune(n)), 32))
	}
	x := uint32(1)
	for range 2 {
		for _, row := range rows {
			for range depth {
				x = x*1664525 + 1013904223
				row.Path = append(row.Path, besides[x>>16%uint32(len(besides))])
			}
			out = append(out, row)
		}
	}
	return out
}

// seen counts, of openings that climb to one root, where their trails part, how many have one text but unlike paths, and of how many one alone leads there.
type seen struct {
	parted     [4]int
	paths, one int
}

// shows holds what two openings of one place, of which the first climbs to the root, show.
func (s *seen) shows(t *testing.T, root string, depth, i int, a, b api.Open) {
	t.Helper()
	left, right := tree.Leads(root, depth, i, a), tree.Leads(root, depth, i, b)
	if !left || !right {
		nothing(t, "one doesn't lead there", root, depth, i, a, b)
		if right {
			s.one++
		}
		return
	}
	if leaf.Text(a) == leaf.Text(b) {
		nothing(t, "one text", root, depth, i, a, b)
		if !slices.Equal(a.Path, b.Path) {
			s.paths++
		}
		return
	}
	from, to := way(i, leaf.Text(a), a.Path), way(i, leaf.Text(b), b.Path)
	j := parting(from, to)
	x, y, ok := clash.Extract(root, depth, i, a, b)
	if !ok || x != from[j] || y != to[j] || x == y || blake.Sum(x) != blake.Sum(y) {
		t.Errorf("Extract: depth %d, place %d: %x, %x, %v", depth, i, x, y, ok)
	}
	s.parted[j]++
	nothing(t, "another root", root[1:], depth, i, a, b)
	nothing(t, "another place", root, depth, i+1<<depth, a, b)
	nothing(t, "a place below 0", root, depth, i-1<<depth, a, b)
	nothing(t, "another depth", root, depth+1, i, a, b)
}

// P11.2, P11.3: where both lead and are unlike, the last unlike texts of their trails have one sum; where their texts are alike, there is nothing, though their paths are unlike.
func TestWeakSums(t *testing.T) {
	if os.Getenv(weakly) == "" {
		runWeakly(t, t.Name())
		return
	}
	if sum := blake.Sum(""); sum != strings.Repeat(sum[:1], 32) {
		t.Fatal("the sums are layer 7's own")
	}
	var s seen
	for depth := range 4 {
		l := some(depth)
		for i := range 1 << depth {
			for _, a := range l {
				root := tree.Climb(leaf.Of(a), i, a.Path)
				for _, b := range l {
					s.shows(t, root, depth, i, a, b)
				}
			}
		}
	}
	if slices.Min(s.parted[:]) == 0 || s.paths == 0 || s.one == 0 {
		t.Errorf("some kind of openings is none: %v", s)
	}
}
