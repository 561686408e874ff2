package draw_test

import (
	"encoding/binary"
	"encoding/json"
	"math"
	"os"
	"os/exec"
	"path/filepath"
	"slices"
	"testing"

	"assayer/api"
	"assayer/draw"
	"assayer/sponge"
	"assayer/zero"
)

// scriptedSponge stands in for layer 12 where many squeezes on end have to be thrown away: of layer 12's own nobody has any. It squeezes what its state writes out, 32 bytes each, and behind that what is thrown away.
const scriptedSponge = `package sponge

import (
	"strings"

	"assayer/api"
)

func New(label string) api.Sponge { return api.Sponge{State: label} }

func Absorb(s api.Sponge, l ...string) api.Sponge {
	for _, text := range l {
		s = api.Sponge{State: s.State + text}
	}
	return s
}

func Squeeze(s api.Sponge) (api.Sponge, string) {
	all := s.State + strings.Repeat("\xff", 32)
	at := min(max(32*s.Count, 0), len(all)-32)
	s.Count++
	return s, all[at : at+32]
}
`

// scripted tells the inner run of a test that its sponge must be one that goes by a script.
const scripted = "DRAW_SCRIPTED"

// runScripted runs a test again, built with the scripted sponge in place of layer 12's files.
func runScripted(t *testing.T, name string) {
	t.Helper()
	sponges, err := filepath.Abs("../sponge")
	if err != nil {
		t.Fatal(err)
	}
	files, err := filepath.Glob(filepath.Join(sponges, "*.go"))
	if err != nil || len(files) == 0 {
		t.Fatalf("the files of layer 12: %v, %v", files, err)
	}
	dir := t.TempDir()
	instead := map[string]string{}
	for _, file := range files {
		instead[file] = ""
	}
	instead[filepath.Join(sponges, "scripted.go")] = lay(t, dir, "scripted.go", scriptedSponge)
	told, err := json.Marshal(map[string]any{"Replace": instead})
	if err != nil {
		t.Fatal(err)
	}
	run := exec.Command("go", "test", "-overlay", lay(t, dir, "overlay.json", string(told)), "-count=1", "-timeout", "1m", "-run", "^"+name+"$", ".")
	run.Env = append(os.Environ(), scripted+"=1")
	if out, err := run.CombinedOutput(); err != nil {
		t.Errorf("by a script: %v\n%s", err, out)
	}
}

// lay lays a text down in a file, and answers where.
func lay(t *testing.T, dir, name, s string) string {
	t.Helper()
	path := filepath.Join(dir, name)
	if err := os.WriteFile(path, []byte(s), 0o600); err != nil {
		t.Fatal(err)
	}
	return path
}

// script is a sponge that squeezes these pairs; the bytes behind a pair's don't count, whatever they are.
func script(l ...api.Pair) api.Sponge {
	var all []byte
	for n, p := range l {
		all = binary.LittleEndian.AppendUint64(all, p.A)
		all = binary.LittleEndian.AppendUint64(all, p.B)
		rest := []uint64{math.MaxUint64, 0, api.P, 5}[n%4]
		all = binary.LittleEndian.AppendUint64(all, rest)
		all = binary.LittleEndian.AppendUint64(all, ^rest)
	}
	return api.Sponge{State: string(all)}
}

// fielded are numbers below P, and unfielded are others, the edges among them.
func fielded() []uint64 { return []uint64{0, 1, 7, 1<<32 - 1, 1 << 32, 1 << 63, api.P - 2, api.P - 1} }

func unfielded() []uint64 {
	return []uint64{api.P, api.P + 1, api.P + 1<<31, math.MaxUint64 - 1, math.MaxUint64}
}

// bad is the n-th of pairs of all kinds that are thrown away: by their A, by their B, and by both.
func bad(n int) api.Pair {
	f, u := fielded(), unfielded()
	in, no := f[n%len(f)], u[n%len(u)]
	return []api.Pair{{A: no, B: in}, {A: in, B: no}, {A: no, B: no}}[n%3]
}

// bads are n pairs that are thrown away, from the k-th on.
func bads(k, n int) (l []api.Pair) {
	for i := range n {
		l = append(l, bad(k+i))
	}
	return l
}

// scriptPair holds each pair of numbers at the edges, and each number of squeezes that are thrown away ahead of it.
func scriptPair(t *testing.T) {
	all := append(fielded(), unfielded()...)
	good := api.Pair{A: 3, B: 4}
	for _, a := range all {
		for _, b := range all {
			p := api.Pair{A: a, B: b}
			if a < api.P && b < api.P {
				one(t, script(p, good), p, 1)
			} else {
				one(t, script(p, good), good, 2)
			}
		}
	}
	for k := range 40 {
		for n := range 20 {
			p := api.Pair{A: fielded()[k%8], B: fielded()[k/8]}
			s := script(append(bads(k, n), p, good)...)
			for count := range min(n, 5) + 1 {
				s.Count = count
				if ahead := n - count; ahead < 16 {
					one(t, s, p, ahead+1)
				} else {
					none(t, s, 16)
				}
			}
		}
	}
	none(t, script(), 16)
	for _, count := range []int{-5, -16, 1, 100, math.MaxInt - 3} {
		none(t, api.Sponge{Count: count}, 16)
	}
}

// laid is a script that has pairs, ahead of each as many that are thrown away as told, and behind them one more.
func laid(l []api.Pair, ahead []int) api.Sponge {
	var all []api.Pair
	for n, p := range l {
		all = append(append(all, bads(n, ahead[n])...), p)
	}
	return script(append(all, api.Pair{A: 8, B: 9})...)
}

// scriptPairs holds several pairs with squeezes among them that are thrown away, so many that some pair doesn't come, too.
func scriptPairs(t *testing.T) {
	l := []api.Pair{{A: 3, B: 4}, {}, {A: api.P - 1, B: api.P - 1}, {A: 3, B: 4}, {B: 1}}
	for _, ahead := range [][]int{
		{0, 0, 0, 0, 0}, {15, 15, 15, 15, 15}, {1, 0, 2, 0, 3}, {0, 15, 0, 0, 1}, {7, 8, 1, 0, 0},
		{16, 0, 0, 0, 0}, {0, 16, 0, 0, 0}, {15, 0, 16, 1, 1}, {0, 0, 0, 16, 0}, {1, 2, 3, 4, 16}, {0, 0, 0, 0, 40}, {17, 17, 17, 17, 17},
	} {
		s := laid(l, ahead)
		squeezes := 0
		many(t, s, 0, nil, 0)
		for n := range l {
			if ahead[n] >= 16 {
				for _, more := range []int{n + 1, n + 2, 1000} {
					noPairs(t, s, more, squeezes+16)
				}
				break
			}
			squeezes += ahead[n] + 1
			many(t, s, n+1, l[:n+1], squeezes)
		}
	}
	noPairs(t, script(), 1, 16)
	noPairs(t, script(), math.MaxInt, 16)
	many(t, script(), 0, nil, 0)
}

// noPairs holds that there are no pairs, after how many squeezes.
func noPairs(t *testing.T, s api.Sponge, n, squeezes int) {
	t.Helper()
	next, got, ok := draw.Pairs(s, n)
	if ok || len(got) != 0 {
		t.Errorf("Pairs, %d: %x, %v", n, got, ok)
	}
	is(t, "no Pairs", next, s.State, s.Count+squeezes)
}

// noOut holds that there is no point, after how many squeezes.
func noOut(t *testing.T, s api.Sponge, k, m, squeezes int) {
	t.Helper()
	next, got, ok := draw.Out(s, k, m)
	if ok || got != (api.Pair{}) {
		t.Errorf("Out of 2^%d rows, 2^%d places: %x, %v", k, m, got, ok)
	}
	is(t, "no Out", next, s.State, s.Count+squeezes)
}

// inner are 0, and the points of some of 2^k rows and 2^m places, the first and the last of them.
func inner(k, m int) []api.Pair {
	l := []api.Pair{{}}
	for _, i := range []int{0, 1, 1<<k - 1, 1 << k >> 1} {
		l = append(l, api.Pair{A: zero.Row(k, i)})
	}
	for _, i := range []int{0, 1, 1<<m - 1, 1 << m >> 1} {
		l = append(l, api.Pair{A: zero.Place(m, i)})
	}
	return l
}

// scriptOut holds points ahead of which some aren't out.
func scriptOut(t *testing.T) {
	good := api.Pair{A: 3, B: 4}
	for _, size := range [][2]int{{0, 0}, {1, 1}, {3, 5}, {5, 3}, {10, 14}, {0, 30}, {30, 0}, {30, 30}} {
		k, m := size[0], size[1]
		in := inner(k, m)
		for _, x := range in {
			out(t, script(x, good), k, m, good, 2)
			for _, b := range []uint64{1, api.P - 1} {
				x.B = b
				out(t, script(x, good), k, m, x, 1)
			}
		}
		for tries := range 20 {
			var l []api.Pair
			for n := range tries {
				l = append(l, in[(n+tries)%len(in)])
			}
			l = append(l, good)
			for _, thrown := range []int{0, 1, 7, 15} {
				s := laid(l, slices.Repeat([]int{thrown}, len(l)))
				if tries < 16 {
					out(t, s, k, m, good, (tries+1)*(thrown+1))
				} else {
					noOut(t, s, k, m, 16*(thrown+1))
				}
			}
			for n := range min(len(l), 16) {
				ahead := make([]int, len(l))
				ahead[n] = 16
				noOut(t, laid(l, ahead), k, m, n+16)
			}
		}
	}
	noOut(t, script(), 3, 5, 16)
}

// scriptOutSizes holds that rows are held against k, and places against m.
func scriptOutSizes(t *testing.T) {
	good := api.Pair{A: 3, B: 4}
	for k := range 30 {
		row, place := api.Pair{A: zero.Row(k+1, 1)}, api.Pair{A: zero.Place(k+1, 1)}
		for m := range 31 {
			out(t, script(row, good), k, m, row, 1)
			out(t, script(row, good), k+1, m, good, 2)
			out(t, script(place, good), m, k, place, 1)
			out(t, script(place, good), m, k+1, good, 2)
		}
	}
}

// scriptPlaces holds that each number is taken modulo each 2^k, and none is thrown away.
func scriptPlaces(t *testing.T) {
	var l []api.Pair
	var all []uint64
	for _, a := range append(append(fielded(), unfielded()...), 0x0123456789abcdef, 1<<62, 1<<62-1, 3<<61) {
		for _, b := range []uint64{0, 1, api.P - 1, api.P, math.MaxUint64} {
			l, all = append(l, api.Pair{A: a, B: b}), append(all, a)
		}
	}
	for k := range 63 {
		var want []int
		for _, n := range all {
			want = append(want, int(n%(1<<k)))
		}
		for n := range len(l) + 1 {
			places(t, script(l...), n, k, want[:n])
		}
		if slices.Min(want) < 0 || slices.Max(want) >= 1<<k {
			t.Errorf("a place of 2^%d is none: %v", k, want)
		}
	}
	places(t, script(), 20, 2, slices.Repeat([]int{3}, 20))
}

// P13.1 to P13.3: what is drawn where any squeezes are thrown away, tries come to their end, and points aren't out.
func TestScripted(t *testing.T) {
	if os.Getenv(scripted) == "" {
		runScripted(t, t.Name())
		return
	}
	if s := sponge.New("s"); s.State != "s" {
		t.Fatal("the sponge is layer 12's own")
	}
	t.Run("Pair", scriptPair)
	t.Run("Pairs", scriptPairs)
	t.Run("Out", scriptOut)
	t.Run("OutSizes", scriptOutSizes)
	t.Run("Places", scriptPlaces)
}
