package work_test

import (
	"encoding/json"
	"math"
	"os"
	"os/exec"
	"path/filepath"
	"strings"
	"testing"

	"assayer/api"
	"assayer/blake"
	"assayer/work"
)

// scriptedBlake stands in for layer 7 where a nonce has to show any bits that are told, all of them too: of layer 7's own nobody has such ones. A sum of work begins with the nonce's eight bytes of those that the state writes out; what is behind them, and sums of all else, hang on the text's length alone.
const scriptedBlake = `package blake

import "strings"

func Press(h [8]uint32, block [64]byte, n uint64, last bool) [8]uint32 { return h }

func Sum(l ...string) string {
	all := strings.Join(l, "")
	rest := strings.Repeat(string(byte(len(all)/8%2)*255), 32)
	if len(all) < 9 || all[0] != 4 {
		return rest
	}
	state, nonce := all[1:len(all)-8], uint64(0)
	for i := range 8 {
		nonce |= uint64(all[len(all)-8+i]) << (8 * i)
	}
	if nonce >= uint64(len(state)/8) {
		return strings.Repeat("\xff", 32)
	}
	return state[8*nonce:8*nonce+8] + rest[8:]
}
`

// scripted tells the inner run of a test that its sums must go by a script.
const scripted = "WORK_SCRIPTED"

// runScripted runs a test again, built with the scripted sums in place of layer 7's files.
func runScripted(t *testing.T, name string) {
	t.Helper()
	blakes, err := filepath.Abs("../blake")
	if err != nil {
		t.Fatal(err)
	}
	files, err := filepath.Glob(filepath.Join(blakes, "*.go"))
	if err != nil || len(files) == 0 {
		t.Fatalf("the files of layer 7: %v, %v", files, err)
	}
	dir := t.TempDir()
	instead := map[string]string{}
	for _, file := range files {
		instead[file] = ""
	}
	instead[filepath.Join(blakes, "scripted.go")] = lay(t, dir, "scripted.go", scriptedBlake)
	told, err := json.Marshal(map[string]any{"Replace": instead})
	if err != nil {
		t.Fatal(err)
	}
	run := exec.Command("go", "test", "-overlay", lay(t, dir, "overlay.json", string(told)), "-count=1", "-timeout", "1m", "-run", "^"+name+"$", ".")
	run.Env = append(os.Environ(), scripted+"=1")
	if out, err := run.CombinedOutput(); err != nil {
		t.Errorf("by a script: %v\n%s", err, out)
	}
}

// lay lays a text down in a file, and answers where.
func lay(t *testing.T, dir, name, s string) string {
	t.Helper()
	path := filepath.Join(dir, name)
	if err := os.WriteFile(path, []byte(s), 0o600); err != nil {
		t.Fatal(err)
	}
	return path
}

// script is a sponge of which the nonces from 0 on have sums that begin with these numbers.
func script(l ...uint64) api.Sponge {
	var all []string
	for _, n := range l {
		all = append(all, eight(n))
	}
	return api.Sponge{State: strings.Join(all, ""), Count: len(l)}
}

// showing is a number that shows k bits; those below its highest one hang on odd.
func showing(k int, odd bool) uint64 {
	if k == 64 {
		return 0
	}
	n := uint64(1) << (63 - k)
	if odd {
		n |= (n - 1) & 0x5555555555555555
	}
	return n
}

// scriptWeight holds what each kind of number shows, with each kind of bytes behind it.
func scriptWeight(t *testing.T) {
	for k := range 65 {
		for _, odd := range []bool{false, true} {
			n := showing(k, odd)
			weighs(t, script(n), 0, k)
			weighs(t, script(n, 5), 0, k)
			weighs(t, script(5, n), 1, k)
			weighs(t, script(5, 6, n), 2, k)
			for _, want := range wants() {
				meets(t, script(n), 0, want, want <= k)
			}
		}
		n := uint64(math.MaxUint64)
		if k > 0 {
			n = uint64(1)<<(64-k) - 1
		}
		weighs(t, script(n), 0, k)
		weighs(t, script(n, n), 1, k)
	}
	for _, nonce := range []uint64{1, 1 << 32, 1 << 61, 1 << 63, math.MaxUint64} {
		weighs(t, script(0), nonce, 0)
	}
	weighs(t, script(), 0, 0)
}

// scriptSearch holds that the first nonce that meets is found, be it the only one or not, and whatever it shows.
func scriptSearch(t *testing.T) {
	for want := 1; want <= 64; want++ {
		for at := range 6 {
			for more := want; more <= 64; more += 7 {
				var l []uint64
				for i := range at {
					l = append(l, showing(want-1-i*(want-1)/5, i%2 == 0))
				}
				l = append(l, showing(more, at%2 == 0), showing(64, false), showing(want, true))
				for _, limit := range []uint64{uint64(at) + 1, uint64(at) + 2, 100, 1 << 32, math.MaxUint64} {
					finds(t, script(l...), want, limit, uint64(at))
				}
				for limit := range uint64(at) + 1 {
					misses(t, script(l...), want, limit)
				}
			}
		}
		misses(t, script(showing(want-1, true)), want, 100)
	}
	for _, want := range []int{65, 66, 128, math.MaxInt} {
		misses(t, script(0, 0, 0), want, 3)
		misses(t, script(0, 0, 0), want, math.MaxUint64)
	}
}

// P14.1 to P14.3: what is shown, met and found where sums begin with any numbers.
func TestScripted(t *testing.T) {
	if os.Getenv(scripted) == "" {
		runScripted(t, t.Name())
		return
	}
	if blake.Sum("a") != strings.Repeat("\x00", 32) {
		t.Fatal("the sums are layer 7's own")
	}
	if work.Weight(script(0), 0) != 64 {
		t.Fatal("a sum that begins with 0 shows less than all bits")
	}
	t.Run("Weight", scriptWeight)
	t.Run("Search", scriptSearch)
}
