package draw_test

import (
	"encoding/binary"
	"math"
	"slices"
	"strconv"
	"strings"
	"sync"
	"testing"

	"assayer/api"
	"assayer/draw"
	"assayer/sponge"
	"assayer/zero"
)

// text is n bytes of all kinds.
func text(n int) string {
	out := make([]byte, n)
	for i := range out {
		out[i] = byte(7*i + 3)
	}
	return string(out)
}

// labelled is a sponge of the eight bytes of a number, as a label.
func labelled(n uint64) api.Sponge {
	return sponge.New(string(binary.LittleEndian.AppendUint64(nil, n)))
}

// from is a sponge of the label a, of which as many squeezes were taken.
func from(count int) api.Sponge {
	s := sponge.New("a")
	s.Count = count
	return s
}

// states are empty, of a sum's length, and of others.
func states() []string {
	out := []string{"", "\x00", "p", "\x03", strings.Repeat("\x00", 32), strings.Repeat("\xff", 32), sponge.New("a").State}
	for _, n := range []int{1, 8, 31, 32, 33, 54, 55, 56, 63, 64, 65, 1000} {
		out = append(out, text(n))
	}
	return out
}

// counts are of all kinds, the bounds of their type too.
func counts() []int {
	return []int{
		0, 1, 2, 255, 256, math.MaxInt32, math.MaxUint32, math.MaxInt - 2, math.MaxInt - 1, math.MaxInt,
		-1, -2, -3, -255, -256, math.MinInt32, math.MinInt + 1, math.MinInt,
	}
}

// ahead is a count, so many behind another one; behind the greatest is the least.
func ahead(count, n int) int { return int(uint(count) + uint(n)) }

// numbers are the two numbers that a squeeze begins with, by another means than layer 8.
func numbers(out string) (uint64, uint64) {
	return binary.LittleEndian.Uint64([]byte(out)), binary.LittleEndian.Uint64([]byte(out[8:]))
}

// drawn is the sponge and the pair that should be drawn, by squeezes alone; one that doesn't come is asked for elsewhere.
func drawn(s api.Sponge) (api.Sponge, api.Pair) {
	for {
		next, out := sponge.Squeeze(s)
		s = next
		if a, b := numbers(out); a < api.P && b < api.P {
			return s, api.Pair{A: a, B: b}
		}
	}
}

// is holds that a sponge has this state, and this count.
func is(t *testing.T, what string, got api.Sponge, state string, count int) {
	t.Helper()
	if got.State != state || got.Count != count {
		t.Errorf("%s: a sponge %x, %d, not %x, %d", what, got.State, got.Count, state, count)
	}
}

// one holds which pair is drawn of a sponge, by how many squeezes.
func one(t *testing.T, s api.Sponge, want api.Pair, squeezes int) {
	t.Helper()
	next, got, ok := draw.Pair(s)
	if !ok || got != want {
		t.Errorf("Pair of %x, %d: %x, %v, not %x", s.State, s.Count, got, ok, want)
	}
	is(t, "Pair", next, s.State, ahead(s.Count, squeezes))
}

// none holds that no pair is drawn of a sponge, after how many squeezes.
func none(t *testing.T, s api.Sponge, squeezes int) {
	t.Helper()
	next, got, ok := draw.Pair(s)
	if ok || got != (api.Pair{}) {
		t.Errorf("Pair of %x, %d: %x, %v", s.State, s.Count, got, ok)
	}
	is(t, "no Pair", next, s.State, ahead(s.Count, squeezes))
}

// many holds which pairs are drawn of a sponge, by how many squeezes.
func many(t *testing.T, s api.Sponge, n int, want []api.Pair, squeezes int) {
	t.Helper()
	next, got, ok := draw.Pairs(s, n)
	if !ok || !slices.Equal(got, want) {
		t.Errorf("Pairs of %x, %d, %d: %x, %v, not %x", s.State, s.Count, n, got, ok, want)
	}
	is(t, "Pairs", next, s.State, ahead(s.Count, squeezes))
}

// out holds which point is drawn of a sponge, by how many squeezes.
func out(t *testing.T, s api.Sponge, k, m int, want api.Pair, squeezes int) {
	t.Helper()
	next, got, ok := draw.Out(s, k, m)
	if !ok || got != want {
		t.Errorf("Out of %x, %d, 2^%d rows, 2^%d places: %x, %v, not %x", s.State, s.Count, k, m, got, ok, want)
	}
	is(t, "Out", next, s.State, ahead(s.Count, squeezes))
}

// places holds which places are drawn of a sponge, by a squeeze each.
func places(t *testing.T, s api.Sponge, n, k int, want []int) {
	t.Helper()
	next, got := draw.Places(s, n, k)
	if !slices.Equal(got, want) {
		t.Errorf("Places of %x, %d, %d of 2^%d: %v, not %v", s.State, s.Count, n, k, got, want)
	}
	is(t, "Places", next, s.State, ahead(s.Count, len(want)))
}

// P13.1, the chapter's example: three pairs: three squeezes, mostly.
func TestExample(t *testing.T) {
	s := sponge.New("a")
	next, l, ok := draw.Pairs(s, 3)
	if !ok || len(l) != 3 {
		t.Errorf("three pairs: %x, %v", l, ok)
	}
	is(t, "three pairs", next, s.State, 3)
	for range l {
		s, _ = sponge.Squeeze(s)
	}
	is(t, "three squeezes", next, s.State, s.Count)
}

// P13.1: the first three pairs of several labels, as another program wrote them.
func TestLabelsWritten(t *testing.T) {
	for _, x := range []struct {
		label string
		want  []api.Pair
	}{
		{"", []api.Pair{{A: 0x9cd1909d22bee61e, B: 0x5575e3559ee0072f}, {A: 0xc74e030f5531d2b2, B: 0x2df2e7ff4f285d6d}, {A: 0x199749d013986203, B: 0x6937ef3615c3ffb6}}},
		{"a", []api.Pair{{A: 0x948f6e89003b845f, B: 0x484b643fdb2569cc}, {A: 0xf691f9eea00a8f43, B: 0xadef92230360d4a1}, {A: 0xe539e08b9dc469e6, B: 0x800646f46c39f5e1}}},
		{"assayer", []api.Pair{{A: 0xc0e00d391c3a3309, B: 0xb541c16d51a26887}, {A: 0x7cc7ac4a66973b1c, B: 0x7bd35d01a566933e}, {A: 0x34725cdc68952e4c, B: 0xb96d41c8a20dbd70}}},
		{"é", []api.Pair{{A: 0xd192fb1493525c23, B: 0xc796b6fcf3c5b756}, {A: 0x6e57038330d22b78, B: 0xdfd26fbbe7d27393}, {A: 0x29b451ad536db80b, B: 0x0c852adb2b229034}}},
	} {
		s := sponge.New(x.label)
		one(t, s, x.want[0], 1)
		out(t, s, 10, 14, x.want[0], 1)
		for n := range 4 {
			many(t, s, n, x.want[:n], n)
		}
		for n, want := range x.want {
			one(t, api.Sponge{State: s.State, Count: n}, want, 1)
		}
	}
}

// P13.1: the pairs of all kinds of counts, the bounds of their type too, as another program wrote them.
func TestCountsWritten(t *testing.T) {
	for _, x := range []struct {
		count int
		want  api.Pair
	}{
		{255, api.Pair{A: 0xe3639ff9b769861f, B: 0x359b2ff4a6c66387}},
		{256, api.Pair{A: 0xb77a42cbe987f434, B: 0x417d553750251915}},
		{math.MaxInt32, api.Pair{A: 0x34855fd540f772ca, B: 0xc501fbb5695a2ead}},
		{math.MaxUint32, api.Pair{A: 0x3bca5fe07b1ee88d, B: 0x64bccb6c604959d5}},
		{1 << 32, api.Pair{A: 0xb0681b2f62e24f92, B: 0xd3c49641c28cf8a0}},
		{math.MaxInt - 1, api.Pair{A: 0xf17c45e6e8829722, B: 0xf2e07ccfaf3bd8a2}},
		{math.MaxInt, api.Pair{A: 0x4ae1de9f7c23f6c5, B: 0x3eb700aa8fde49df}},
		{math.MinInt, api.Pair{A: 0x6425284126ff500b, B: 0x4b8739f4ba81b263}},
		{math.MinInt + 1, api.Pair{A: 0x4e01f56ee8cba0e4, B: 0x18c36ea06d6d3867}},
		{-2, api.Pair{A: 0x3dac35ab08f69937, B: 0x65e6d93877064a8f}},
		{-1, api.Pair{A: 0xa258f71280d8498e, B: 0x4e39dd123ee607e2}},
	} {
		one(t, from(x.count), x.want, 1)
		many(t, from(x.count), 1, []api.Pair{x.want}, 1)
		out(t, from(x.count), 0, 0, x.want, 1)
	}
	ends := []api.Pair{{A: 0xf17c45e6e8829722, B: 0xf2e07ccfaf3bd8a2}, {A: 0x4ae1de9f7c23f6c5, B: 0x3eb700aa8fde49df}, {A: 0x6425284126ff500b, B: 0x4b8739f4ba81b263}, {A: 0x4e01f56ee8cba0e4, B: 0x18c36ea06d6d3867}}
	many(t, from(math.MaxInt-1), 4, ends, 4)
	nought := []api.Pair{{A: 0x3dac35ab08f69937, B: 0x65e6d93877064a8f}, {A: 0xa258f71280d8498e, B: 0x4e39dd123ee607e2}, {A: 0x948f6e89003b845f, B: 0x484b643fdb2569cc}}
	many(t, from(-2), 3, nought, 3)
}

// P13.1: of states that are empty or not of a sum's length, the pairs that another program wrote.
func TestStatesWritten(t *testing.T) {
	for _, x := range []struct {
		state string
		want  api.Pair
	}{
		{"", api.Pair{A: 0xa8efeb6c5fed5b64, B: 0x0187998615947bdc}},
		{"p", api.Pair{A: 0xd7e12865ec39df68, B: 0x5bc861a3376aadb9}},
		{text(31), api.Pair{A: 0xf474d717f43c17ba, B: 0x7d90b639c3401ae3}},
		{text(32), api.Pair{A: 0x328030d6b6e0f47a, B: 0x7d6bdf33f0423a3b}},
		{text(33), api.Pair{A: 0xb88ed720dc9e455e, B: 0x23da44d0c6371eac}},
		{text(100), api.Pair{A: 0xd2a990a45f4052bd, B: 0xdfd962d6c1ff05e4}},
	} {
		s := api.Sponge{State: x.state}
		one(t, s, x.want, 1)
		many(t, s, 1, []api.Pair{x.want}, 1)
		out(t, s, 30, 30, x.want, 1)
	}
}

// thrown is a count of the label a, or a label that is a number's bytes, whose squeeze has a number that isn't below P: the A or the B; and the pair of the squeeze behind it.
type thrown struct {
	n    uint64
	isA  bool
	next api.Pair
}

// thrownCounts and thrownLabels were searched for among 2^36 counts and 2^35 labels.
func thrownCounts() []thrown {
	return []thrown{
		{2455271952, true, api.Pair{A: 0x9251fadcf9613ffd, B: 0xd32f24c4c94b5df2}},
		{2950144840, false, api.Pair{A: 0x828bc8a410b8ecbb, B: 0x712ba36f57db21f7}},
		{4198017480, true, api.Pair{A: 0x2b658130d059aaf8, B: 0x85f2e83371a271d1}},
		{4428995204, true, api.Pair{A: 0x41b6c448385b93ef, B: 0x6bfc52b893635d34}},
		{8777288832, false, api.Pair{A: 0xebb78a86f13732e0, B: 0x25031238dcc1f520}},
		{8798233412, false, api.Pair{A: 0x11c066b97b4542c2, B: 0xcec742db350e6329}},
		{24908729355, false, api.Pair{A: 0x4a12a4aba5e82286, B: 0x659897786ac9969d}},
		{51173992244, true, api.Pair{A: 0xf4dec382102d8b2c, B: 0xc116b8954b793cdf}},
		{63281083153, false, api.Pair{A: 0x3eaff9c99eaf8745, B: 0x47115659b0398d98}},
		{64058808061, true, api.Pair{A: 0x0347eac329618d81, B: 0x0e7675429e1abdaa}},
	}
}

func thrownLabels() []thrown {
	return []thrown{
		{2257739941, false, api.Pair{A: 0xab97a7d3e86d5cc4, B: 0x45175f8196a78fca}},
		{2906586928, false, api.Pair{A: 0x03469cc98d83498c, B: 0x38da284bc1d7cd58}},
		{3066803724, true, api.Pair{A: 0x6285b71b94144304, B: 0x58676eb26ddba0f2}},
		{6785204417, true, api.Pair{A: 0x950d954bc7519a23, B: 0xf4c2a9651196d3de}},
		{14041153084, true, api.Pair{A: 0x848558011fe2c9c0, B: 0x1feb87b5b3efeba5}},
		{30688347324, false, api.Pair{A: 0xbada9b08692de659, B: 0x6c84b74c02fe02b5}},
	}
}

// wasThrown holds that a sponge's next squeeze has a number that isn't below P, and which one.
func wasThrown(t *testing.T, s api.Sponge, isA bool) {
	t.Helper()
	_, squeezed := sponge.Squeeze(s)
	a, b := numbers(squeezed)
	if (a >= api.P) != isA || (b >= api.P) == isA {
		t.Fatalf("of %x, %d: %x, %x", s.State, s.Count, a, b)
	}
}

// P13.1, P13.2: a squeeze with a number that isn't below P is thrown away; the pair is the next one's, as another program wrote it, and the sponge is behind both.
func TestThrownWritten(t *testing.T) {
	hold := func(s api.Sponge, x thrown) {
		wasThrown(t, s, x.isA)
		one(t, s, x.next, 2)
		many(t, s, 0, nil, 0)
		many(t, s, 1, []api.Pair{x.next}, 2)
		for _, k := range []int{0, 1, 10, 30} {
			out(t, s, k, 30-k, x.next, 2)
		}
	}
	for _, x := range thrownCounts() {
		hold(from(int(x.n)), x)
	}
	for _, x := range thrownLabels() {
		hold(labelled(x.n), x)
	}
	hold(api.Sponge{Count: 158582280}, thrown{next: api.Pair{A: 0xa3c05a42f9afae50, B: 0x91a6fb04f9c4b899}})
	hold(api.Sponge{Count: 7320317389}, thrown{isA: true, next: api.Pair{A: 0xa9eae66b57299d05, B: 0x64f6ef2a264baad7}})
}

// P13.1: a squeeze that is thrown away ahead of the first, a middle and the last one of several pairs, or behind them, where it isn't squeezed.
func TestThrownAmong(t *testing.T) {
	for _, x := range thrownCounts() {
		for before := range 6 {
			s := from(int(x.n) - before)
			var want []api.Pair
			next := s
			for range before {
				var p api.Pair
				next, p = drawn(next)
				want = append(want, p)
			}
			is(t, "as many squeezes as pairs", next, s.State, int(x.n))
			many(t, s, before, want, before)
			want = append(want, x.next)
			many(t, s, before+1, want, before+2)
			_, p := drawn(from(int(x.n) + 2))
			many(t, s, before+2, append(want, p), before+3)
		}
	}
}

// P13.1: no squeeze is thrown away where places are drawn: of numbers that aren't below P too they are those modulo 2^k, as another program wrote them.
func TestPlacesKeptWritten(t *testing.T) {
	for _, x := range []struct {
		count, k int
		want     []int
	}{
		{2455271952, 3, []int{1, 5}},
		{2455271952, 32, []int{2561120153, 4183900157}},
		{2455271952, 33, []int{6856087449, 4183900157}},
		{2455271952, 62, []int{4611686016693540761, 1320111992779915261}},
		{4198017480, 3, []int{0, 0}},
		{4198017480, 32, []int{284122592, 3495537400}},
		{4198017480, 33, []int{4579089888, 3495537400}},
		{4198017480, 62, []int{4611686014416543200, 3127047562932628216}},
		{2950144840, 3, []int{7, 3}},
		{2950144840, 32, []int{3862303759, 280554683}},
		{2950144840, 33, []int{3862303759, 280554683}},
		{2950144840, 62, []int{52655907774272527, 183460816819383483}},
	} {
		for n := range 3 {
			places(t, from(x.count), n, x.k, x.want[:n])
		}
	}
}

// P13.1: the first four places of the label a, of several k, as another program wrote them.
func TestPlacesWritten(t *testing.T) {
	for _, x := range []struct {
		k    int
		want []int
	}{
		{0, []int{0, 0, 0, 0}},
		{1, []int{1, 1, 0, 1}},
		{2, []int{3, 3, 2, 1}},
		{3, []int{7, 3, 6, 5}},
		{8, []int{95, 67, 230, 77}},
		{13, []int{1119, 3907, 2534, 4173}},
		{31, []int{3900511, 537562947, 499411430, 1214804045}},
		{32, []int{3900511, 2685046595, 2646895078, 3362287693}},
		{33, []int{4298867807, 2685046595, 6941862374, 3362287693}},
		{61, []int{1481524337121657951, 1626355743740038979, 376578934114118118, 1410153576137257037}},
		{62, []int{1481524337121657951, 3932198752953732931, 2682421943327812070, 3715996585350950989}},
	} {
		for n := range 5 {
			places(t, sponge.New("a"), n, x.k, x.want[:n])
		}
	}
}

// P13.1: of an n below 1 there are no pairs and no places, and the sponge is as it was.
func TestNone(t *testing.T) {
	for _, state := range states() {
		for _, count := range counts() {
			s := api.Sponge{State: state, Count: count}
			for _, n := range []int{0, -1, -2, -64, math.MinInt32, math.MinInt + 1, math.MinInt} {
				many(t, s, n, nil, 0)
				for _, k := range []int{0, 1, 3, 62} {
					places(t, s, n, k, nil)
				}
			}
		}
	}
}

// P13.1, P13.3: pairs of sponges of all kinds are those of their squeezes, alone, drawn one by one, and drawn at once; all of the field.
func TestPairs(t *testing.T) {
	for _, state := range states() {
		for _, count := range counts() {
			s := api.Sponge{State: state, Count: count}
			var want []api.Pair
			last := s
			for range 7 {
				next, p := drawn(last)
				one(t, last, p, int(uint(next.Count)-uint(last.Count)))
				if p.A >= api.P || p.B >= api.P {
					t.Errorf("of %x, %d: %x is none of the field", state, last.Count, p)
				}
				last, want = next, append(want, p)
			}
			many(t, s, 7, want, int(uint(last.Count)-uint(count)))
			many(t, s, 1, want[:1], 1)
			two, first, _ := draw.Pairs(s, 3)
			_, rest, _ := draw.Pairs(two, 4)
			if !slices.Equal(slices.Concat(first, rest), want) {
				t.Errorf("of %x, %d three pairs and four others aren't those drawn at once", state, count)
			}
		}
	}
}

// P1, P13.1: very many pairs and places.
func TestMany(t *testing.T) {
	s := sponge.New("many")
	var pairs []api.Pair
	var low []int
	next := s
	for range 50000 {
		_, squeezed := sponge.Squeeze(next)
		n, _ := numbers(squeezed)
		low = append(low, int(n%(1<<13)))
		var p api.Pair
		next, p = drawn(next)
		pairs = append(pairs, p)
	}
	many(t, s, len(pairs), pairs, next.Count)
	places(t, s, len(low), 13, low)
}

// P13.1, P13.3: places of each k, of sponges of all kinds, are the first numbers modulo 2^k, and below that.
func TestPlaces(t *testing.T) {
	for _, state := range states() {
		for _, count := range counts() {
			s := api.Sponge{State: state, Count: count}
			var all []uint64
			for next := s; len(all) < 5; {
				var squeezed string
				next, squeezed = sponge.Squeeze(next)
				n, _ := numbers(squeezed)
				all = append(all, n)
			}
			for k := range 63 {
				var want []int
				for _, n := range all {
					want = append(want, int(n%(1<<k)))
				}
				places(t, s, 5, k, want)
				places(t, s, 1, k, want[:1])
				if slices.Min(want) < 0 || slices.Max(want) >= 1<<k {
					t.Errorf("a place of 2^%d is none: %v", k, want)
				}
			}
		}
	}
}

// P13.3: all places of a few are drawn, of a few draws.
func TestPlacesAll(t *testing.T) {
	for k := range 8 {
		_, l := draw.Places(sponge.New("all"), 64<<k, k)
		seen := map[int]int{}
		for _, i := range l {
			if i < 0 || i >= 1<<k {
				t.Errorf("%d is none of 2^%d places", i, k)
			}
			seen[i]++
		}
		if len(seen) != 1<<k || len(l) != 64<<k {
			t.Errorf("of 2^%d places %d are drawn, by %d", k, len(seen), len(l))
		}
	}
}

// P13.2: of few and of many rows and places the point is the first pair, mostly; each is out.
func TestOut(t *testing.T) {
	for k := range 31 {
		for m := range 31 {
			for n, s := range []api.Sponge{sponge.New("a"), labelled(uint64(31*k + m)), {Count: k - m}, {State: text(k), Count: math.MaxInt}} {
				next, want := drawn(s)
				out(t, s, k, m, want, ahead(next.Count, -s.Count))
				_, x, _ := draw.Out(s, k, m)
				if !zero.Out(x, k, m) {
					t.Errorf("of sponge %d, 2^%d rows, 2^%d places: %x isn't out", n, k, m, x)
				}
			}
		}
	}
}

// P13.2: no point of many is 0, a row's or a place's, held against each of them.
func TestOutEach(t *testing.T) {
	const k, m = 4, 6
	inner := []api.Pair{{}}
	for i := range 1 << k {
		inner = append(inner, api.Pair{A: zero.Row(k, i)})
	}
	for i := range 1 << m {
		inner = append(inner, api.Pair{A: zero.Place(m, i)})
	}
	s := sponge.New("each")
	for range 1000 {
		next, x, ok := draw.Out(s, k, m)
		if !ok || slices.Contains(inner, x) {
			t.Errorf("of %d: %x, %v", s.Count, x, ok)
		}
		s = next
	}
}

// Beyond what is asked for: whatever k and m are, each call ends and none panics.
func TestBeyond(t *testing.T) {
	for _, k := range []int{-1, -2, -64, 31, 32, 33, 63, 64, 65, 1000, math.MinInt, math.MinInt + 1, math.MaxInt} {
		for _, m := range []int{k, 0, 30} {
			for _, s := range []api.Sponge{from(5), from(2455271952), {}} {
				next, l := draw.Places(s, 3, k)
				is(t, "Places of a k that isn't asked for", next, s.State, s.Count+3)
				if len(l) != 3 {
					t.Errorf("three places of 2^%d: %v", k, l)
				}
				for range 2 {
					if _, x, ok := draw.Out(s, k, m); !ok && x != (api.Pair{}) {
						t.Errorf("Out of 2^%d rows, 2^%d places: %x beside a false", k, m, x)
					}
					k, m = m, k
				}
			}
		}
	}
}

// P13.1: what was drawn is known no more, as soon as something is absorbed; what a sponge has absorbed tells what is drawn.
func TestDrawnBehind(t *testing.T) {
	seen := map[api.Pair]int{}
	s := sponge.New("a")
	for n, in := range []string{"", "b", "", "c", text(64)} {
		next, l, ok := draw.Pairs(s, 3)
		if !ok {
			t.Error("three pairs don't come")
		}
		for _, p := range l {
			if before, was := seen[p]; was {
				t.Errorf("%x is drawn behind text %d and behind text %d", p, before, n)
			}
			seen[p] = n
		}
		if again := sponge.Absorb(next, in); again != sponge.Absorb(s, in) {
			t.Error("what is absorbed behind draws hangs on them")
		}
		s = sponge.Absorb(next, in)
		_, p := drawn(s)
		one(t, s, p, 1)
	}
}

// Rule 3: what is handed in is as it was, and no two answers share a list.
func TestKept(t *testing.T) {
	s := from(2455271951)
	before := s
	next, pairs, _ := draw.Pairs(s, 5)
	_, again, _ := draw.Pairs(s, 5)
	_, low := draw.Places(s, 5, 10)
	_, other := draw.Places(s, 5, 10)
	wantPairs, wantLow := slices.Clone(pairs), slices.Clone(low)
	clear(again[:cap(again)])
	clear(other[:cap(other)])
	if s != before {
		t.Errorf("now there is %x, %d", s.State, s.Count)
	}
	if !slices.Equal(pairs, wantPairs) || !slices.Equal(low, wantLow) {
		t.Error("an answer hangs on another one")
	}
	is(t, "behind one that was thrown away", next, s.State, s.Count+6)
	many(t, s, 5, wantPairs, 6)
	places(t, s, 5, 10, wantLow)
}

// Rules 4 and 6: nothing is kept from call to call, and many goroutines may call at once.
func TestAtOnce(t *testing.T) {
	all := thrownCounts()
	want := map[string]api.Pair{}
	for n := range 8 {
		_, p := drawn(sponge.New(strconv.Itoa(n)))
		want[strconv.Itoa(n)] = p
	}
	var wait sync.WaitGroup
	for n := range 8 {
		wait.Go(func() {
			label := strconv.Itoa(n)
			for range 50 {
				one(t, sponge.New(label), want[label], 1)
				out(t, sponge.New(label), 3, 5, want[label], 1)
				many(t, from(int(all[n].n)), 1, []api.Pair{all[n].next}, 2)
				places(t, sponge.New("a"), 4, 3, []int{7, 3, 6, 5})
			}
		})
	}
	wait.Wait()
}
