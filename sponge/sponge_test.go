package sponge_test

import (
	"encoding/binary"
	"encoding/hex"
	"math"
	"slices"
	"strconv"
	"strings"
	"sync"
	"testing"

	"assayer/api"
	"assayer/blake"
	"assayer/sponge"
)

// text is n bytes of all kinds.
func text(n int) string {
	out := make([]byte, n)
	for i := range out {
		out[i] = byte(7*i + 3)
	}
	return string(out)
}

// eight is the bytes of a number, by another means than layer 8.
func eight(n uint64) string { return string(binary.LittleEndian.AppendUint64(nil, n)) }

// soaked is the state behind one more text: the sum of one text that is laid down whole.
func soaked(state, text string) string {
	return blake.Sum("\x02" + state + eight(uint64(len(text))) + text)
}

// squeezed is what a squeeze should answer: likewise.
func squeezed(state string, count int) string {
	return blake.Sum("\x03" + state + eight(uint64(count)))
}

// states are empty, of a sum's length, and of others.
func states() []string {
	out := []string{"", "\x00", "p", "\x02", "\x03", strings.Repeat("\x00", 32), strings.Repeat("\xff", 32)}
	for _, n := range []int{1, 8, 31, 32, 33, 40, 55, 56, 63, 64, 65, 100, 1000} {
		out = append(out, text(n))
	}
	return out
}

// counts are of all kinds, the bounds of their type too.
func counts() []int {
	return []int{
		0, 1, 2, 3, 255, 256, math.MaxInt32, math.MaxInt32 + 1, math.MaxUint32, math.MaxUint32 + 1, math.MaxInt - 1, math.MaxInt,
		-1, -2, -255, -256, math.MinInt32, math.MinInt32 - 1, math.MinInt + 1, math.MinInt,
	}
}

// texts are empty, short, around all ends of blocks, and long.
func texts() []string {
	out := []string{"", "a", "b", "bc", "\x00", "\x00\x00", "\x02", "\x03", "é", "\xff\xfe"}
	for _, n := range []int{7, 8, 9, 21, 22, 23, 24, 31, 32, 33, 62, 63, 64, 65, 86, 87, 88, 127, 128, 129, 255, 256, 257, 65535, 65536, 65537} {
		out = append(out, text(n))
	}
	return out
}

// is holds that a sponge has this state, and this count.
func is(t *testing.T, what string, got api.Sponge, state string, count int) {
	t.Helper()
	if got.State != state || got.Count != count {
		t.Errorf("%s: %x, %d, not %x, %d", what, got.State, got.Count, state, count)
	}
}

// gives holds what a squeeze of a sponge answers, and which sponge it leaves.
func gives(t *testing.T, s api.Sponge, want string, count int) {
	t.Helper()
	next, got := sponge.Squeeze(s)
	if got != want {
		t.Errorf("Squeeze of %x, %d: %x, not %x", s.State, s.Count, got, want)
	}
	is(t, "a squeezed sponge", next, s.State, count)
}

// laid is the bytes that a text of base sixteen writes out.
func laid(t *testing.T, s string) string {
	t.Helper()
	out, err := hex.DecodeString(s)
	if err != nil {
		t.Fatal(err)
	}
	return string(out)
}

// P12.1, the chapter's example: a label a: the sum of 02 and a.
func TestExample(t *testing.T) {
	is(t, "New of a", sponge.New("a"), blake.Sum("\x02", "a"), 0)
}

// P12.1: states of labels that another program wrote.
func TestNewWritten(t *testing.T) {
	for _, x := range []struct{ label, want string }{
		{"", "2ca4b2f5cb29b023b371d3d6ef0161262b6dd2f20b57b09b44938bc654c789fc"},
		{"a", "4b94deed90927192d698cf3f6aec8d31594aae561ad8e55c0dedf702643a8117"},
		{"ab", "b002f70d1acbe25421d15b396dfc2d493203a00e2a32e4dc4d3da64dad61f1e3"},
		{"\x00", "c3821dfd59935c0de0126c7d5480b933f9e6019b19c1ce7973e8bfd35d02cf6c"},
		{"\x02", "8447b096f79e103ce8e6d3322eb752c775fdd7030b4950108c4f8a9dd0a612c4"},
		{"é", "77b7c65084b7b7ddee8663b70b1d4d0aff361c752df53bcd502ff156069a0f35"},
		{text(62), "9356c320164c6f46c6426bd8fb3a10cade9ee42ddecc84f3d532ee83b810ae68"},
		{text(63), "e2ef0a8ea148f85ab39338b10b6dfd123d6d118105a0ada34cab2053dad54f06"},
		{text(64), "4a64421ac9006a16ae7eb72274e7ab32dcec59ab2089e39d57e51925c47b0589"},
		{text(65), "9373fc9e6173b3c9cd35fa6f48243ca321e0525e7ec5c8441b6b072c14f901f1"},
		{text(127), "ddc64b09ee3a9f9abaf034cf3ea5b721cc24d3a481b681eaeccceeab7f38254f"},
		{text(128), "f78c95b40e954b4c5d5322ce47e8bdef5cba672ff8d7b72aa1c0b24fa2ab1da7"},
		{text(129), "c9107995ab0bd2e7d2ca32b349ceb58df28c063d3ea401caad15159ae141e3c5"},
		{text(1000), "391b422ec5c8fff99485788510b5a2f947018ed007241d29e84cba1fdfaf5849"},
		{text(100000), "3bae1b9e34fde4f699d80c5c60debc39bf173d0616d03b65f451b36065cb3a99"},
	} {
		is(t, "New of "+strconv.Itoa(len(x.label))+" bytes", sponge.New(x.label), laid(t, x.want), 0)
	}
}

// P12.1: states that another program wrote, behind texts that a sponge of the label a has absorbed.
func TestAbsorbWritten(t *testing.T) {
	for _, x := range []struct {
		l    []string
		want string
	}{
		{nil, "4b94deed90927192d698cf3f6aec8d31594aae561ad8e55c0dedf702643a8117"},
		{[]string{""}, "100a47e7af2e72946dcaa7895da88c109134c36ddea064ded536b460a0ceaf5a"},
		{[]string{"bc"}, "1055e01285283b5e88d289a940749ee023988023fe446b96a0bb5b869e1697d2"},
		{[]string{"bc", ""}, "96da6d79552a3808603c35d9c21c17f3a5f91510a65e758371c82d2a4c95702c"},
		{[]string{"", "bc"}, "8c65162b1db37d2262d219e84fa2bdd594e4385aa85c28aae21d06864ab3700b"},
		{[]string{"b", "c"}, "ec219e640a935286dcce887f859644c11245cb653c6e47835aaa61bad6152104"},
		{[]string{"c", "b"}, "dfde51aff5c94353cbaf3a421062402717b053ddda0ec82f9645f29ea96a369e"},
		{[]string{"", "", ""}, "fccfd916ded78de07e2466e6aa1eaf1383da2750f60044edd7fa0caf95d72155"},
		{[]string{"é"}, "8feabd07790f1c4ce380127f0a603d3cdf13a8104dab9a861e34d7840ea4f5a5"},
		{[]string{"\x00", "\x00"}, "ad9a77aa9fb2e20a1e5dae21f657ab949cb69ad8b629dab416a8487221a2dc99"},
		{[]string{text(22)}, "b83ce53e35c2884b59fd72040a0d25747d30fb74a0f09289c44beaa8d3acee3f"},
		{[]string{text(23)}, "d65913663036c27a07c77e77cd20b9b522da1f83a205e0727789aba24e361d4b"},
		{[]string{text(24)}, "ca04fb6cac45015e9cf82f598bf3fbd20e711c29e3f6cc5666855ee8d636eee6"},
		{[]string{text(63)}, "80917f749bbe4abc891e6ed016bd96ffa7fd8823edcc58e268e1ce5591953c2a"},
		{[]string{text(64)}, "8e58f2c6902e318efa054f9f6061b2a3ec2538f167fb878e973d4ab4309d5210"},
		{[]string{text(65)}, "dad9542d2e0229dc36bbbe255eb758bf0e406b10c6ba9da2d941042dfa08aea5"},
		{[]string{text(128)}, "d4671adcaca723845e71622097edc53b10c274fd544c7122e4a04008f8db846e"},
		{[]string{text(255)}, "16553819249d9453b6e7dfe171a8bda96b7fbc84078d71d7cb95a3f9f2b5f165"},
		{[]string{text(256)}, "fb105e312daf5c8032b74cde3bf34f41ca722195d42667150722b7fe5e08f9e3"},
		{[]string{text(257)}, "b37c340ebf9bc204854d4e5f54c201f18cb7d554d53a5ed2ad786013cd7b98eb"},
		{[]string{text(65536)}, "c628006f7ce05e4a7fbbd0ce3385108216c350c68fbd9fccceb71cf4c76f06e9"},
		{[]string{text(100000)}, "2ffbb37ea637533871f144934595831977a0d6158fa0ee2e800e01a67f461408"},
	} {
		is(t, "texts that a has absorbed", sponge.Absorb(sponge.New("a"), x.l...), laid(t, x.want), 0)
	}
}

// P12.1: what another program squeezed of a sponge of the label a, of all kinds of counts.
func TestSqueezeWritten(t *testing.T) {
	s := sponge.New("a")
	for _, x := range []struct {
		count int
		want  string
		next  int
	}{
		{0, "5f843b00896e8f94cc6925db3f644b481e9dcf1c1abab622539270a745871092", 1},
		{1, "438f0aa0eef991f6a1d460032392efad6d25daf168d5c8094a6b7adfca187217", 2},
		{2, "e669c49d8be039e5e1f5396cf4460680842673c5ccf330cd33c25bd0038d529c", 3},
		{3, "4d7068c834df91737c5727edc0b9fb2ac7f876a72a379ff833e20d610ec21555", 4},
		{255, "1f8669b7f99f63e38763c6a6f42f9b35d72c4c6314e2e86179190ebc4e23d016", 256},
		{256, "34f487e9cb427ab71519255037557d41127b06bc82a36609691b96f3cb9a3544", 257},
		{math.MaxInt32, "ca72f740d55f8534ad2e5a69b5fb01c540d50b4d1f0b31f67968fe10a4efded1", 1 << 31},
		{1 << 31, "a1ee1f1bfb468db4ddffe0fea2da8a29837e4534cc6a2ff61176ae8c3ae036ed", 1<<31 + 1},
		{math.MaxUint32, "8de81e7be05fca3bd55949606ccbbc64f05b10fb8771f3df96411800e7a11cbd", 1 << 32},
		{1 << 32, "924fe2622f1b68b0a0f88cc24196c4d39972e02be6bc60d2db081712f4df4584", 1<<32 + 1},
		{math.MaxInt - 1, "229782e8e6457cf1a2d83bafcf7ce0f20a49a0d437150b3e15f364442555e95c", math.MaxInt},
		{math.MaxInt, "c5f6237c9fdee14adf49de8faa00b73e8f6bce69cde7adbdeaa06687a23877c3", math.MinInt},
		{math.MinInt, "0b50ff264128256463b281baf439874b611d3c5cacec7215c9916dc2b572097f", math.MinInt + 1},
		{math.MinInt + 1, "e4a0cbe86ef5014e67386d6da06ec318b04f29f2b12340f9d7d4d9de71b451e4", math.MinInt + 2},
		{-2, "3799f608ab35ac3d8f4a067738d9e665ec66bd76a8ef42cb42fec912857498ed", -1},
		{-1, "8e49d88012f758a2e207e63e12dd394e1c5afd412523db4bb77f7e949f72a3cc", 0},
	} {
		s.Count = x.count
		gives(t, s, laid(t, x.want), x.next)
	}
}

// P12.1: of states that are empty or not of a sum's length, what another program absorbed and squeezed.
func TestStatesWritten(t *testing.T) {
	for _, x := range []struct{ state, empty, bc, out string }{
		{"", "d14dc38c3f8c7e10587d124d41a286ec624dee63c68b9e40ae257cd5ddb9f171", "e08bf26c2fde243cf1cf03267a47e89cd05b85b17ffb8b367e43454352287b62", "645bed5f6cebefa8dc7b941586998701c141f6ee46c24dee6d8bac836b6b89ba"},
		{"p", "d36789a6760ae6595a79980022d15875951de71771cc24ff5fd413d3b9ef682b", "898171878546295079c9d7d7b81c983e9c301fc116b4f6da35743953e795f3ab", "68df39ec6528e1d7b9ad6a37a361c85b72198a1c2844e71cabf0c46d6daeca4b"},
		{text(31), "0e3eb6274ce6c151104a4df0def8d832479373f7220a419c5112e332f6437e45", "78eb2b71e1b8222db98c9562538258bcd18a470db9bbdf06be4e9e0fbad8adae", "ba173cf417d774f4e31a40c339b6907db9ddc88735c01e238882a1a491470577"},
		{text(32), "2c362cb4139c3ea2dbbed041bcc6288b44cbb841118985d6020c093136463f30", "1d7d5334070e28d6f0f35f618bc19711507ba782351ba77d8ece0eac8ee228eb", "7af4e0b6d63080323b3a42f033df6b7df97a1dd132bc21d78768f7798b56b14b"},
		{text(33), "323032a0894653623bc3da8b84fbf932247c145d6dd9a3a4cea4e437415a1f3d", "f30e9aeb2a222b4a1bef15bf9f471cff49780f1cc58dc5812908d4898c93808f", "5e459edc20d78eb8ac1e37c6d044da2370b49a58f66f2d0baf4aa7f7cebfac44"},
		{text(100), "34bb464fb96ff0adceb2c05a9df4157ccfb95abc794280ea40229615ac5c0b79", "721bd14707377f43426cbc71bbadb9f4efe43dd36c7119542a16f11a0ddac5d1", "bd52405fa490a9d2e405ffc1d662d9df1cdf4a82c7e99beb726290e88455ad57"},
	} {
		s := api.Sponge{State: x.state}
		what := "a state of " + strconv.Itoa(len(x.state)) + " bytes"
		is(t, what, sponge.Absorb(s, ""), laid(t, x.empty), 0)
		is(t, what, sponge.Absorb(s, "bc"), laid(t, x.bc), 0)
		gives(t, s, laid(t, x.out), 1)
	}
}

// P12.1: labels of each number of bytes around a block and more, and of all kinds.
func TestNew(t *testing.T) {
	for n := range 300 {
		is(t, "New of "+strconv.Itoa(n)+" bytes", sponge.New(text(n)), blake.Sum("\x02"+text(n)), 0)
	}
	for _, label := range texts() {
		is(t, "New", sponge.New(label), blake.Sum("\x02"+label), 0)
	}
	long := strings.Repeat("a label", 1<<17)
	is(t, "New of a long label", sponge.New(long), blake.Sum("\x02"+long), 0)
}

// P12.1: where no text is absorbed, a sponge stays as it is, its count too.
func TestAbsorbNone(t *testing.T) {
	for _, state := range states() {
		for _, count := range counts() {
			s := api.Sponge{State: state, Count: count}
			is(t, "Absorb of no text", sponge.Absorb(s), state, count)
			is(t, "Absorb of a nil list", sponge.Absorb(s, []string(nil)...), state, count)
			is(t, "Absorb of an empty list", sponge.Absorb(s, []string{}...), state, count)
		}
	}
}

// P12.1: one text of all kinds, by sponges of all kinds: the count neither counts nor stays.
func TestAbsorbOne(t *testing.T) {
	for _, state := range states() {
		for _, in := range texts() {
			want := soaked(state, in)
			for _, count := range []int{0, 1, -1, math.MaxInt, math.MinInt} {
				is(t, "Absorb of a text", sponge.Absorb(api.Sponge{State: state, Count: count}, in), want, 0)
			}
		}
	}
	for _, count := range counts() {
		is(t, "Absorb of an empty text", sponge.Absorb(api.Sponge{State: "p", Count: count}, ""), soaked("p", ""), 0)
	}
}

// P12.1: several texts are absorbed one by one, in one call or in more.
func TestAbsorbSeveral(t *testing.T) {
	all := texts()
	for _, state := range states() {
		s := api.Sponge{State: state, Count: 5}
		want, one := state, s
		for n, in := range all {
			want, one = soaked(want, in), sponge.Absorb(one, in)
			is(t, "Absorb, one by one", one, want, 0)
			is(t, "Absorb of several", sponge.Absorb(s, all[:n+1]...), want, 0)
			if n%5 == 0 {
				is(t, "Absorb, twice", sponge.Absorb(sponge.Absorb(s, all[:n/2]...), all[n/2:n+1]...), want, 0)
			}
		}
	}
}

// P1, P12.1: very many texts, and a very long one.
func TestAbsorbMany(t *testing.T) {
	s := sponge.New("many")
	want := s.State
	many := make([]string, 50000)
	for i := range many {
		many[i] = text(i % 70)
		want = soaked(want, many[i])
	}
	is(t, "Absorb of many texts", sponge.Absorb(s, many...), want, 0)
	long := strings.Repeat("a text", 1<<18)
	is(t, "Absorb of a long text", sponge.Absorb(s, long), soaked(s.State, long), 0)
}

// P12.1: other texts, another order, and other parts of the same bytes leave another state.
func TestAbsorbUnlike(t *testing.T) {
	seen := map[string]int{}
	lists := [][]string{
		{}, {""}, {"", ""}, {"", "", ""}, {"abc"}, {"a", "bc"}, {"ab", "c"}, {"a", "b", "c"}, {"c", "b", "a"},
		{"", "abc"}, {"abc", ""}, {"abc", "abc"}, {"abcabc"}, {"abc\x00"}, {"\x00abc"}, {"Abc"},
		{eight(3) + "abc"}, {"abc", eight(3)}, {text(64)}, {text(63)}, {text(65)}, {text(32), text(64)[32:]},
	}
	for j, l := range lists {
		state := sponge.Absorb(sponge.New("a"), l...).State
		if k, ok := seen[state]; ok {
			t.Errorf("%q and %q leave one state", lists[k], l)
		}
		seen[state] = j
	}
}

// P12.1: squeezes of sponges of all kinds: the state stays, the count is one more.
func TestSqueeze(t *testing.T) {
	for _, state := range states() {
		for _, count := range counts() {
			next := int(uint(count) + 1)
			gives(t, api.Sponge{State: state, Count: count}, squeezed(state, count), next)
		}
	}
}

// P12.1: squeezes on end, from 0 on, over the ends of the type and over 0.
func TestSqueezeOnEnd(t *testing.T) {
	for _, state := range []string{sponge.New("a").State, "", text(33)} {
		for _, from := range []int{0, 250, -3, math.MaxInt - 2, math.MinInt, 1<<32 - 3} {
			s, seen := api.Sponge{State: state, Count: from}, map[string]int{}
			for n := range uint(300) {
				var got string
				count := int(uint(from) + n)
				is(t, "on end", s, state, count)
				s, got = sponge.Squeeze(s)
				if got != squeezed(state, count) {
					t.Errorf("squeeze %d from %d on: %x", n, from, got)
				}
				seen[got]++
			}
			if len(seen) != 300 {
				t.Errorf("300 squeezes from %d on are %d", from, len(seen))
			}
		}
	}
}

// P12.1: a squeeze behind an Absorb goes on from the new state, and from 0; behind an Absorb of no text from where it was.
func TestSqueezeBehind(t *testing.T) {
	s := sponge.New("a")
	state := blake.Sum("\x02a")
	gives(t, s, squeezed(state, 0), 1)
	s, _ = sponge.Squeeze(s)
	s, _ = sponge.Squeeze(s)
	gives(t, s, squeezed(state, 2), 3)
	s = sponge.Absorb(s)
	gives(t, s, squeezed(state, 2), 3)
	for _, in := range texts() {
		s, state = sponge.Absorb(s, in), soaked(state, in)
		gives(t, s, squeezed(state, 0), 1)
		s, _ = sponge.Squeeze(s)
		gives(t, s, squeezed(state, 1), 2)
	}
}

// P12.2: whichever way sponges of one state and one count came about, the same is squeezed of them.
func TestOneStateOneCount(t *testing.T) {
	direct := sponge.Absorb(sponge.New("a"), "b", "c")
	between := sponge.New("a")
	for _, in := range []string{"b", "c"} {
		for range 3 {
			between, _ = sponge.Squeeze(between)
		}
		between = sponge.Absorb(between, in)
	}
	made := api.Sponge{State: strings.Clone(direct.State)}
	for range 20 {
		var a, b, c string
		direct, a = sponge.Squeeze(direct)
		between, b = sponge.Squeeze(between)
		made, c = sponge.Squeeze(made)
		if direct != between || direct != made || a != b || a != c {
			t.Errorf("of one state and the count %d: %x, %x, %x", direct.Count-1, a, b, c)
		}
	}
	// A label that is laid down as a state and a text are leaves their state, so that is squeezed the same of too.
	label := sponge.New(sponge.New("a").State + eight(1) + "b")
	is(t, "a label like a text", sponge.Absorb(sponge.New("a"), "b"), label.State, label.Count)
	gives(t, label, squeezed(label.State, 0), 1)
}

// P12.2: another state, or another count, is squeezed to something else; what is squeezed is no state.
func TestSqueezeUnlike(t *testing.T) {
	seen := map[string]api.Sponge{}
	for _, state := range slices.Compact(slices.Sorted(slices.Values(states()))) {
		for _, count := range counts() {
			s := api.Sponge{State: state, Count: count}
			_, out := sponge.Squeeze(s)
			if before, ok := seen[out]; ok {
				t.Errorf("of %x, %d and %x, %d the same is squeezed", before.State, before.Count, s.State, s.Count)
			}
			seen[out] = s
		}
	}
	for _, state := range states() {
		for _, other := range []api.Sponge{sponge.Absorb(api.Sponge{State: state}, ""), sponge.New(state + eight(0)), sponge.New(state)} {
			if before, ok := seen[other.State]; ok {
				t.Errorf("what is squeezed of %x, %d is a state", before.State, before.Count)
			}
		}
	}
}

// P1: what is answered has the length of a sum, whatever was handed in.
func TestLengths(t *testing.T) {
	for _, state := range states() {
		for _, count := range counts() {
			s := api.Sponge{State: state, Count: count}
			_, out := sponge.Squeeze(s)
			if len(out) != 32 || len(sponge.New(state).State) != 32 || len(sponge.Absorb(s, state).State) != 32 {
				t.Errorf("of %x, %d something is squeezed or absorbed that is no sum", s.State, s.Count)
			}
		}
	}
}

// Rule 3: what is handed in is as it was, its spare room too, and no answer hangs on it.
func TestKept(t *testing.T) {
	l := []string{"a", "", text(64), "behind", "more"}
	before := slices.Clone(l)
	s := api.Sponge{State: "p", Count: 7}
	got := sponge.Absorb(s, l[:3]...)
	again := sponge.Absorb(s, l[:3:3]...)
	next, out := sponge.Squeeze(s)
	if !slices.Equal(l, before) || s != (api.Sponge{State: "p", Count: 7}) {
		t.Errorf("now there is %q, %x, %d", l, s.State, s.Count)
	}
	clear(l)
	s = api.Sponge{}
	want := soaked(soaked(soaked("p", "a"), ""), text(64))
	is(t, "a full list", again, want, 0)
	is(t, "a list with room", got, want, 0)
	is(t, "a squeezed one", next, "p", 8)
	if out != squeezed("p", 7) {
		t.Errorf("squeezed: %x", out)
	}
}

// Rules 4 and 6: nothing is kept from call to call, and many goroutines may call at once.
func TestAtOnce(t *testing.T) {
	l := []string{"b", "", text(64), text(200)}
	s := sponge.New("a")
	want := blake.Sum("\x02a")
	for _, in := range l {
		want = soaked(want, in)
	}
	var wait sync.WaitGroup
	for n := range 8 {
		wait.Go(func() {
			for k := range 50 {
				is(t, "at once", sponge.Absorb(s, l...), want, 0)
				is(t, "at once", sponge.New(text(n)), blake.Sum("\x02"+text(n)), 0)
				gives(t, api.Sponge{State: want, Count: n * k}, squeezed(want, n*k), n*k+1)
			}
		})
	}
	wait.Wait()
}
