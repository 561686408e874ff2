package work_test

import (
	"encoding/binary"
	"math"
	"strconv"
	"strings"
	"sync"
	"testing"

	"assayer/api"
	"assayer/blake"
	"assayer/sponge"
	"assayer/work"
)

// text is n bytes of all kinds.
func text(n int) string {
	out := make([]byte, n)
	for i := range out {
		out[i] = byte(7*i + 3)
	}
	return string(out)
}

// eight is the bytes of a number, by another means than layer 8.
func eight(n uint64) string { return string(binary.LittleEndian.AppendUint64(nil, n)) }

// states are empty, of a sum's length, and of others.
func states() []string {
	out := []string{"", "\x00", "p", "\x04", strings.Repeat("\x00", 32), strings.Repeat("\xff", 32), sponge.New("a").State}
	for _, n := range []int{1, 8, 31, 32, 33, 54, 55, 56, 63, 64, 65, 118, 119, 120, 1000} {
		out = append(out, text(n))
	}
	return out
}

// counts are of all kinds, the bounds of their type too.
func counts() []int {
	return []int{0, 1, 2, 255, 256, math.MaxInt32, math.MaxInt - 1, math.MaxInt, -1, -2, math.MinInt32, math.MinInt + 1, math.MinInt}
}

// nonces are of all kinds, the bounds of their type too.
func nonces() []uint64 {
	out := []uint64{0, 3, 54, 1330, 38906, api.MaxNonce - 1, math.MaxUint64 - 1, math.MaxUint64}
	for k := range 64 {
		out = append(out, 1<<k, 1<<k+1, ^uint64(0)>>k-1)
	}
	return out
}

// wants are below 0, all that a nonce may show, and more, the bounds of their type too.
func wants() []int {
	out := []int{math.MinInt, math.MinInt + 1, math.MinInt32, -65, -64, -63, -2, -1, 100, 128, 255, 256, math.MaxInt32, math.MaxInt - 1, math.MaxInt}
	for n := range 68 {
		out = append(out, n)
	}
	return out
}

// shown is what a nonce should show: the sum of one text that is laid down whole, bit by bit, from the eighth byte back to the first.
func shown(state string, nonce uint64) int {
	sum := blake.Sum("\x04" + state + eight(nonce))
	for n := range 64 {
		if sum[7-n/8]&(128>>(n%8)) != 0 {
			return n
		}
	}
	return 64
}

// weighs holds what a nonce shows, and so which wants it meets.
func weighs(t *testing.T, s api.Sponge, nonce uint64, want int) {
	t.Helper()
	if got := work.Weight(s, nonce); got != want {
		t.Errorf("Weight of %x, %d, %d: %d, not %d", s.State, s.Count, nonce, got, want)
	}
	for _, n := range []int{math.MinInt, -1, 0, want - 1, want, want + 1, 64, 65, math.MaxInt} {
		meets(t, s, nonce, n, want >= n)
	}
}

// meets holds whether a nonce meets a want.
func meets(t *testing.T, s api.Sponge, nonce uint64, n int, want bool) {
	t.Helper()
	if got := work.Meets(s, nonce, n); got != want {
		t.Errorf("Meets of %x, %d, %d, %d: %v", s.State, s.Count, nonce, n, got)
	}
}

// finds holds that a nonce is found.
func finds(t *testing.T, s api.Sponge, n int, limit, want uint64) {
	t.Helper()
	if got, ok := work.Search(s, n, limit); !ok || got != want {
		t.Errorf("Search of %x, %d, %d below %d: %d, %v, not %d", s.State, s.Count, n, limit, got, ok, want)
	}
}

// misses holds that no nonce is found.
func misses(t *testing.T, s api.Sponge, n int, limit uint64) {
	t.Helper()
	if got, ok := work.Search(s, n, limit); ok || got != 0 {
		t.Errorf("Search of %x, %d, %d below %d: %d, %v", s.State, s.Count, n, limit, got, ok)
	}
}

// P14.2, the chapter's example: no work: the nonce 0.
func TestExample(t *testing.T) {
	finds(t, sponge.New("a"), 0, api.MaxNonce, 0)
	meets(t, sponge.New("a"), 0, 0, true)
}

// written is what another program wrote that nonces on end show, a letter each, in base 36.
type written struct{ state, low, high string }

// few are the first 64 nonces, and the last 64, of several states.
func few() []written {
	return []written{
		{sponge.New("a").State, "1000001020010330030001110101011300301003032100101000006206310411", "1100241120200101200010202110212703031131002100200000040111020020"},
		{sponge.New("").State, "0014020200230021102000040103102102212037324001313100110003800020", "0100020120121011103000081211461101000001242414120002000102021122"},
		{"", "0202000001010000210220120010202000320011002000020330041130000040", "0111331010102111100040000100212010000502001110001001000100500111"},
		{"p", "0016002001100100000100100112330210203201210041000200213100410020", "12120302311033504a0110101001112100022000021200000201212004222012"},
		{"\x04", "1020110102021320043000020011102600132043130306510400023001003511", "0000000111001010201001101021101021200000110000002010020011000210"},
		{strings.Repeat("\x00", 32), "0211200000201200011001063000000100011421413111205320031033320b00", "0141000302100011040010311011000000111110043011200001102112074011"},
		{strings.Repeat("\xff", 32), "0000001202001300100200000100000001030004100010203016012200120110", "0070024012000000000100200021301002000001002120000100201231010211"},
		{text(31), "0041111511021000200421411010002010101000081201120110001070000313", "0040000100250011000013201000222201230011510117000011201100102061"},
		{text(32), "0200002011301000224011102000105001100200302021010311001100220004", "0211006000310010102002411060110010150100100200111112022122202022"},
		{text(33), "1050012000130002301200100002000460300000000002000210002320052402", "000001204011211002411001g102005020000100001113200120307310110132"},
		{text(54), "0120010500100020200005000112001203130621113120000301011001000004", "1100114040002250022114120010110002020010001131150100100000032010"},
		{text(55), "0010120020001003001111010021500011200001102104100300000411110300", "0000222000040221101026a21400200810000302010002210320020000011011"},
		{text(56), "0000000022010311010411111011011001002011061401010200002026110012", "0200020001120000000010150000110200000222011220210300030023000012"},
		{text(64), "1124001301130110110000000400000013010021140004010310011101001040", "1001100000301100130000002000014114210214120421110110000012000111"},
		{text(119), "0302001103201020001101210011000010100000200002100000100012001001", "0200172001000000320200140441001100321020041310001123200220001000"},
		{text(1000), "0120112000102140130010100120001200133020300221000100110040100011", "0571013010011142125015000004100200300001020010200002200030113102"},
	}
}

// digit is the number that a letter writes.
func digit(t *testing.T, letter byte) int {
	t.Helper()
	n, err := strconv.ParseInt(string(letter), 36, 0)
	if err != nil {
		t.Fatal(err)
	}
	return int(n)
}

// P14.1: the least nonces, and the greatest, of states of all kinds, as another program wrote them.
func TestFewWritten(t *testing.T) {
	for _, x := range few() {
		if len(x.low) != 64 || len(x.high) != 64 {
			t.Fatal("not 64 nonces")
		}
		s := api.Sponge{State: x.state}
		for i := range uint64(64) {
			weighs(t, s, i, digit(t, x.low[i]))
			weighs(t, s, math.MaxUint64-63+i, digit(t, x.high[i]))
		}
	}
}

// P14.1: of the label a the 32 nonces around powers of two, as another program wrote them.
func TestPowersWritten(t *testing.T) {
	for _, x := range []struct {
		k    int
		want string
	}{
		{8, "00000301120010200000341201100011"},
		{16, "10340000000400041000004132051001"},
		{20, "01144001230102002021032104000010"},
		{24, "01020102200201011002411040014000"},
		{31, "01200121020713000011100011310023"},
		{32, "00223100131100220012201000030014"},
		{40, "11010000120002012100010015001000"},
		{48, "00101601201000203041050000103222"},
		{56, "1a013000010224021020302400511110"},
		{63, "04030100040014010302040013001121"},
	} {
		for i := range uint64(len(x.want)) {
			weighs(t, sponge.New("a"), 1<<x.k-16+i, digit(t, x.want[i]))
		}
	}
}

// P14.1: nonces of the label a that show much, as another program wrote them: more than half of a number's bits, too.
func TestMuchWritten(t *testing.T) {
	for _, x := range []struct {
		nonce uint64
		want  int
	}{
		{9564, 14}, {38906, 15}, {117223, 18}, {256469, 26}, {17607061, 28}, {32852608, 27},
		{743375070, 31}, {885977131, 32}, {1253718468, 31}, {2072870889, 31}, {2869467225, 31},
		{5374932471, 35}, {7921120033, 34}, {14796308644, 33}, {20875986421, 33}, {20878700097, 32}, {59548668441, 33}, {62343605572, 33},
		{70231658002, 33}, {71212845455, 33}, {78711371545, 35}, {84615084767, 34}, {122360435788, 34}, {136452522107, 31},
		{9223372019838066377, 31}, {9223372024420023455, 32}, {9223372024325950049, 33}, {9223372024803481514, 33},
		{9223372045715988550, 32}, {9223372047895358274, 33}, {9223372049005487221, 32}, {9223372051451304269, 31},
		{18446744006499830552, 31}, {18446744013135662633, 32}, {18446744015195853728, 32}, {18446744021283917766, 35},
		{18446744024317295111, 33}, {18446744025334035161, 34}, {18446744028210493021, 36}, {18446744035137305113, 32},
	} {
		weighs(t, sponge.New("a"), x.nonce, x.want)
		for n := range 70 {
			meets(t, sponge.New("a"), x.nonce, n, n <= x.want)
		}
	}
}

// P14.1: sponges and nonces of all kinds show what the sum's bits do; a sponge's count doesn't count.
func TestWeight(t *testing.T) {
	for _, state := range states() {
		for _, nonce := range nonces() {
			want := shown(state, nonce)
			weighs(t, api.Sponge{State: state}, nonce, want)
			for _, count := range counts() {
				if got := work.Weight(api.Sponge{State: state, Count: count}, nonce); got != want {
					t.Errorf("Weight of %x, %d, %d: %d, not %d", state, count, nonce, got, want)
				}
			}
		}
	}
}

// P14.1, P14.3: a nonce meets each want up to what it shows, and none above; so who meets a want meets all below it.
func TestMeets(t *testing.T) {
	for _, state := range states() {
		for _, nonce := range []uint64{0, 1, 2, 54, 1330, 256469, 1 << 32, 1 << 63, math.MaxUint64 - 1, math.MaxUint64} {
			show := shown(state, nonce)
			for _, n := range wants() {
				meets(t, api.Sponge{State: state}, nonce, n, n <= show)
				meets(t, api.Sponge{State: state, Count: n}, nonce, n, n <= show)
			}
		}
	}
}

// leasts are the least nonces that meet 0, 1, 2 and so on.
type leasts struct {
	state string
	l     []uint64
}

// found are those that another program found.
func found() []leasts {
	return []leasts{
		{sponge.New("a").State, []uint64{0, 0, 8, 13, 54, 54, 54, 71, 482, 482, 1330, 1330, 9564, 9564, 9564, 38906, 117223, 117223, 117223}},
		{sponge.New("").State, []uint64{0, 2, 3, 3, 3, 39, 39, 39, 58, 658, 658, 658, 658, 1405, 21366, 21366, 21366}},
		{sponge.New("assayer").State, []uint64{0, 0, 1, 3, 24, 24, 24, 63, 90, 90, 90, 5465, 5465, 16852, 17102, 44397, 53215, 53215, 53215, 53215, 53215, 53215, 53215, 53215}},
		{sponge.New("é").State, []uint64{0, 5, 9, 36, 48, 48, 48, 48, 48, 72, 414, 414, 414, 414, 13800, 21505, 95662, 95662}},
		{"", []uint64{0, 1, 1, 34, 53, 71, 72, 72, 72, 72, 72, 72, 2797, 5735, 35327}},
		{"p", []uint64{0, 2, 3, 3, 3, 3, 3, 76, 362, 1592, 1592, 1592, 1592, 2058, 2058, 2058, 2058, 2058}},
		{text(31), []uint64{0, 2, 2, 2, 2, 7, 41, 41, 41, 80, 80, 80, 80, 80, 6201}},
		{text(33), []uint64{0, 0, 2, 2, 2, 2, 32, 196, 225, 225, 532, 532, 5680, 11294, 11294, 11294}},
		{text(64), []uint64{0, 0, 2, 3, 3, 107, 107, 260, 833, 833, 2742, 2742, 10062, 10062, 12262, 12262, 12262, 12262, 12262}},
		{text(1000), []uint64{0, 1, 2, 14, 14, 115, 148, 160, 192, 1062, 1062, 1092}},
	}
}

// P14.2: the least nonces of several sponges, as another program found them: one below a limit just behind it, none below one just at it.
func TestFoundWritten(t *testing.T) {
	for _, x := range found() {
		s := api.Sponge{State: x.state, Count: 5}
		for n, want := range x.l {
			finds(t, s, n, want+1, want)
			misses(t, s, n, want)
			misses(t, s, n, want/2)
		}
		for n, want := range x.l[:9] {
			for _, limit := range []uint64{want + 2, want + 100, api.MaxNonce, 1<<32 + 1, 1 << 63, math.MaxUint64 - 1, math.MaxUint64} {
				finds(t, s, n, limit, want)
			}
		}
	}
}

// P14.2: of the greatest work that is asked for, and more, below MaxNonce; where the nonce there is comes behind the limit, there is none.
func TestGreatestWritten(t *testing.T) {
	finds(t, sponge.New("a"), api.MaxGrind, api.MaxNonce, 117223)
	finds(t, sponge.New(""), api.MaxGrind, api.MaxNonce, 21366)
	finds(t, sponge.New("assayer"), api.MaxGrind, api.MaxNonce, 53215)
	finds(t, sponge.New("é"), api.MaxGrind, api.MaxNonce, 95662)
	finds(t, sponge.New("a"), 26, api.MaxNonce, 256469)
	finds(t, sponge.New("assayer"), 23, math.MaxUint64, 53215)
	finds(t, sponge.New(""), 17, api.MaxNonce, 440433)
	misses(t, sponge.New(""), 18, api.MaxNonce)
	finds(t, sponge.New(""), 18, math.MaxUint64, 1107393)
}

// P14.2: no nonce is below a limit 0, whatever is wanted.
func TestNoLimit(t *testing.T) {
	for _, state := range states() {
		for _, n := range wants() {
			misses(t, api.Sponge{State: state}, n, 0)
			misses(t, api.Sponge{State: state, Count: n}, n, 0)
		}
	}
}

// P14.2: below a limit 1 there is the nonce 0 alone.
func TestOneLimit(t *testing.T) {
	for _, state := range states() {
		show := shown(state, 0)
		for _, n := range wants() {
			if s := (api.Sponge{State: state, Count: 7}); n <= show {
				finds(t, s, n, 1, 0)
			} else {
				misses(t, s, n, 1)
			}
		}
	}
}

// P14.2: where nothing is wanted, or less, the nonce 0 is found at once, below any limit but 0.
func TestNoWant(t *testing.T) {
	for _, state := range states() {
		for _, n := range []int{0, -1, -2, -64, math.MinInt32, math.MinInt + 1, math.MinInt} {
			for _, limit := range []uint64{1, 2, api.MaxNonce, 1 << 63, math.MaxUint64} {
				finds(t, api.Sponge{State: state}, n, limit, 0)
			}
		}
	}
}

// P1, P14.2: no nonce shows more bits than there are; that none is found is told soon, below any limit.
func TestTooMuch(t *testing.T) {
	for _, state := range states() {
		for _, n := range []int{65, 66, 100, 128, math.MaxInt32, math.MaxInt - 1, math.MaxInt} {
			for _, limit := range []uint64{0, 1, 2, api.MaxNonce, 1 << 63, math.MaxUint64} {
				misses(t, api.Sponge{State: state}, n, limit)
			}
		}
	}
}

// P14.2, P14.3: what is found is the first that meets, of sponges of all kinds; so of a greater want none comes earlier, nor of a greater limit another.
func TestSearch(t *testing.T) {
	for _, state := range states() {
		const limit = 500
		var first []uint64
		for nonce := range uint64(limit) {
			for show := shown(state, nonce); len(first) <= show; {
				first = append(first, nonce)
			}
		}
		for n := range 66 {
			s := api.Sponge{State: state, Count: counts()[n%13]}
			if n >= len(first) {
				misses(t, s, n, limit)
				continue
			}
			finds(t, s, n, limit, first[n])
			finds(t, s, n, first[n]+1, first[n])
			misses(t, s, n, first[n])
		}
	}
}

// Rule 3: what is handed in is as it was.
func TestKept(t *testing.T) {
	s := api.Sponge{State: text(32), Count: 7}
	work.Weight(s, 5)
	work.Meets(s, 5, 3)
	work.Search(s, 5, 1000)
	if s != (api.Sponge{State: text(32), Count: 7}) {
		t.Errorf("now there is %x, %d", s.State, s.Count)
	}
}

// Rules 4 and 6: nothing is kept from call to call, and many goroutines may call at once.
func TestAtOnce(t *testing.T) {
	var wait sync.WaitGroup
	for _, x := range found()[:8] {
		wait.Go(func() {
			for k := range 20 {
				s := api.Sponge{State: x.state, Count: k}
				for n, want := range x.l[:9] {
					finds(t, s, n, api.MaxNonce, want)
					misses(t, s, n, want)
				}
				weighs(t, s, uint64(k), shown(x.state, uint64(k)))
			}
		})
	}
	wait.Wait()
}
