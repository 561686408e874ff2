package eval_test

import (
	"math"
	"math/big"
	"slices"
	"strconv"
	"strings"
	"sync"
	"testing"

	"assayer/api"
	"assayer/eval"
	"assayer/pair"
	"assayer/shape"
)

const top = math.MaxUint64

// ops are the operations of a text: c, n or k and a number (a column, the next row's, a constant), +, - and *.
func ops(s string) []api.Op {
	var l []api.Op
	for _, word := range strings.Fields(s) {
		number, bad := strconv.ParseUint("0"+word[1:], 10, 64)
		if bad != nil {
			panic("no operation: " + word)
		}
		l = append(l, api.Op{Kind: strings.Index(" cnk+-*", word[:1]), N: number})
	}
	return l
}

// text tells operations as ops reads them.
func text(l []api.Op) string {
	var out []string
	for _, o := range l {
		word := " cnk+-*"[o.Kind : o.Kind+1]
		if o.Kind <= api.OpConst {
			word += strconv.FormatUint(o.N, 10)
		}
		out = append(out, word)
	}
	return strings.Join(out, " ")
}

// times is the operations of a text, n times over.
func times(n int, s string) []api.Op { return slices.Repeat(ops(s), n) }

// edges are numbers at all ends, some of them not as they are kept.
func edges() []uint64 {
	return []uint64{
		0, 1, 2, 3, 7, 1<<16 + 1, 1<<32 - 2, 1<<32 - 1, 1 << 32, 1<<32 + 1, 1 << 48, 1<<63 - 1, 1 << 63, 1<<63 + 1,
		api.P / 2, api.P/2 + 1, api.P - 1<<32, api.P - 7, api.P - 2, api.P - 1, api.P, api.P + 1, api.P + 2, api.P + 7, top - 1, top,
	}
}

// ordinary are n numbers over all 64 bits, always the same ones of one seed.
func ordinary(n int, seed uint64) []uint64 {
	x := 0x9e3779b97f4a7c15 ^ seed<<20
	out := make([]uint64, n)
	for i := range out {
		x ^= x << 13
		x ^= x >> 7
		x ^= x << 17
		out[i] = x
	}
	return out
}

// mixed are n numbers, ordinary ones and edges.
func mixed(n int, seed uint64) []uint64 {
	out := ordinary(n+3, seed)[3:]
	for i, x := range out {
		if x%3 == 0 {
			out[i] = edges()[x>>8%uint64(len(edges()))]
		}
	}
	return out
}

// twos are pairs of numbers.
func twos(l []uint64) []api.Pair {
	var out []api.Pair
	for i := 0; i+1 < len(l); i += 2 {
		out = append(out, api.Pair{A: l[i], B: l[i+1]})
	}
	return out
}

// lifted are numbers as pairs, without anything else done to them.
func lifted(l []uint64) []api.Pair {
	var out []api.Pair
	for _, n := range l {
		out = append(out, api.Pair{A: n})
	}
	return out
}

// limits are what an N of each kind is below in rules of three columns.
var limits = [4]uint64{1: 3, 2: 3, 3: api.P}

// rule is operations that leave one value, of so many columns and constants, always the same ones of one seed.
func rule(leaves int, seed uint64) []api.Op {
	var l []api.Op
	var degrees []int
	put := 0
	for i := uint64(0); put < leaves || len(degrees) > 1; i++ {
		x := mixed(2, seed*1000+i)
		if put < leaves && len(degrees) < 16 && (len(degrees) < 2 || x[0]%16 < 9) {
			kind := 1 + int(x[0]>>8%16)/6
			l = append(l, api.Op{Kind: kind, N: x[1] % limits[kind]})
			degrees = append(degrees, 1-kind/3)
			put++
			continue
		}
		rest := len(degrees) - 2
		a, b := degrees[rest], degrees[rest+1]
		o, degree := api.Op{Kind: 4 + int(x[0]>>16%2)}, max(a, b)
		if x[0]>>24%2 == 0 && a+b <= 4 {
			o, degree = api.Op{Kind: api.OpMul}, a+b
		}
		l = append(l, o)
		degrees = append(degrees[:rest], degree)
	}
	return l
}

// greats is a pair of great numbers: A + B u.
type greats [2]*big.Int

// great is a number without any bound.
func great(n uint64) *big.Int { return new(big.Int).SetUint64(n) }

// small is what a great number leaves modulo P, from 0 on.
func small(n *big.Int) uint64 { return new(big.Int).Mod(n, great(api.P)).Uint64() }

// mul is the product: u squared is 7.
func (x greats) mul(y greats) greats {
	of := func(a, b *big.Int) *big.Int { return new(big.Int).Mul(a, b) }
	a := new(big.Int).Add(of(x[0], y[0]), of(of(x[1], y[1]), great(7)))
	return greats{a, new(big.Int).Add(of(x[0], y[1]), of(x[1], y[0]))}
}

// tree is what the last operation leaves, by other means: as of a tree, from right to left, of great numbers that nothing is taken off; and what is ahead of all that it takes.
func tree(l []api.Op, cur, next []api.Pair) (greats, []api.Op) {
	o, rest := l[len(l)-1], l[:len(l)-1]
	if o.Kind == api.OpConst {
		return greats{great(o.N), great(0)}, rest
	}
	if o.Kind < api.OpConst {
		x := [][]api.Pair{cur, next}[o.Kind-1][o.N]
		return greats{great(x.A), great(x.B)}, rest
	}
	right, rest := tree(rest, cur, next)
	left, rest := tree(rest, cur, next)
	if o.Kind == api.OpMul {
		return left.mul(right), rest
	}
	by := (*big.Int).Add
	if o.Kind == api.OpSub {
		by = (*big.Int).Sub
	}
	return greats{by(new(big.Int), left[0], right[0]), by(new(big.Int), left[1], right[1])}, rest
}

// answer is what operations leave, by other means.
func answer(l []api.Op, cur, next []api.Pair) api.Pair {
	x, _ := tree(l, cur, next)
	return api.Pair{A: small(x[0]), B: small(x[1])}
}

// leaves holds what At leaves, as it is kept; and, by P17.2, that Pairs leaves the same of the lifted rows, and lifts it.
func leaves(t *testing.T, l []api.Op, cur, next []uint64, want uint64) {
	t.Helper()
	if got := eval.At(l, cur, next); got != want || got >= api.P {
		t.Errorf("At of %.400s, %d, %d: %d, not %d", text(l), cur, next, got, want)
	}
	leavesPair(t, l, lifted(cur), lifted(next), api.Pair{A: want})
}

// leavesPair holds what Pairs leaves, as it is kept.
func leavesPair(t *testing.T, l []api.Op, cur, next []api.Pair, want api.Pair) {
	t.Helper()
	if got := eval.Pairs(l, cur, next); got != want || got.A >= api.P || got.B >= api.P {
		t.Errorf("Pairs of %.400s, %d, %d: %d, not %d", text(l), cur, next, got, want)
	}
}

// alike holds that both leave what they do by the other means.
func alike(t *testing.T, l []api.Op, cur, next []uint64) {
	t.Helper()
	leaves(t, l, cur, next, answer(l, lifted(cur), lifted(next)).A)
}

// alikePairs holds that Pairs does.
func alikePairs(t *testing.T, l []api.Op, cur, next []api.Pair) {
	t.Helper()
	leavesPair(t, l, cur, next, answer(l, cur, next))
}

// allowed stops a test that asks of operations that may not be.
func allowed(t *testing.T, l []api.Op, cols int) {
	t.Helper()
	if _, no := shape.Check(l, cols, true); no != api.OK {
		t.Fatalf("%.400s may not be: %d", text(l), no)
	}
}

// P17.1, P17.2, the chapter's example: 3 times 5 less 1.
func TestExample(t *testing.T) {
	leaves(t, ops("k3 k5 * k1 -"), nil, nil, 14)
	leaves(t, ops("c0 c1 * c2 -"), []uint64{3, 5, 1}, []uint64{0, 0, 0}, 14)
	leaves(t, ops("n0 n1 * n2 -"), []uint64{0, 0, 0}, []uint64{3, 5, 1}, 14)
	leaves(t, ops("c0 k5 * n1 -"), []uint64{3, 9}, []uint64{8, 1}, 14)
	leaves(t, ops("c0 k5 * n1 -"), []uint64{api.P + 3, 9}, []uint64{8, api.P + 1}, 14)
	leavesPair(t, ops("c0 k5 * n1 -"), []api.Pair{{A: 3, B: 1}, {}}, []api.Pair{{}, {A: 1}}, api.Pair{A: 14, B: 5})
}

// P17.1: ordinary rules and rows, and numbers at the ends among them, as another program worked them out.
func TestWritten(t *testing.T) {
	for _, x := range []struct {
		text      string
		cur, next []uint64
		want      uint64
	}{
		{"c0", []uint64{18446744073709551614, 2}, []uint64{8281615586707304740, 6661063240275632290}, 4294967293},
		{"n1 c2 -", []uint64{9933229809763730237, 7716810114148757367, 322617150181679081}, []uint64{18446744069414584319, 0, 1192830766048158578}, 18124126919232905240},
		{"k14510945782219773586 n0 c1 + *", []uint64{281474976710656, 4292960479293693897}, []uint64{4874448904559261468, 18446744073709551615}, 12264719790399353213},
		{"c1 n2 + c1 - n2 -", []uint64{9658616313697543471, 17382428602797137319, 4294967296, 281474976710656}, []uint64{1197503698790539844, 59478800098179414, 18446744069414584320, 4294967296}, 0},
		{"c0 c0 - n0 - n0 * c0 +", []uint64{1}, []uint64{11351768841211312673}, 8222730553068076617},
		{"c0 c0 + c0 + k5 k2 c0 * + c0 n1 + c0 - n1 c1 * - - +", []uint64{9808130489371970309, 15857877367386163410}, []uint64{18446744073709551614, 3681457031189419192}, 7695569006560620985},
		{"n0 k0 c1 n1 k5 c0 + * c0 * - k1 + * -", []uint64{10150134592690323862, 18446744069414584320, 9135362821186266416}, []uint64{2, 0, 18248973525707771614}, 2},
		{"k5 c0 c1 * * c2 * c3 * n2 n3 - + k1 *", []uint64{18446744069414584320, 15875557271514368521, 15079592857798971058, 1}, []uint64{18064558399668980639, 18446744073709551615, 17675026178782471668, 12995875971092156633}, 5341772186933930132},
		{"c2", []uint64{1, 7564506290458031192, 1409874095575190341}, []uint64{4514288698156171679, 17481585868236770907, 4376115297429321226}, 1409874095575190341},
		{"n0 c0 n0 n0 c0 c0 + * * - * n0 - c0 - n0 k18446744069414584320 - c0 + +", []uint64{4294967295}, []uint64{18446744069414584322}, 18446744065119617027},
		{"c1 k2 n1 c1 n1 + * * -", []uint64{6481646621125624538, 3107034612925842421}, []uint64{18294567790669407324, 18446744073709551615}, 17350028135704142541},
		{"c0 c2 + c0 + c2 c1 c2 - * c3 + +", []uint64{1062382088835102265, 10121703490499195423, 18446744069414584322, 5929848566186268609}, []uint64{0, 18446744069414584322, 13350582112601311433, 281474976710656}, 18176316234355668562},
		{"c0 c0 n0 n0 + * -", []uint64{18446744073709551614}, []uint64{8808796664747772817}, 6853617124999235884},
		{"n0 k5 c0 + * n0 + c0 c0 + -", []uint64{11975512059736129075}, []uint64{17058961439711130684}, 8786905045621574788},
		{"c3", []uint64{18446744073709551614, 5461983261904179624, 9223372036854775808, 18446744069414584321}, []uint64{0, 9358974975730576311, 4294967296, 9223372036854775808}, 0},
		{"c1 n1 + n0 n0 * - k18446744069414584320 c0 n0 - + -", []uint64{9223372036854775808, 13617022000478700220}, []uint64{13502932255596664516, 18446744073709551615}, 1420337252751933006},
		{"c0", []uint64{4118765595480536038}, []uint64{17440199786484013554}, 4118765595480536038},
		{"c3 c1 n1 - n3 + + n2 *", []uint64{14407957879127832405, 9968503963762914634, 11150784659509448438, 2}, []uint64{989456643379558604, 15411738399814218842, 18446744069414584321, 18446744069414584319}, 0},
		{"c0 n2 - c2 * k5 c1 - c0 c2 * * + c2 +", []uint64{9752352306903296765, 14526147143031676188, 18446744069414584320}, []uint64{17875072735458657181, 18446744073709551614, 9453019948261474019}, 12024833113032644120},
		{"k5 c1 n2 * n1 + - c0 c2 * *", []uint64{12116138271786576075, 6872350542012254807, 18446744073709551614}, []uint64{16789442420356543225, 9233799899555712256, 15139061571821053741}, 12655609855695858277},
		{"n0 c2 -", []uint64{18446744069414584321, 4294967295, 4294967295}, []uint64{13339364443042646180, 281474976710656, 18446744069414584321}, 13339364438747678885},
		{"n0 c1 n2 + k1 k5 - c2 c2 - - - +", []uint64{10264707328166033365, 8699350833754201224, 18446744069414584321, 1670998642528155558}, []uint64{281474976710656, 16872973352472706353, 18446744073709551614, 5195636051778978588}, 8699632313025879177},
		{"k8205212909815294999 n0 +", []uint64{18186222180722150844}, []uint64{4128588374860127269}, 12333801284675422268},
		{"c1 c1 c1 * +", []uint64{1, 14366884203372866512}, []uint64{12154641427726551244, 475228010674423314}, 1791312293777107602},
		{"c0 n0 +", []uint64{8444172979093081689, 1458609577857831822, 18446744073709551614}, []uint64{563274624277308241, 281474976710656, 18446744069414584322}, 9007447603370389930},
		{"n0 n0 c0 c0 c0 + n0 c0 - - * - +", []uint64{4314788969774717733}, []uint64{0}, 36555867571380394},
		{"c1 k5 c0 k2 n0 c0 c0 k0 c1 - + n0 - * n0 - + - + + +", []uint64{11046730404494491454, 1193466995431688106}, []uint64{4294967295, 13070900366114197843}, 17298420376548328656},
		{"n1", []uint64{915018937635101454, 281474976710656}, []uint64{12245584230394134263, 9223372036854775808}, 9223372036854775808},
	} {
		l := ops(x.text)
		allowed(t, l, len(x.cur))
		leaves(t, l, x.cur, x.next, x.want)
	}
}

// P17.1: likewise of pairs; each one's two numbers stand side by side.
func TestWrittenPairs(t *testing.T) {
	for _, x := range []struct {
		text      string
		cur, next []uint64
		want      api.Pair
	}{
		{"n1", []uint64{281474976710656, 16378262721224907856, 1, 9532862100028600838}, []uint64{7835032625488379746, 7258502221951799584, 1519361994858805515, 4294967295}, api.Pair{A: 1519361994858805515, B: 4294967295}},
		{"c1 n0 -", []uint64{18446744069414584322, 4786761261440771211, 10282345702863364533, 13215105322121219574}, []uint64{4294967296, 10327945810461254689, 4759392081702162196, 9223372036854775808}, api.Pair{A: 10282345698568397237, B: 2887159511659964885}},
		{"c2 c1 k2445768866850627408 - -", []uint64{18446744069414584322, 18446744073709551614, 0, 9223372036854775808, 2161334963965736964, 10727095262427791967}, []uint64{3737648998838343185, 18446744069414584320, 18446744069414584322, 9223372036854775808, 18446744069414584319, 8095168616380982495}, api.Pair{A: 4607103830816364372, B: 1503723225573016159}},
		{"n2 k1 c2 * + c2 *", []uint64{281474976710656, 9983693760012911294, 3933955581208954553, 2137609517605335404, 12694063743701162237, 6319421727300665689}, []uint64{13534451613364324666, 11962295790995065457, 4821722383097836625, 7571867184380401894, 310936783980482000, 12334466262843274871}, api.Pair{A: 10478769949700318802, B: 7539262533018511992}},
		{"k3805593893919119290 n1 c0 * n1 c0 * * +", []uint64{18446744069414584322, 12248576014148859516, 4361551578518632191, 4294967296}, []uint64{16569804503924227008, 18446744069414584321, 11148663272536455842, 2679204196626220671}, api.Pair{A: 60220724920332798, B: 7624273716269393318}},
		{"n1 k1778461094775444945 +", []uint64{13778316858999830431, 4984975129238509258, 8889623567400570964, 3148747251873360698}, []uint64{9401243729281993928, 14326552649107216557, 18446744069414584321, 17460977419982977642}, api.Pair{A: 1778461094775444945, B: 17460977419982977642}},
		{"c1 c2 * c1 k5 * - n2 *", []uint64{18446744073709551615, 16921307126919820796, 15347289676881204751, 11033528664700367766, 15409236522896778541, 14660109435708846074}, []uint64{6873517803450884251, 5344115172554046302, 440010999749836303, 18210160145950334278, 18446744069414584320, 1}, api.Pair{A: 7178369339348831520, B: 12830607327259293873}},
		{"c1", []uint64{13788581692555857379, 18145213158177548401, 5794450922937051246, 4294967295, 4294967295, 9785118734486547237}, []uint64{18446744073709551614, 3381487913047326757, 18446744069414584319, 151589735572803277, 9434979597403796726, 2}, api.Pair{A: 5794450922937051246, B: 4294967295}},
		{"k0 c0 - c0 k0 * n0 n0 + - -", []uint64{18446744069414584319, 13868281968540524912}, []uint64{18446744073709551615, 17958641922845360803}, api.Pair{A: 8589934590, B: 3602257807735612373}},
		{"k0 n0 + c1 * n1 c0 + c1 * c0 * +", []uint64{8826407292487519231, 17743005891574960264, 3285180703454331738, 18446744069414584320}, []uint64{4287187298738906305, 18446744069414584322, 4294967296, 4294967296}, api.Pair{A: 6979461106019330032, B: 15536876502389519276}},
		{"n1 c1 c1 n0 + * + n0 n1 + * n1 k0 - c1 + * c1 -", []uint64{15862174608505396714, 18446744069414584322, 12342622312386492452, 10793876219594401467}, []uint64{2, 12555018501475718676, 281474976710656, 11254547369753033763}, api.Pair{A: 2887612944369015315, B: 10881169445660996912}},
		{"c0 n0 n1 k5 k18446744069414584320 - + * * c0 - c0 -", []uint64{18446744073709551614, 4294967296, 4294967295, 1}, []uint64{9223372036854775808, 281474976710656, 1619778144315863772, 5425776857739524311}, api.Pair{A: 4027268923849408476, B: 4189888103319366880}},
		{"n0 c0 n0 + c1 n2 * + -", []uint64{2064526959420434276, 1, 2, 2537370136553591794, 7798983565558010518, 14183654488443173126}, []uint64{6946155451647906787, 3843540080117330621, 4294967296, 329767957753488457, 11040248119088416274, 18446744069414584322}, api.Pair{A: 13433618054771343581, B: 3725133159840445759}},
		{"n1", []uint64{2, 18446744069414584320, 18446744073709551614, 18446744069414584320}, []uint64{3166688778762604696, 14860247024387557711, 14891608990153778102, 13811548417029544022}, api.Pair{A: 14891608990153778102, B: 13811548417029544022}},
		{"c1 n1 c0 + n1 + + n0 c1 c1 - - c1 + *", []uint64{18446744073709551615, 5846101118193099062, 841219366970373040, 18446744069414584321}, []uint64{18446744069414584322, 6469721430713957592, 18446744069414584321, 9223372036854775808}, api.Pair{A: 1817706140619520572, B: 5341581215858060028}},
		{"c0 c1 + c0 k18446744069414584320 n0 c1 + - * -", []uint64{18446744069414584320, 10231913240858675267, 8132404835784144148, 2}, []uint64{18446744069414584322, 4294967295, 18446744069414584322, 0}, api.Pair{A: 9650591883495313823, B: 11410741713573748964}},
		{"n0 c0 n0 * c0 n0 k1 - + + *", []uint64{4294967296, 15984672600118431303}, []uint64{2434262204487439136, 1067849757957804229}, api.Pair{A: 6558352450143696946, B: 16819193330467481493}},
		{"k0 n0 *", []uint64{14212081331557716968, 3320152855095375296}, []uint64{18446744069414584319, 0}, api.Pair{A: 0, B: 0}},
		{"c2 n1 k8932573906673440612 * n1 c1 + - *", []uint64{9223372036854775808, 16192037379426154678, 1821107337271184627, 3425854385448610539, 2, 11602132247153399943}, []uint64{16834231177951806894, 281474976710656, 1, 6468358774777512021, 1, 18446744069414584319}, api.Pair{A: 4886153758677509963, B: 11181737095698241491}},
		{"k2 c0 - c0 + c0 c0 + - k5 c0 + + n0 k3340196294395328527 - n0 + *", []uint64{12890017813960455877, 10806485190677537416}, []uint64{16471251914435848743, 5724897308775492549}, api.Pair{A: 3560645102414481473, B: 11471512378123715407}},
		{"n0 c1 *", []uint64{18446744069414584322, 18446744073709551614, 17274959747165436249, 4124985590062651362, 489680566018976760, 4210898834393156855}, []uint64{0, 4985397799744404435, 281474976710656, 4294967295, 1230637401927357680, 4324128985219851595}, api.Pair{A: 5600420397944065078, B: 13288072060939031524}},
		{"c0 k18446744069414584320 k5 + c0 c0 + c0 c0 - - c0 c0 + c0 * * + *", []uint64{7469211769368164781, 4294967295}, []uint64{1029981849462141025, 18446744069414584322}, api.Pair{A: 5302843987003924605, B: 11902222922484483851}},
		{"c0 k18446744069414584320 k2 * *", []uint64{8228426794078750813, 9639837396123823610}, []uint64{4294967295, 10936153397964117003}, api.Pair{A: 1989890481257082695, B: 17613813346581521422}},
		{"c0 c0 * n1 + c0 - n0 -", []uint64{18446744073709551615, 15453164602333243784, 13748705682603336614, 9028304383252610264}, []uint64{18166357656927741946, 9223372036854775808, 12351318528236673176, 18446744073709551615}, api.Pair{A: 3132188962654923122, B: 12686447791913130416}},
	} {
		l := ops(x.text)
		allowed(t, l, len(x.cur)/2)
		leavesPair(t, l, twos(x.cur), twos(x.next), x.want)
	}
}

// P17.1: which of two is taken from which, and what comes first of three.
func TestOrder(t *testing.T) {
	cur, next := []uint64{10, 3, 2}, []uint64{7, 100, 5}
	for _, x := range []struct {
		text string
		want uint64
	}{
		{"c0 c1 -", 7}, {"c1 c0 -", api.P - 7}, {"n0 c0 -", api.P - 3}, {"c0 n0 -", 3}, {"k10 c1 -", 7}, {"c1 k10 -", api.P - 7}, {"n1 k1 -", 99}, {"k1 n1 -", api.P - 99},
		{"c0 c1 c2 - -", 9}, {"c0 c1 - c2 -", 5}, {"c0 c1 c2 + -", 5}, {"c0 c1 + c2 -", 11}, {"c0 c1 c2 * -", 4}, {"c0 c1 - c2 *", 14}, {"c0 c1 c2 - *", 10}, {"c0 c1 * c2 -", 28},
		{"c2 c1 c0 - -", 9}, {"c2 c1 - c0 -", api.P - 11}, {"n1 n0 n2 - *", 200}, {"n1 n0 - n2 *", 465}, {"n1 n0 n2 * -", 65}, {"n1 n0 * n2 -", 695},
		{"c0 c1 - n1 n0 - -", api.P - 86}, {"n1 n0 - c0 c1 - -", 86}, {"n1 n0 - c0 c1 - *", 651}, {"c0 c1 * c2 n0 * -", 16}, {"c0 c0 -", 0}, {"c0 c0 - c1 -", api.P - 3},
	} {
		leaves(t, ops(x.text), cur, next, x.want)
	}
	u, v := api.Pair{B: 1}, api.Pair{A: 2, B: 5}
	for _, x := range []struct {
		text string
		want api.Pair
	}{
		{"c0 c0 *", api.Pair{A: 7}}, {"c0 c1 -", api.Pair{A: api.P - 2, B: api.P - 4}}, {"c1 c0 -", api.Pair{A: 2, B: 4}}, {"c0 c1 +", api.Pair{A: 2, B: 6}}, {"c0 c1 *", api.Pair{A: 35, B: 2}}, {"c1 c0 *", api.Pair{A: 35, B: 2}},
		{"n0 k3 -", api.Pair{A: api.P - 1, B: 5}}, {"k3 n0 -", api.Pair{A: 1, B: api.P - 5}}, {"n0 k3 *", api.Pair{A: 6, B: 15}}, {"k3 n0 +", api.Pair{A: 5, B: 5}}, {"n0 n0 *", api.Pair{A: 179, B: 20}}, {"c0 c0 * c0 *", api.Pair{B: 7}},
		{"k3", api.Pair{A: 3}}, {"k3 k5 *", api.Pair{A: 15}}, {"n1 k7 *", api.Pair{B: 7}}, {"n1 n1 * c0 c0 * -", api.Pair{}},
	} {
		leavesPair(t, ops(x.text), []api.Pair{u, v}, []api.Pair{v, u}, x.want)
	}
}

// P17.1: one operation alone leaves a column, or a constant, as it is kept; of a row of one column, and of rows that are longer than what is asked for.
func TestOne(t *testing.T) {
	for _, n := range edges() {
		kept := n % api.P
		leaves(t, ops("c0"), []uint64{n}, []uint64{5}, kept)
		leaves(t, ops("n0"), []uint64{5}, []uint64{n}, kept)
		leaves(t, ops("c0"), []uint64{n, 1, 2, 3}, []uint64{5, 6, 7, 8}, kept)
		leaves(t, ops("n2"), []uint64{5, 6, 7, 8}, []uint64{1, 2, n, 3}, kept)
		for _, m := range edges() {
			x, want := api.Pair{A: n, B: m}, api.Pair{A: kept, B: m % api.P}
			leavesPair(t, ops("c0"), []api.Pair{x}, []api.Pair{{A: 5, B: 6}}, want)
			leavesPair(t, ops("n0"), []api.Pair{{A: 5, B: 6}}, []api.Pair{x}, want)
			leavesPair(t, ops("n1"), []api.Pair{{A: 5, B: 6}, {}, {}}, []api.Pair{{A: 1}, x, {B: 2}}, want)
		}
		if n < api.P {
			l := []api.Op{{Kind: api.OpConst, N: n}}
			leaves(t, l, nil, nil, n)
			leaves(t, l, []uint64{7}, []uint64{8}, n)
			leavesPair(t, l, []api.Pair{{A: 7, B: 9}}, []api.Pair{{A: 8, B: 1}}, api.Pair{A: n})
		}
	}
}

// P17.1: each column of each row, up to the greatest that a row has, and that an operation can ask for.
func TestColumns(t *testing.T) {
	for _, cols := range []int{1, 2, 3, 7, api.MaxCols, 9, 255, 256, 257, 1000} {
		cur, next := ordinary(cols, 1), ordinary(cols, 2)
		curs, nexts := twos(ordinary(2*cols, 3)), twos(ordinary(2*cols, 4))
		for n := range min(cols, 256) {
			one, other := []api.Op{{Kind: api.OpCur, N: uint64(n)}}, []api.Op{{Kind: api.OpNext, N: uint64(n)}}
			leaves(t, one, cur, next, cur[n]%api.P)
			leaves(t, other, cur, next, next[n]%api.P)
			leavesPair(t, one, curs, nexts, api.Pair{A: curs[n].A % api.P, B: curs[n].B % api.P})
			leavesPair(t, other, curs, nexts, api.Pair{A: nexts[n].A % api.P, B: nexts[n].B % api.P})
			both := slices.Concat(one, other, ops("-"))
			alike(t, both, cur, next)
			alikePairs(t, both, curs, nexts)
			// No more columns than are asked for need be there.
			alike(t, both, cur[:n+1], next)
			alike(t, both, cur, next[:n+1])
		}
	}
}

// P17.1: the next row is read where it is asked for, and the row itself likewise; else it doesn't matter what it is.
func TestRows(t *testing.T) {
	for seed := range uint64(200) {
		l := rule(1+int(seed%9), seed)
		cur, next := mixed(3, seed), mixed(3, seed+1000)
		own, others := slices.Clone(l), slices.Clone(l)
		for i, o := range l {
			if o.Kind == api.OpCur || o.Kind == api.OpNext {
				own[i].Kind, others[i].Kind = api.OpCur, api.OpNext
			}
		}
		want := eval.At(own, cur, next)
		leaves(t, others, next, cur, want)
		for _, other := range [][]uint64{nil, {}, {1, 2, 3}, {top}, next, cur} {
			leaves(t, own, cur, other, want)
			leaves(t, others, other, cur, want)
		}
		alike(t, l, cur, next)
		alike(t, l, next, cur)
	}
	leaves(t, ops("c0 n0 -"), []uint64{5}, []uint64{7}, api.P-2)
	leaves(t, ops("c0 n0 -"), []uint64{7}, []uint64{5}, 2)
	leaves(t, ops("c0 c0 -"), []uint64{7}, []uint64{5}, 0)
	leaves(t, ops("n0 n0 +"), []uint64{7}, []uint64{5}, 10)
}

// P17.1, P17.2: sums, differences and products of all ends, both ways round, at 0 and across it, near P and above it.
func TestEdges(t *testing.T) {
	for _, a := range edges() {
		for _, b := range edges() {
			for _, two := range []string{"+", "-", "*"} {
				alike(t, ops("c0 c1 "+two), []uint64{a, b}, []uint64{1, 2})
				alike(t, ops("n0 c1 "+two), []uint64{3, b}, []uint64{a, 2})
				alike(t, ops("c0 n1 "+two), []uint64{a, 3}, []uint64{2, b})
				if a < api.P {
					k := []api.Op{{Kind: api.OpConst, N: a}}
					alike(t, slices.Concat(k, ops("c0 "+two)), []uint64{b}, []uint64{4})
					alike(t, slices.Concat(ops("n0"), k, ops(two)), []uint64{4}, []uint64{b})
				}
			}
		}
	}
	for _, x := range []struct {
		a, b, sum, less, product uint64
	}{
		{0, 0, 0, 0, 0}, {0, 1, 1, api.P - 1, 0}, {1, 0, 1, 1, 0}, {1, 1, 2, 0, 1}, {5, 7, 12, api.P - 2, 35}, {7, 5, 12, 2, 35}, {0, api.P - 1, api.P - 1, 1, 0}, {api.P - 1, 0, api.P - 1, api.P - 1, 0},
		{api.P - 1, 1, 0, api.P - 2, api.P - 1}, {1, api.P - 1, 0, 2, api.P - 1}, {api.P - 1, api.P - 1, api.P - 2, 0, 1}, {api.P - 1, api.P - 2, api.P - 3, 1, 2}, {api.P - 2, api.P - 1, api.P - 3, api.P - 1, 2},
		{api.P, api.P, 0, 0, 0}, {api.P, 1, 1, api.P - 1, 0}, {1, api.P, 1, 1, 0}, {api.P + 1, api.P + 2, 3, api.P - 1, 2}, {api.P + 2, 1, 3, 1, 2},
		{top, top, 1<<33 - 4, 0, api.P - 3<<32 + 3}, {top, 0, 1<<32 - 2, 1<<32 - 2, 0}, {0, top, 1<<32 - 2, api.P - 1<<32 + 2, 0}, {top, api.P - 1, 1<<32 - 3, 1<<32 - 1, api.P - 1<<32 + 2},
		{1 << 32, 1 << 32, 1 << 33, 0, 1<<32 - 1}, {1 << 48, 1 << 48, 1 << 49, 0, api.P - 1}, {1 << 63, 2, 1<<63 + 2, 1<<63 - 2, 1<<32 - 1}, {1 << 63, 1 << 63, 1<<32 - 1, 0, api.P - 1<<30},
	} {
		row := []uint64{x.a, x.b}
		leaves(t, ops("c0 c1 +"), row, nil, x.sum)
		leaves(t, ops("c0 c1 -"), row, nil, x.less)
		leaves(t, ops("c0 c1 *"), row, nil, x.product)
	}
}

// P17.1, P17.2: pairs of all ends, by what adds, takes and multiplies, and by constants.
func TestEdgesPairs(t *testing.T) {
	var all []api.Pair
	few := []uint64{0, 1, 7, 1<<32 - 1, 1 << 48, api.P - 2, api.P - 1, api.P, api.P + 1, top}
	for _, a := range few {
		for _, b := range few {
			all = append(all, api.Pair{A: a, B: b})
		}
	}
	for _, x := range all {
		for _, y := range all {
			for _, two := range []string{"+", "-", "*"} {
				alikePairs(t, ops("c0 n0 "+two), []api.Pair{x}, []api.Pair{y})
			}
		}
		for _, n := range few {
			if n >= api.P {
				continue
			}
			for _, two := range []string{"+", "-", "*"} {
				k := []api.Op{{Kind: api.OpConst, N: n}}
				alikePairs(t, slices.Concat(k, ops("c0 "+two)), []api.Pair{x}, nil)
				alikePairs(t, slices.Concat(ops("n0"), k, ops(two)), nil, []api.Pair{x})
			}
		}
	}
}

// P17.1: the greatest constant, alone and with others.
func TestConstants(t *testing.T) {
	const last = "k18446744069414584320"
	for _, x := range []struct {
		text string
		want uint64
	}{
		{last, api.P - 1}, {"k0", 0}, {"k1", 1}, {"k4294967295", 1<<32 - 1}, {"k255", 255}, {"k256", 256},
		{last + " k1 +", 0}, {last + " k2 +", 1}, {last + " " + last + " +", api.P - 2}, {last + " " + last + " *", 1}, {last + " " + last + " -", 0}, {"k0 " + last + " -", 1}, {last + " k0 -", api.P - 1},
		{last + " k5 *", api.P - 5}, {"k1 k2 k3 k4 k5 - - - -", 3}, {"k1 k2 - k3 - k4 - k5 -", api.P - 13}, {"k2 k3 k5 k7 * * *", 210}, {"k2 k3 + k5 k7 + *", 60},
		{last + " c0 *", api.P - 9}, {"c0 " + last + " +", 8}, {"c0 " + last + " -", 10}, {last + " c0 -", api.P - 10},
	} {
		leaves(t, ops(x.text), []uint64{9}, []uint64{4}, x.want)
	}
}

// P17.1: a stack of 16, of which each value is another one: they are taken from the top, and each is as it was put.
func TestDepth(t *testing.T) {
	cur := ordinary(16, 5)
	next := mixed(16, 6)
	for n := 1; n <= 16; n++ {
		for _, kind := range []int{api.OpCur, api.OpNext} {
			var put []api.Op
			for i := range n {
				put = append(put, api.Op{Kind: kind, N: uint64(i)})
			}
			for _, two := range []string{"+", "-"} {
				l := append(slices.Clone(put), times(n-1, two)...)
				allowed(t, l, 16)
				alike(t, l, cur, next)
				alikePairs(t, l, twos(ordinary(32, 7)), twos(mixed(32, 8)))
			}
		}
	}
	var counted, powers []api.Op
	for i := range uint64(16) {
		counted = append(counted, api.Op{Kind: api.OpConst, N: 1 << i})
		powers = append(powers, api.Op{Kind: api.OpConst, N: 2})
	}
	leaves(t, append(slices.Clone(counted), times(15, "+")...), nil, nil, 1<<16-1)
	// 1 - (2 - (4 - ...)): each second one counts less.
	leaves(t, append(slices.Clone(counted), times(15, "-")...), nil, nil, api.P-21845)
	leaves(t, append(slices.Clone(powers), times(15, "*")...), nil, nil, 1<<16)
	// From 16 down and up again: what is below stays as it is.
	l := slices.Concat(counted, times(100, "- k7"), times(15, "+"))
	allowed(t, l, 1)
	alike(t, l, nil, nil)
	l = slices.Concat(counted, times(4, "+ * -"), ops("k3 k4 k5 k6"), times(7, "-"))
	allowed(t, l, 1)
	alike(t, l, nil, nil)
}

// P17.1: rules of up to 255 operations: these are the most that there may be, as 256 never leave one value.
func TestMany(t *testing.T) {
	cur, next := []uint64{11, api.P + 5}, []uint64{top, 3}
	for _, x := range []struct{ first, more string }{
		{"c0", "k2 *"}, {"c0", "k1 +"}, {"k0", "c1 -"}, {"n0", "n1 +"}, {"k3", "k18446744069414584320 *"}, {"c0 n1 *", "c0 n0 * -"},
	} {
		for l := ops(x.first); len(l) <= 256; l = append(l, ops(x.more)...) {
			allowed(t, l, 2)
			alike(t, l, cur, next)
			alikePairs(t, l, twos(append(cur, next...)), twos(append(next, cur...)))
		}
	}
	leaves(t, append(ops("c0"), times(127, "k1 +")...), cur, next, 138)
	leaves(t, append(ops("c0"), times(127, "k1 -")...), cur, next, api.P-116)
	// 2^96 is -1.
	leaves(t, append(ops("c0"), times(127, "k2 *")...), cur, next, api.P-11<<31)
	leaves(t, append(ops("n1"), times(127, "n1 +")...), cur, next, 384)
	leaves(t, append(ops("k1"), times(63, "k3 * k1 -")...), cur, next, 2498317486882488887)
	for seed := range uint64(60) {
		l := rule(128, seed)
		allowed(t, l, 3)
		alike(t, l, mixed(3, seed), mixed(3, seed+70))
		alikePairs(t, l, twos(mixed(6, seed)), twos(mixed(6, seed+70)))
	}
}

// P1, P17.1, P17.2: all operations that may be, up to seven of a few.
func TestAll(t *testing.T) {
	letters := ops("c0 n0 k5 + - * c1")
	cur, next := []uint64{top, 1 << 40}, []uint64{api.P - 3, 1}
	curs, nexts := twos(ordinary(4, 11)), twos(ordinary(4, 12))
	count := 0
	var more func(l []api.Op)
	more = func(l []api.Op) {
		if _, no := shape.Check(l, 2, true); no == api.OK {
			count++
			alike(t, l, cur, next)
			alikePairs(t, l, curs, nexts)
		}
		for i := 0; i < len(letters) && len(l) < 7; i++ {
			more(append(l, letters[i]))
		}
	}
	more(nil)
	// Of 1, 3, 5 and 7 operations there are 1, 1, 2 and 5 shapes, with one of four at each leaf and one of three at each fork.
	if want := 4 + 16*3 + 2*64*9 + 5*256*27; count != want {
		t.Errorf("%d operations may be, not %d", count, want)
	}
}

// P17.1, P17.2: ordinary rules of all lengths, of ordinary rows and of such with numbers that aren't as they are kept.
func TestAny(t *testing.T) {
	for seed := range uint64(3000) {
		l := rule(1+int(seed%24), seed)
		allowed(t, l, 3)
		cols := 3 + int(seed%6)
		alike(t, l, ordinary(cols, seed), ordinary(cols, seed+1<<20))
		alike(t, l, mixed(cols, seed), mixed(cols, seed+1<<20))
		alikePairs(t, l, twos(ordinary(2*cols, seed)), twos(ordinary(2*cols, seed+1<<20)))
		alikePairs(t, l, twos(mixed(2*cols, seed)), twos(mixed(2*cols, seed+1<<20)))
	}
}

// P17.2: of rows that layer 2 lifted, Pairs leaves what At leaves, lifted.
func TestLifted(t *testing.T) {
	lift := func(row []uint64) []api.Pair {
		var out []api.Pair
		for _, n := range row {
			out = append(out, pair.Lift(n))
		}
		return out
	}
	for seed := range uint64(2000) {
		l := rule(1+int(seed%30), seed+5000)
		cur, next := mixed(3, seed), mixed(4, seed+9000)
		if got, want := eval.Pairs(l, lift(cur), lift(next)), pair.Lift(eval.At(l, cur, next)); got != want {
			t.Errorf("%.400s, %d, %d: %d, not %d", text(l), cur, next, got, want)
		}
	}
}

// Rules 3 and 4: what is handed in is as it was, its spare room too, and an answer hangs on its arguments alone.
func TestKept(t *testing.T) {
	all := ops("c0 n1 * k5 - c2 * n0 k3 + - k1 k2 +")
	numbers := append(edges(), ordinary(10, 3)...)
	pairs := twos(numbers)
	allBefore, numbersBefore, pairsBefore := slices.Clone(all), slices.Clone(numbers), slices.Clone(pairs)
	for range 2 {
		for i := range len(pairs) - 5 {
			for _, n := range []int{1, 3, 5, 7, 11} {
				alike(t, all[:n], numbers[i:i+3], numbers[i+2:i+5])
				alikePairs(t, all[:n], pairs[i:i+3], pairs[i+2:i+5])
				// Both rows may be one.
				alike(t, all[:n], numbers[i:i+3], numbers[i:i+3])
				alikePairs(t, all[:n], pairs[i:i+3], pairs[i:i+3])
			}
		}
		if !slices.Equal(all, allBefore) || !slices.Equal(numbers, numbersBefore) || !slices.Equal(pairs, pairsBefore) {
			t.Fatal("what was handed in has changed")
		}
	}
	l, row := ops("c0 n0 -"), []uint64{9}
	leaves(t, l, row, []uint64{4}, 5)
	l[2].Kind = api.OpMul
	leaves(t, l, row, []uint64{4}, 36)
	row[0] = 7
	leaves(t, l, row, []uint64{4}, 28)
	leaves(t, l, row, []uint64{5}, 35)
}

// Rule 6: many may call at once, of the same operations and rows too.
func TestAtOnce(t *testing.T) {
	var wait sync.WaitGroup
	shared, cur, next := rule(100, 9), mixed(6, 1), mixed(6, 2)
	for k := range uint64(8) {
		wait.Go(func() {
			for i := range uint64(40) {
				alike(t, shared, cur, next)
				alikePairs(t, shared, twos(cur), twos(next))
				l := rule(int(1+i), k*100+i)
				alike(t, l, mixed(3, i), mixed(3, k))
				alikePairs(t, l, twos(mixed(6, k)), twos(mixed(6, i)))
			}
		})
	}
	wait.Wait()
}

// P1: a call ends and doesn't panic, and its answer is as it is kept, of operations that may not be and of rows that are too short as well.
func TestWhatever(t *testing.T) {
	var odd []api.Op
	for _, kind := range []int{math.MinInt, -256, -1, 0, 1, 2, 3, 4, 5, 6, 7, 255, 257, 1 << 32, math.MaxInt} {
		for _, n := range []uint64{0, 1, 2, 3, 255, 256, api.P - 1, api.P, 1<<63 - 1, 1 << 63, top} {
			odd = append(odd, api.Op{Kind: kind, N: n})
		}
	}
	ends := func(l []api.Op, cols int) {
		t.Helper()
		row := mixed(cols, 5)
		x := eval.Pairs(l, lifted(row), twos(ordinary(2*cols, 6)))
		if a := eval.At(l, row, ordinary(cols, 7)); a >= api.P || x.A >= api.P || x.B >= api.P {
			t.Errorf("%d operations, %d columns: %d and %d", len(l), cols, a, x)
		}
	}
	for cols := range 3 {
		ends(nil, cols)
		ends([]api.Op{}, cols)
		ends(odd, cols)
		for i, o := range odd {
			ends([]api.Op{o}, cols)
			for _, p := range odd[i%7:][:60] {
				ends([]api.Op{o, p}, cols)
				ends([]api.Op{p, o, {Kind: api.OpSub}}, cols)
				ends([]api.Op{p, o, o, p, {Kind: api.OpMul}}, cols)
			}
		}
		for _, s := range []string{"+", "-", "*", "k1", "c0", "n0", "c1", "n9", "c0 *", "c0 c1 -", "- n0"} {
			for _, n := range []int{2, 15, 16, 17, 255, 256, 257, 1 << 16} {
				ends(times(n, s), cols)
			}
		}
	}
}
