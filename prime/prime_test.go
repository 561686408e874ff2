package prime_test

import (
	"math/big"
	"slices"
	"sync"
	"testing"

	"assayer/api"
	"assayer/prime"
)

const top = 1<<64 - 1

// edges are the numbers where words or the field begin and end, as kept or not.
func edges() []uint64 {
	return []uint64{
		0, 1, 2, 3, 7,
		1<<31 - 1, 1 << 31, 1<<32 - 2, 1<<32 - 1, 1 << 32, 1<<32 + 1, 1 << 33, 1 << 48,
		1<<63 - 1, 1 << 63, 1<<63 + 1,
		api.P / 2, api.P/2 + 1, top - 1<<32, 1<<64 - 1<<32,
		api.P - 2, api.P - 1, api.P, api.P + 1, api.P + 2, api.P + 7,
		top - 1, top,
	}
}

// some are the edges and ordinary numbers, spread over all 64 bits by a fixed rule.
func some(n int) []uint64 {
	l := edges()
	for x := uint64(0x9e3779b97f4a7c15); n > 0; n-- {
		x ^= x << 13
		x ^= x >> 7
		x ^= x << 17
		l = append(l, x, x>>32, x>>(n%64))
	}
	return l
}

func wide(a uint64) *big.Int { return new(big.Int).SetUint64(a) }

// left is what x leaves modulo P, worked out by another means than the package's.
func left(x *big.Int) uint64 { return new(big.Int).Mod(x, wide(api.P)).Uint64() }

func same(t *testing.T, what string, got, want uint64, of ...uint64) {
	t.Helper()
	if got != want {
		t.Errorf("%s of %d: %d, not %d", what, of, got, want)
	}
	if !prime.Right(got) {
		t.Errorf("%s of %d: %d isn't as it is kept", what, of, got)
	}
}

// P1.1: just the numbers below P are as they are kept.
func TestRight(t *testing.T) {
	for _, a := range []uint64{0, 1, 1<<32 - 1, 1 << 32, 1 << 63, api.P - 2, api.P - 1} {
		if !prime.Right(a) {
			t.Errorf("%d is as it is kept", a)
		}
	}
	for _, a := range []uint64{api.P, api.P + 1, api.P + 2, top - 1, top} {
		if prime.Right(a) {
			t.Errorf("%d isn't as it is kept", a)
		}
	}
}

// P1.1: sums, differences, products and opposites, of numbers that are as they are kept or not, in each argument.
func TestTwo(t *testing.T) {
	l := some(100)
	for _, a := range l {
		same(t, "Neg", prime.Neg(a), left(new(big.Int).Neg(wide(a))), a)
		for _, b := range l {
			same(t, "Add", prime.Add(a, b), left(new(big.Int).Add(wide(a), wide(b))), a, b)
			same(t, "Sub", prime.Sub(a, b), left(new(big.Int).Sub(wide(a), wide(b))), a, b)
			same(t, "Mul", prime.Mul(a, b), left(new(big.Int).Mul(wide(a), wide(b))), a, b)
		}
	}
}

// P1.1: sums and products of small numbers and of the edges, written out.
func TestWritten(t *testing.T) {
	same(t, "Add", prime.Add(3, 4), 7, 3, 4)
	same(t, "Add", prime.Add(api.P-1, 1), 0, api.P-1, 1)
	same(t, "Add", prime.Add(api.P-1, api.P-1), api.P-2, api.P-1, api.P-1)
	same(t, "Add", prime.Add(api.P, 0), 0, api.P, 0)
	same(t, "Add", prime.Add(0, api.P+1), 1, 0, api.P+1)
	same(t, "Add", prime.Add(top, top), 1<<33-4, top, top)
	same(t, "Sub", prime.Sub(0, 1), api.P-1, 0, 1)
	same(t, "Sub", prime.Sub(5, 5), 0, 5, 5)
	same(t, "Sub", prime.Sub(0, api.P), 0, 0, api.P)
	same(t, "Sub", prime.Sub(api.P, api.P+1), api.P-1, api.P, api.P+1)
	same(t, "Neg", prime.Neg(0), 0, 0)
	same(t, "Neg", prime.Neg(api.P), 0, api.P)
	same(t, "Neg", prime.Neg(1), api.P-1, 1)
	same(t, "Neg", prime.Neg(top), api.P-(1<<32-2), top)
	same(t, "Mul", prime.Mul(3, 4), 12, 3, 4)
	same(t, "Mul", prime.Mul(api.P, top), 0, api.P, top)
	same(t, "Mul", prime.Mul(api.P+1, 9), 9, api.P+1, 9)
	same(t, "Mul", prime.Mul(api.P-1, api.P-1), 1, api.P-1, api.P-1)
}

// P1.1, the chapter's examples.
func TestExamples(t *testing.T) {
	same(t, "Mul", prime.Mul(1<<32, 1<<32), 1<<32-1, 1<<32, 1<<32)
	same(t, "Mul", prime.Mul(1<<48, 1<<48), api.P-1, 1<<48, 1<<48)
	same(t, "Pow", prime.Pow(1<<32, 2), 1<<32-1, 1<<32, 2)
	same(t, "Pow", prime.Pow(1<<48, 2), api.P-1, 1<<48, 2)
}

// P1.1: powers, also to the 0, of 0, and to what is P or more: that isn't taken modulo P.
func TestPow(t *testing.T) {
	for _, a := range some(20) {
		for _, n := range some(20) {
			same(t, "Pow", prime.Pow(a, n), left(new(big.Int).Exp(wide(a), wide(n), wide(api.P))), a, n)
		}
		same(t, "Pow", prime.Pow(a, 0), 1, a, 0)
		same(t, "Pow", prime.Pow(a, 1), prime.Add(a, 0), a, 1)
		same(t, "Pow", prime.Pow(a, api.P), prime.Add(a, 0), a, api.P)
	}
	same(t, "Pow", prime.Pow(2, 10), 1024, 2, 10)
	same(t, "Pow", prime.Pow(2, 96), api.P-1, 2, 96)
	same(t, "Pow", prime.Pow(2, 192), 1, 2, 192)
	same(t, "Pow", prime.Pow(0, 0), 1, 0, 0)
	same(t, "Pow", prime.Pow(api.P, 0), 1, api.P, 0)
	same(t, "Pow", prime.Pow(0, 1), 0, 0, 1)
	same(t, "Pow", prime.Pow(0, api.P-1), 0, 0, api.P-1)
	same(t, "Pow", prime.Pow(api.P, top), 0, api.P, top)
	same(t, "Pow", prime.Pow(3, top), prime.Pow(3, 1<<32-1), 3, top)
}

// P1.1: what gives 1 with a number, and nothing for 0 however it is written.
func TestInv(t *testing.T) {
	for _, a := range some(300) {
		x, ok := prime.Inv(a)
		want := a%api.P != 0
		if ok != want {
			t.Errorf("Inv of %d: %v", a, ok)
		}
		if !want {
			same(t, "Inv", x, 0, a)
			continue
		}
		same(t, "Inv", x, new(big.Int).ModInverse(wide(a), wide(api.P)).Uint64(), a)
		same(t, "Mul", prime.Mul(a, x), 1, a, x)
	}
	for _, a := range []uint64{0, api.P} {
		if x, ok := prime.Inv(a); x != 0 || ok {
			t.Errorf("Inv of %d: %d, %v", a, x, ok)
		}
	}
	if x, ok := prime.Inv(2); x != 9223372034707292161 || !ok {
		t.Errorf("Inv of 2: %d, %v", x, ok)
	}
}

// P1.2: sums and products of many, of one and of none.
func TestMany(t *testing.T) {
	l := some(100)
	for n := range len(l) {
		sum, prod := new(big.Int), big.NewInt(1)
		for _, a := range l[len(l)-n:] {
			sum.Add(sum, wide(a))
			prod.Mul(prod, wide(a))
		}
		same(t, "Sum", prime.Sum(l[len(l)-n:]...), left(sum), uint64(n))
		same(t, "Prod", prime.Prod(l[len(l)-n:]...), left(prod), uint64(n))
	}
	for _, a := range edges() {
		same(t, "Sum", prime.Sum(a), a%api.P, a)
		same(t, "Prod", prime.Prod(a), a%api.P, a)
	}
	same(t, "Sum", prime.Sum(), 0)
	same(t, "Prod", prime.Prod(), 1)
	same(t, "Sum", prime.Sum([]uint64{}...), 0)
	same(t, "Prod", prime.Prod([]uint64{}...), 1)
	same(t, "Sum", prime.Sum(1, 2, 3), 6, 1, 2, 3)
	same(t, "Prod", prime.Prod(2, 3, 4), 24, 2, 3, 4)
	same(t, "Prod", prime.Prod(5, api.P, top), 0, 5, api.P, top)
}

// P1.2: what is handed in stays as it is, and so does the room behind it.
func TestKept(t *testing.T) {
	whole := []uint64{top, api.P, 5, api.P + 1, 9}
	before := slices.Clone(whole)
	prime.Sum(whole[:3]...)
	prime.Prod(whole[:3]...)
	if !slices.Equal(whole, before) {
		t.Errorf("the list is now %d", whole)
	}
}

// P1.3: the laws of a field, for two and for three numbers.
func TestField(t *testing.T) {
	l := some(5)
	for _, a := range l {
		same(t, "a + 0", prime.Add(a, 0), a%api.P, a)
		same(t, "1 a", prime.Mul(1, a), a%api.P, a)
		same(t, "a - a", prime.Add(a, prime.Neg(a)), 0, a)
		for _, b := range l {
			same(t, "b + a", prime.Add(b, a), prime.Add(a, b), a, b)
			same(t, "b a", prime.Mul(b, a), prime.Mul(a, b), a, b)
			same(t, "a - b + b", prime.Add(prime.Sub(a, b), b), a%api.P, a, b)
			if (prime.Mul(a, b) == 0) != (a%api.P == 0 || b%api.P == 0) {
				t.Errorf("%d times %d: %d", a, b, prime.Mul(a, b))
			}
			for _, c := range l {
				same(t, "(a + b) + c", prime.Add(prime.Add(a, b), c), prime.Add(a, prime.Add(b, c)), a, b, c)
				same(t, "(a b) c", prime.Mul(prime.Mul(a, b), c), prime.Mul(a, prime.Mul(b, c)), a, b, c)
				same(t, "a (b + c)", prime.Mul(a, prime.Add(b, c)), prime.Add(prime.Mul(a, b), prime.Mul(a, c)), a, b, c)
			}
		}
	}
}

// P1.3: every number but 0 has what gives 1 with it, and its order divides P - 1.
func TestOrder(t *testing.T) {
	for _, a := range some(100) {
		if a%api.P == 0 {
			continue
		}
		x, ok := prime.Inv(a)
		if !ok {
			t.Errorf("%d has no inverse", a)
		}
		same(t, "a / a", prime.Mul(x, a), 1, a)
		same(t, "a to the P - 1", prime.Pow(a, api.P-1), 1, a)
		back, ok := prime.Inv(x)
		if !ok {
			t.Errorf("%d has no inverse", x)
		}
		same(t, "Inv of Inv", back, a%api.P, a)
	}
}

// Many goroutines may ask at once, and get what one alone gets.
func TestAtOnce(t *testing.T) {
	l := some(50)
	sum, prod := prime.Sum(l...), prime.Prod(l[1:10]...)
	var wg sync.WaitGroup
	for range 8 {
		wg.Go(func() {
			if prime.Sum(l...) != sum || prime.Prod(l[1:10]...) != prod {
				t.Error("another answer at once")
			}
		})
	}
	wg.Wait()
}
