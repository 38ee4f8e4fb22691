package usec

import (
	"math"
	"math/big"
	"testing"

	"clepsydra/api"
)

const (
	least    = math.MinInt64
	greatest = math.MaxInt64
)

// sample is the edges, numbers near the roots and halves of them, and numbers of all lengths.
func sample() []int64 {
	list := []int64{api.MaxTime, -api.MaxTime, 86400000000, -86400000000}
	for _, at := range []int64{0, 1 << 31, -1 << 31, 1 << 32, -1 << 32, 3037000499, -3037000499, 1 << 62, -1 << 62, least, greatest} {
		for near := int64(-3); near <= 3; near++ {
			list = append(list, at+near)
		}
	}
	state := uint64(1)
	for shift := range 63 {
		state = state*6364136223846793005 + 1442695040888963407
		list = append(list, int64(state)>>shift)
	}
	return list
}

func pairs(check func(a, b int64)) {
	list := sample()
	for _, a := range list {
		for _, b := range list {
			check(a, b)
		}
	}
}

// holds fails unless a call's answer is the exact number, or 0 and false if that does not fit.
func holds(t *testing.T, name string, a, b, got int64, ok bool, exact *big.Int) {
	t.Helper()
	if exact.IsInt64() != ok {
		t.Fatalf("%s(%d, %d): %v, but exactly it is %s", name, a, b, ok, exact)
	}
	want := int64(0)
	if ok {
		want = exact.Int64()
	}
	if got != want {
		t.Fatalf("%s(%d, %d) = %d, not %d", name, a, b, got, want)
	}
}

type row struct {
	a, b, want int64
	ok         bool
}

func tell(t *testing.T, name string, call func(a, b int64) (int64, bool), rows []row) {
	t.Helper()
	for _, x := range rows {
		if got, ok := call(x.a, x.b); got != x.want || ok != x.ok {
			t.Errorf("%s(%d, %d) = %d, %v, not %d, %v", name, x.a, x.b, got, ok, x.want, x.ok)
		}
	}
}

// P1.1
func TestAdd(t *testing.T) {
	tell(t, "Add", Add, []row{
		{0, 0, 0, true},
		{2, 3, 5, true},
		{2, -3, -1, true},
		{greatest, 0, greatest, true},
		{greatest - 1, 1, greatest, true},
		{greatest, 1, 0, false},
		{1, greatest, 0, false},
		{greatest, greatest, 0, false},
		{api.Infinity, 1, 0, false},
		{api.Infinity, -1, api.Infinity - 1, true},
		{least, 0, least, true},
		{least + 1, -1, least, true},
		{least, -1, 0, false},
		{-1, least, 0, false},
		{least, least, 0, false},
		{least, greatest, -1, true},
		{-1 << 62, -1 << 62, least, true},
		{1 << 62, 1 << 62, 0, false},
	})
	pairs(func(a, b int64) {
		got, ok := Add(a, b)
		holds(t, "Add", a, b, got, ok, new(big.Int).Add(big.NewInt(a), big.NewInt(b)))
	})
}

// P1.1
func TestSub(t *testing.T) {
	tell(t, "Sub", Sub, []row{
		{0, 0, 0, true},
		{2, 3, -1, true},
		{2, -3, 5, true},
		{greatest, -1, 0, false},
		{greatest, greatest, 0, true},
		{least, 1, 0, false},
		{least, least, 0, true},
		{least, -1, least + 1, true},
		{0, least, 0, false},
		{-1, least, greatest, true},
		{0, greatest, least + 1, true},
		{-1, greatest, least, true},
		{-2, greatest, 0, false},
		{least, greatest, 0, false},
		{greatest, least, 0, false},
	})
	pairs(func(a, b int64) {
		got, ok := Sub(a, b)
		holds(t, "Sub", a, b, got, ok, new(big.Int).Sub(big.NewInt(a), big.NewInt(b)))
	})
}

// P1.1
func TestMul(t *testing.T) {
	tell(t, "Mul", Mul, []row{
		{0, 0, 0, true},
		{0, least, 0, true},
		{-1, 0, 0, true},
		{6, 7, 42, true},
		{-6, 7, -42, true},
		{-6, -7, 42, true},
		{least, 1, least, true},
		{least, -1, 0, false},
		{-1, least, 0, false},
		{least, least, 0, false},
		{greatest, 1, greatest, true},
		{greatest, -1, least + 1, true},
		{greatest, 2, 0, false},
		{greatest, greatest, 0, false},
		{least, greatest, 0, false},
		{1 << 31, 1 << 32, 0, false},
		{-1 << 31, 1 << 32, least, true},
		{-1 << 31, -1 << 32, 0, false},
		{1 << 32, 1 << 32, 0, false},
		{1<<32 + 1, 1 << 32, 0, false},
		{3037000499, 3037000499, 9223372030926249001, true},
		{3037000500, 3037000500, 0, false},
	})
	pairs(func(a, b int64) {
		got, ok := Mul(a, b)
		holds(t, "Mul", a, b, got, ok, new(big.Int).Mul(big.NewInt(a), big.NewInt(b)))
	})
}

// P1.2
func TestDiv(t *testing.T) {
	for _, x := range []struct {
		a, b, q, r int64
		ok         bool
	}{
		{0, 5, 0, 0, true},
		{7, 2, 3, 1, true},
		{-7, 2, -4, 1, true},
		{7, -2, -4, -1, true},
		{-7, -2, 3, -1, true},
		{6, 3, 2, 0, true},
		{-6, 3, -2, 0, true},
		{6, -3, -2, 0, true},
		{-6, -3, 2, 0, true},
		{1, 0, 0, 0, false},
		{0, 0, 0, 0, false},
		{least, 0, 0, 0, false},
		{greatest, 0, 0, 0, false},
		{least, -1, 0, 0, false},
		{least + 1, -1, greatest, 0, true},
		{greatest, -1, least + 1, 0, true},
		{least, 1, least, 0, true},
		{least, least, 1, 0, true},
		{0, least, 0, 0, true},
		{1, least, -1, least + 1, true},
		{-1, least, 0, -1, true},
		{greatest, least, -1, -1, true},
		{least, greatest, -2, greatest - 1, true},
		{-1, greatest, -1, greatest - 1, true},
		{least, 2, -1 << 62, 0, true},
		{least, 3, -3074457345618258603, 1, true},
	} {
		if q, r, ok := Div(x.a, x.b); q != x.q || r != x.r || ok != x.ok {
			t.Errorf("Div(%d, %d) = %d, %d, %v, not %d, %d, %v", x.a, x.b, q, r, ok, x.q, x.r, x.ok)
		}
	}
}

// floor is the exact quotient, rounded down. (That of big.Int rounds otherwise by divisors below 0.)
func floor(a, b int64) *big.Int {
	top, bottom := big.NewInt(a), big.NewInt(b)
	if b < 0 {
		top.Neg(top)
		bottom.Neg(bottom)
	}
	return top.Div(top, bottom)
}

// P1.2
func TestDivExactly(t *testing.T) {
	pairs(func(a, b int64) {
		q, r, ok := Div(a, b)
		if b == 0 {
			if q != 0 || r != 0 || ok {
				t.Fatalf("Div(%d, 0) = %d, %d, %v", a, q, r, ok)
			}
			return
		}
		exact := floor(a, b)
		holds(t, "Div", a, b, q, ok, exact)
		left := exact.Mul(exact, big.NewInt(b))
		left.Sub(big.NewInt(a), left)
		if !ok {
			left.SetInt64(0)
		}
		if left.Cmp(big.NewInt(r)) != 0 {
			t.Fatalf("Div(%d, %d) leaves %d, not %s", a, b, r, left)
		}
	})
}

// P1.3
func TestClamp(t *testing.T) {
	for _, x := range [][4]int64{
		{2, 1, 3, 2},
		{1, 1, 3, 1},
		{3, 1, 3, 3},
		{0, 1, 3, 1},
		{4, 1, 3, 3},
		{-5, -3, -1, -3},
		{5, -3, -1, -1},
		{5, 2, 2, 2},
		{1, 2, 2, 2},
		{least, least, greatest, least},
		{greatest, least, greatest, greatest},
		{least, 0, greatest, 0},
		{greatest, least, 0, 0},
		// low above high: low goes first
		{0, 3, 1, 3},
		{2, 3, 1, 3},
		{3, 3, 1, 1},
		{4, 3, 1, 1},
		{0, greatest, least, greatest},
		{greatest, greatest, least, least},
	} {
		if got := Clamp(x[0], x[1], x[2]); got != x[3] {
			t.Errorf("Clamp(%d, %d, %d) = %d, not %d", x[0], x[1], x[2], got, x[3])
		}
	}
}

// P1.4
func TestLater(t *testing.T) {
	for _, x := range [][3]int64{
		{3, 4, 7},
		{0, 0, 0},
		{-10, 4, -6},
		{5, api.Infinity, api.Infinity},
		{api.Infinity, 5, api.Infinity},
		{api.Infinity, api.Infinity, api.Infinity},
		{api.Infinity, 0, api.Infinity},
		{api.Infinity, -1, api.Infinity},
		{api.Infinity, least, api.Infinity},
		// a sum that would fit, but the span never ends
		{-5, api.Infinity, api.Infinity},
		{least, api.Infinity, api.Infinity},
		{10, -5, 10},
		{10, least, 10},
		{-10, -5, -10},
		{least, -1, least},
		{least, least, least},
		{least, 1, least + 1},
		{least, greatest - 1, -2},
		{1 << 62, 1 << 62, api.Infinity},
		{api.Infinity - 1, 0, api.Infinity - 1},
		{api.Infinity - 2, 1, api.Infinity - 1},
		{api.Infinity - 1, 1, api.Infinity},
		{api.Infinity - 1, 2, api.Infinity},
		{api.Infinity - 1, api.Infinity - 1, api.Infinity},
		{api.MaxTime, 1, api.MaxTime + 1},
	} {
		if got := Later(x[0], x[1]); got != x[2] {
			t.Errorf("Later(%d, %d) = %d, not %d", x[0], x[1], got, x[2])
		}
	}
}

// P1.4
func TestLaterExactly(t *testing.T) {
	pairs(func(at, span int64) {
		exact := big.NewInt(max(span, 0))
		exact.Add(exact, big.NewInt(at))
		want := int64(api.Infinity)
		if at != api.Infinity && span != api.Infinity && exact.IsInt64() {
			want = exact.Int64()
		}
		if got := Later(at, span); got != want {
			t.Fatalf("Later(%d, %d) = %d, not %d", at, span, got, want)
		}
	})
}

// P1.5
func TestEitherWayRound(t *testing.T) {
	pairs(func(a, b int64) {
		sum, fits := Add(a, b)
		turned, also := Add(b, a)
		if sum != turned || fits != also {
			t.Fatalf("sums of %d, %d: %d, %v and %d, %v", a, b, sum, fits, turned, also)
		}
		product, fits := Mul(a, b)
		turned, also = Mul(b, a)
		if product != turned || fits != also {
			t.Fatalf("products of %d, %d: %d, %v and %d, %v", a, b, product, fits, turned, also)
		}
	})
}

// P1.5
func TestTakenAwayAgain(t *testing.T) {
	pairs(func(a, b int64) {
		if sum, ok := Add(a, b); ok {
			if back, ok := Sub(sum, b); !ok || back != a {
				t.Fatalf("%d and %d, less that: %d, %v", a, b, back, ok)
			}
		}
		if difference, ok := Sub(a, b); ok {
			if back, ok := Add(difference, b); !ok || back != a {
				t.Fatalf("%d less %d, and that: %d, %v", a, b, back, ok)
			}
		}
	})
}

// P1.5: the product itself need not fit (1 divided by -2^63), the whole always is the number.
func TestQuotientAndWhatIsLeft(t *testing.T) {
	pairs(func(a, b int64) {
		q, r, ok := Div(a, b)
		if !ok {
			return
		}
		whole := new(big.Int).Mul(big.NewInt(q), big.NewInt(b))
		whole.Add(whole, big.NewInt(r))
		if whole.Cmp(big.NewInt(a)) != 0 {
			t.Fatalf("%d by %d: %d, %d, which is %s", a, b, q, r, whole)
		}
		// What is left lies between 0 and the divisor, that itself left out: so q is rounded down.
		if b > 0 && (r < 0 || r >= b) || b < 0 && (r > 0 || r <= b) {
			t.Fatalf("%d by %d leaves %d", a, b, r)
		}
		if product, ok := Mul(q, b); ok {
			if back, ok := Add(product, r); !ok || back != a {
				t.Fatalf("%d by %d and back: %d, %v", a, b, back, ok)
			}
		}
	})
}
