package num

import (
	"math"
	"math/big"
	"testing"
)

// edges are numbers at which a sum or a product goes from an int64 to none, and ordinary ones.
func edges() []int64 {
	list := []int64{0, 1, 2, 3, 7, 10, 1000, 3037000499, 3037000500, math.MaxInt64, math.MaxInt64 - 1, math.MaxInt64 / 2, math.MaxInt64/2 + 1, math.MaxInt64 / 3, math.MaxInt64/3 + 1}
	for shift := range 63 {
		list = append(list, 1<<shift, 1<<shift-1, 1<<shift+1)
	}
	for _, n := range list {
		list = append(list, -n, -n-1)
	}
	return list
}

// asInt64 is what the calls promise for an unbounded result.
func asInt64(n *big.Int) (int64, bool) {
	if !n.IsInt64() {
		return 0, false
	}
	return n.Int64(), true
}

func TestAddAndMulAgainstUnboundedNumbers(t *testing.T) {
	list := edges()
	for _, a := range list {
		for _, b := range list {
			x, y := big.NewInt(a), big.NewInt(b)
			want, wantOK := asInt64(new(big.Int).Add(x, y))
			if got, ok := Add(a, b); got != want || ok != wantOK {
				t.Fatalf("Add(%d, %d) = %d, %v; want %d, %v", a, b, got, ok, want, wantOK)
			}
			want, wantOK = asInt64(new(big.Int).Mul(x, y))
			if got, ok := Mul(a, b); got != want || ok != wantOK {
				t.Fatalf("Mul(%d, %d) = %d, %v; want %d, %v", a, b, got, ok, want, wantOK)
			}
		}
	}
}

func TestAdd(t *testing.T) {
	for _, c := range []struct {
		a, b, want int64
		ok         bool
	}{
		{2, 3, 5, true},
		{2, -3, -1, true},
		{0, 0, 0, true},
		{math.MaxInt64, 0, math.MaxInt64, true},
		{math.MaxInt64, 1, 0, false},
		{1, math.MaxInt64, 0, false},
		{math.MaxInt64 - 1, 1, math.MaxInt64, true},
		{math.MinInt64, 0, math.MinInt64, true},
		{math.MinInt64, -1, 0, false},
		{-1, math.MinInt64, 0, false},
		{math.MinInt64 + 1, -1, math.MinInt64, true},
		{math.MinInt64, math.MinInt64, 0, false},
		{math.MaxInt64, math.MinInt64, -1, true},
	} {
		if got, ok := Add(c.a, c.b); got != c.want || ok != c.ok {
			t.Errorf("Add(%d, %d) = %d, %v; want %d, %v", c.a, c.b, got, ok, c.want, c.ok)
		}
	}
}

func TestMul(t *testing.T) {
	for _, c := range []struct {
		a, b, want int64
		ok         bool
	}{
		{6, 7, 42, true},
		{-6, 7, -42, true},
		{-6, -7, 42, true},
		{0, math.MinInt64, 0, true},
		{math.MinInt64, 0, 0, true},
		{math.MinInt64, 1, math.MinInt64, true},
		{math.MinInt64, -1, 0, false},
		{-1, math.MinInt64, 0, false},
		{math.MaxInt64, -1, -math.MaxInt64, true},
		{-1, math.MaxInt64, -math.MaxInt64, true},
		{math.MinInt64, math.MinInt64, 0, false},
		{1 << 32, 1 << 31, 0, false},
		{1 << 32, -1 << 31, math.MinInt64, true},
		{1 << 32, 1 << 32, 0, false},
	} {
		if got, ok := Mul(c.a, c.b); got != c.want || ok != c.ok {
			t.Errorf("Mul(%d, %d) = %d, %v; want %d, %v", c.a, c.b, got, ok, c.want, c.ok)
		}
	}
}

func TestDrawRow(t *testing.T) {
	x := uint32(1)
	for i, want := range []uint32{270369, 67634689, 2647435461, 307599695, 2398689233, 745495504, 632435482, 435756210, 2005365029, 2916098932} {
		x = Draw(x)
		if x != want {
			t.Fatalf("draw %d of 1 is %d; want %d", i+1, x, want)
		}
	}
}

func TestDrawOfZero(t *testing.T) {
	if got := Draw(0); got != 2463534242 {
		t.Errorf("Draw(0) = %d", got)
	}
	if got := Draw(2463534242); got != 723471715 {
		t.Errorf("Draw(2463534242) = %d", got)
	}
}

// mixed is n exclusive or itself moved by whole places: to the left, if by is above 0; digit by digit.
func mixed(n [32]bool, by int) [32]bool {
	out := n
	for to := range n {
		from := to - by
		if from >= 0 && from < len(n) && n[from] {
			out[to] = !out[to]
		}
	}
	return out
}

// drawByDigits tells Draw's promise anew, for an x that is not 0, without shifts of whole numbers.
func drawByDigits(x uint32) uint32 {
	var digits [32]bool
	rest := uint64(x)
	for i := range digits {
		digits[i] = rest%2 == 1
		rest /= 2
	}
	digits = mixed(mixed(mixed(digits, 13), -17), 5)
	out := uint64(0)
	for i := len(digits) - 1; i >= 0; i-- {
		out *= 2
		if digits[i] {
			out++
		}
	}
	return uint32(out)
}

func TestDrawDigitByDigit(t *testing.T) {
	list := []uint32{math.MaxUint32, math.MaxUint32 - 1, 0xaaaaaaaa, 0x55555555}
	for shift := range 32 {
		list = append(list, 1<<shift)
	}
	x := uint32(99)
	for range 2000 {
		x = drawByDigits(x)
		list = append(list, x)
	}
	for _, x := range list {
		if got, want := Draw(x), drawByDigits(x); got != want || got == 0 {
			t.Fatalf("Draw(%d) = %d; want %d", x, got, want)
		}
	}
}

func TestPick(t *testing.T) {
	for _, c := range []struct {
		x       uint32
		n, want int
	}{
		{0, 1, 0},
		{0, 5, 0},
		{7, 1, 0},
		{7, 3, 1},
		{7, 7, 0},
		{7, 8, 7},
		{7, 0, 0},
		{7, -1, 0},
		{7, -3, 0},
		{7, math.MinInt, 0},
		{math.MaxUint32, math.MinInt, 0},
		{math.MaxUint32, 10, 5},
		{math.MaxUint32, 1 << 16, 1<<16 - 1},
		{1 << 31, 1000, 648},
		{1 << 31, math.MaxInt32, 1},
	} {
		if got := Pick(c.x, c.n); got != c.want {
			t.Errorf("Pick(%d, %d) = %d; want %d", c.x, c.n, got, c.want)
		}
	}
}

// An n of more than 32 digits must not be cut to 32.
func TestPickWithGreatN(t *testing.T) {
	if math.MaxInt == math.MaxInt32 {
		t.Skip("an int has 32 digits here")
	}
	for _, shift := range []int{32, 33, 40, 62} {
		for _, more := range []int{0, 1, 3} {
			n := 1<<shift + more
			if got := Pick(math.MaxUint32, n); int64(got) != math.MaxUint32 {
				t.Errorf("Pick(%d, %d) = %d", uint32(math.MaxUint32), n, got)
			}
		}
	}
	if got := Pick(math.MaxUint32, math.MaxInt); int64(got) != math.MaxUint32 {
		t.Errorf("Pick with the greatest n = %d", got)
	}
}
