package tests

import (
	"fmt"
	"math"
	"math/big"
	"slices"
	"strings"
	"testing"

	"loop.example/stopover/impl"
)

// amounts are ordinary ones, and those at the edges.
func amounts() []int {
	list := []int{0, 1, 2, 3, 5, 9, 10, 99, 100, 101, 1234, 99999, impl.MoneyMax / 2, impl.MoneyMax/2 + 1, impl.MoneyMax - 1, impl.MoneyMax}
	r := numbers{3}
	for range 30 {
		list = append(list, r.below(impl.MoneyMax+1), r.below(100000))
	}
	for _, n := range slices.Clone(list) {
		list = append(list, -n)
	}
	return list
}

// noAmounts are numbers just past the edges, and at both ends of the range of int.
func noAmounts() []int {
	return append([]int{impl.MoneyMax + 1, -impl.MoneyMax - 1, impl.MoneyMax * 2, -impl.MoneyMax * 2}, ends...)
}

func TestMoneyLimits(t *testing.T) {
	if impl.MoneyMax != 1000000000000 || impl.PartMax != 1000000 || impl.ShareMax != 8 || impl.MoneyCents != 100 {
		t.Error("limits")
	}
	for _, n := range amounts() {
		if !impl.MoneyOk(n) {
			t.Errorf("%d is an amount", n)
		}
	}
	for _, n := range noAmounts() {
		if impl.MoneyOk(n) {
			t.Errorf("%d is no amount", n)
		}
	}
}

func TestP2Add(t *testing.T) {
	for _, a := range amounts() {
		for _, b := range amounts() {
			want, wantOk := a+b, impl.MoneyOk(a+b)
			if !wantOk {
				want = 0
			}
			if sum, ok := impl.MoneyAdd(a, b); sum != want || ok != wantOk {
				t.Errorf("%d and %d: %d %v", a, b, sum, ok)
			}
			if sum, ok := impl.MoneyAdd(b, a); sum != want || ok != wantOk {
				t.Errorf("%d and %d turned: %d %v", a, b, sum, ok)
			}
			if sum, ok := impl.MoneyAdd(-a, -b); sum != -want || ok != wantOk {
				t.Errorf("%d and %d, other signs: %d %v", a, b, sum, ok)
			}
		}
		if sum, ok := impl.MoneyAdd(a, 0); sum != a || !ok {
			t.Errorf("%d and 0: %d %v", a, sum, ok)
		}
	}
}

func TestP2AddEdges(t *testing.T) {
	for i, c := range []struct {
		a, b, sum int
		ok        bool
	}{
		{impl.MoneyMax - 1, 1, impl.MoneyMax, true},
		{1 - impl.MoneyMax, -1, -impl.MoneyMax, true},
		{impl.MoneyMax, 1, 0, false},
		{-impl.MoneyMax, -1, 0, false},
		{impl.MoneyMax, impl.MoneyMax, 0, false},
		{impl.MoneyMax, -impl.MoneyMax, 0, true},
		{impl.MoneyMax + 1, -1, 0, false},
		{-impl.MoneyMax - 1, 1, 0, false},
	} {
		for range 2 {
			if sum, ok := impl.MoneyAdd(c.a, c.b); sum != c.sum || ok != c.ok {
				t.Errorf("case %d: %d %v", i, sum, ok)
			}
			c.a, c.b = c.b, c.a
		}
	}
}

// Of two numbers that are no amounts the sum may be one, as it is, or by wrapping around.
func TestP2AddNoAmounts(t *testing.T) {
	for _, a := range noAmounts() {
		for _, b := range append(noAmounts(), 0, 1, -1, impl.MoneyMax, -impl.MoneyMax, -a) {
			if sum, ok := impl.MoneyAdd(a, b); ok || sum != 0 {
				t.Errorf("%d and %d: %d %v", a, b, sum, ok)
			}
			if sum, ok := impl.MoneyAdd(b, a); ok || sum != 0 {
				t.Errorf("%d and %d: %d %v", b, a, sum, ok)
			}
		}
	}
}

// partOf is the part by whole numbers of any size.
func partOf(a int, n int, of int) (int, bool) {
	times := new(big.Int).Mul(big.NewInt(int64(a)), big.NewInt(int64(n)))
	whole, left := new(big.Int).DivMod(times, big.NewInt(int64(of)), new(big.Int))
	near := new(big.Int).Lsh(left, 1).Cmp(big.NewInt(int64(of)))
	if near > 0 || near == 0 && whole.Bit(0) == 1 {
		whole.Add(whole, big.NewInt(1))
	}
	if whole.CmpAbs(big.NewInt(impl.MoneyMax)) > 0 {
		return 0, false
	}
	return int(whole.Int64()), true
}

func checkPart(t *testing.T, a int, n int, of int) {
	t.Helper()
	want, wantOk := partOf(a, n, of)
	if part, ok := impl.MoneyPart(a, n, of); part != want || ok != wantOk {
		t.Errorf("%d times %d of %d: %d %v", a, n, of, part, ok)
	}
	if part, ok := impl.MoneyPart(-a, n, of); part != -want || ok != wantOk {
		t.Errorf("%d times %d of %d: %d %v", -a, n, of, part, ok)
	}
}

func TestP3SmallParts(t *testing.T) {
	for a := range 60 {
		for n := range 13 {
			for of := 1; of < 13; of++ {
				checkPart(t, a, n, of)
			}
		}
	}
}

func TestP3AnyParts(t *testing.T) {
	r := numbers{4}
	for range 20000 {
		checkPart(t, r.below(impl.MoneyMax+1), r.below(impl.PartMax+1), 1+r.below(impl.PartMax))
		checkPart(t, r.below(1000000), r.below(1000), 1+r.below(1000))
	}
}

func TestP3Halves(t *testing.T) {
	for _, c := range []struct{ a, n, of, part int }{
		{1, 1, 2, 0}, {3, 1, 2, 2}, {5, 1, 2, 2}, {7, 1, 2, 4}, {9, 1, 2, 4},
		{5, 3, 6, 2}, {10, 1, 4, 2}, {14, 1, 4, 4}, {500000, 1, 1000000, 0}, {1500000, 1, 1000000, 2}, {500001, 1, 1000000, 1},
		{impl.MoneyMax - 1, 500000, 1000000, impl.MoneyMax / 2}, {impl.MoneyMax - 3, 500000, 1000000, impl.MoneyMax/2 - 2},
	} {
		for _, sign := range []int{1, -1} {
			if part, ok := impl.MoneyPart(sign*c.a, c.n, c.of); part != sign*c.part || !ok {
				t.Errorf("%d times %d of %d: %d %v", sign*c.a, c.n, c.of, part, ok)
			}
		}
	}
}

// Parts that come just to MoneyMax, half a cent more, which is rounded down to it, and a cent more.
func TestP3Greatest(t *testing.T) {
	tie := (2*impl.MoneyMax + 1) / 3
	for i, c := range []struct {
		a, n, of int
		ok       bool
	}{
		{impl.MoneyMax, 1, 1, true}, {impl.MoneyMax, impl.PartMax, impl.PartMax, true}, {impl.MoneyMax / 1000000, impl.PartMax, 1, true},
		{tie, 3, 2, true}, {tie + 1, 3, 2, false}, {impl.MoneyMax/2 + 1, 2, 1, false}, {impl.MoneyMax, impl.PartMax, impl.PartMax - 1, false}, {impl.MoneyMax, impl.PartMax, 1, false},
	} {
		checkPart(t, c.a, c.n, c.of)
		part, ok := impl.MoneyPart(c.a, c.n, c.of)
		if ok != c.ok || ok && part != impl.MoneyMax || !ok && part != 0 {
			t.Errorf("case %d: %d %v", i, part, ok)
		}
	}
}

func TestP3AllParts(t *testing.T) {
	for _, a := range amounts() {
		for _, of := range []int{1, 2, 3, 7, 100, 999999, impl.PartMax} {
			if part, ok := impl.MoneyPart(a, of, of); part != a || !ok {
				t.Errorf("%d, all %d parts: %d %v", a, of, part, ok)
			}
			if part, ok := impl.MoneyPart(a, 0, of); part != 0 || !ok {
				t.Errorf("%d, no part of %d: %d %v", a, of, part, ok)
			}
		}
	}
}

func TestP3BadParts(t *testing.T) {
	refused := func(a int, n int, of int) {
		t.Helper()
		if part, ok := impl.MoneyPart(a, n, of); ok || part != 0 {
			t.Errorf("%d times %d of %d: %d %v", a, n, of, part, ok)
		}
	}
	for _, a := range noAmounts() {
		refused(a, 1, 1)
		refused(a, 0, 1)
		refused(a, 1, impl.PartMax)
	}
	for _, n := range append([]int{-1, -2, impl.PartMax + 1}, ends...) {
		refused(0, n, 1)
		refused(10, n, 2)
		refused(-1, n, impl.PartMax)
	}
	for _, of := range append([]int{0, -1, -2, impl.PartMax + 1}, ends...) {
		refused(0, 0, of)
		refused(10, 1, of)
		refused(10, 2, of)
	}
}

// lists of weights that are ok.
func weightLists() [][]int {
	lists := [][]int{
		{1}, {impl.PartMax}, {1, 1}, {1, 1, 1}, {0, 1}, {1, 0}, {0, 0, 5}, {3, 0, 0, 4}, {1, 2, 3, 4}, {5, 5, 5, 5, 5, 5, 5},
		{1, 1, 1, 1, 1, 1, 1, 1}, {0, 0, 0, 0, 0, 0, 0, 1}, {impl.PartMax - 1, 1}, {0, impl.PartMax, 0}, {impl.PartMax / 2, impl.PartMax / 2},
		{125000, 125000, 125000, 125000, 125000, 125000, 125000, 125000}, {999993, 1, 1, 1, 1, 1, 1, 1}, {2, 1, 2, 1}, {1, 2, 1, 2},
	}
	r := numbers{5}
	for range 200 {
		list := make([]int, 1+r.below(impl.ShareMax))
		most := []int{3, 10, 1000, impl.PartMax / impl.ShareMax}[r.below(4)]
		for i := range list {
			list[i] = r.below(most)
		}
		list[r.below(len(list))]++
		lists = append(lists, list)
	}
	return lists
}

// totals are amounts to be shared out.
func totals() []int {
	list := amounts()
	for n := range 30 {
		list = append(list, n, -n)
	}
	return list
}

// sharesOf does what the document says cent by cent, of a total that is not below 0.
func sharesOf(total int, weights []int) []int {
	all := 0
	for _, weight := range weights {
		all += weight
	}
	shares, over, cents := make([]int, len(weights)), make([]int, len(weights)), total
	for i, weight := range weights {
		shares[i], over[i] = total*weight/all, total*weight%all
		cents -= shares[i]
	}
	for ; cents > 0; cents-- {
		most := 0
		for i := range over {
			if over[i] > over[most] {
				most = i
			}
		}
		shares[most]++
		over[most] = -1
	}
	return shares
}

func TestP4Shares(t *testing.T) {
	for _, weights := range weightLists() {
		for _, total := range totals() {
			if total < 0 {
				continue
			}
			if shares := impl.MoneyShare(total, weights); !slices.Equal(shares, sharesOf(total, weights)) {
				t.Errorf("%d by %v: %v", total, weights, shares)
			}
		}
	}
}

func TestP4ToTheLastCent(t *testing.T) {
	for _, weights := range weightLists() {
		all := 0
		for _, weight := range weights {
			all += weight
		}
		for _, total := range totals() {
			shares := impl.MoneyShare(total, weights)
			if len(shares) != len(weights) {
				t.Fatalf("%d by %v: %v", total, weights, shares)
			}
			together := 0
			for i, share := range shares {
				together += share
				off := share*all - total*weights[i]
				if off <= -all || off >= all || weights[i] == 0 && share != 0 {
					t.Errorf("%d by %v: %v", total, weights, shares)
				}
			}
			if together != total {
				t.Errorf("%d by %v: %v are %d", total, weights, shares, together)
			}
		}
	}
}

func TestP4LastCents(t *testing.T) {
	for i, c := range []struct {
		total   int
		weights []int
		want    []int
	}{
		{100, []int{1, 1, 1}, []int{34, 33, 33}},
		{101, []int{1, 1, 1}, []int{34, 34, 33}},
		{10, []int{1, 5, 3}, []int{1, 6, 3}},
		{5, []int{0, 3, 4}, []int{0, 2, 3}},
		{1, []int{1, 2}, []int{0, 1}},
		{7, []int{2, 1, 2, 1}, []int{3, 1, 2, 1}},
		{3, []int{0, 1, 1}, []int{0, 2, 1}},
		{7, []int{1, 1, 1, 1, 1, 1, 1, 1}, []int{1, 1, 1, 1, 1, 1, 1, 0}},
		{0, []int{0, 7}, []int{0, 0}},
		{impl.MoneyMax, []int{impl.PartMax}, []int{impl.MoneyMax}},
		{impl.MoneyMax, []int{1, impl.PartMax - 1}, []int{1000000, impl.MoneyMax - 1000000}},
		{impl.MoneyMax, []int{1, 1, 1}, []int{333333333334, 333333333333, 333333333333}},
	} {
		if shares := impl.MoneyShare(c.total, c.weights); !slices.Equal(shares, c.want) {
			t.Errorf("case %d: %v", i, shares)
		}
	}
}

func TestP4NothingToShareBy(t *testing.T) {
	lists := [][]int{
		nil, {}, {0}, {0, 0}, {-1}, {5, -1}, {-1, 5}, {1, 1, -1}, {impl.PartMax + 1}, {0, impl.PartMax + 1}, {impl.PartMax, 1}, {1, impl.PartMax},
		{impl.PartMax + 1, -1}, {1, 1, 1, 1, 1, 1, 1, 1, 1}, {1, 0, 0, 0, 0, 0, 0, 0, 0}, {125000, 125000, 125000, 125000, 125000, 125000, 125000, 125001},
		{math.MaxInt, math.MaxInt, 3}, {math.MaxInt, math.MinInt, 2}, {math.MinInt, math.MinInt, 1}, {math.MinInt}, {math.MaxInt},
	}
	for _, weights := range lists {
		for _, total := range []int{0, 1, 5, -5, impl.MoneyMax} {
			if shares := impl.MoneyShare(total, weights); len(shares) != 0 {
				t.Errorf("%d by %v: %v", total, weights, shares)
			}
		}
	}
	for _, total := range noAmounts() {
		if shares := impl.MoneyShare(total, []int{1, 1}); len(shares) != 0 {
			t.Errorf("%d: %v", total, shares)
		}
	}
}

func TestP4SharesAreNewMemory(t *testing.T) {
	room := []int{1, 2, 3, 77, 78}
	for _, total := range []int{100, -100} {
		first := impl.MoneyShare(total, room[:3])
		want := slices.Clone(first)
		second := impl.MoneyShare(total, room[:3])
		for i := range second[:cap(second)] {
			second[:cap(second)][i] = 9
		}
		if !slices.Equal(room, []int{1, 2, 3, 77, 78}) || !slices.Equal(first, want) {
			t.Errorf("%d: %v %v", total, room, first)
		}
	}
}

func TestP5OtherSign(t *testing.T) {
	for _, weights := range weightLists() {
		for _, total := range totals() {
			own, owe := impl.MoneyShare(total, weights), impl.MoneyShare(-total, weights)
			for i := range owe {
				owe[i] = -owe[i]
			}
			if len(own) != len(weights) || !slices.Equal(own, owe) {
				t.Errorf("%d by %v: %v, and with signs turned back %v", total, weights, own, owe)
			}
		}
	}
	for i, c := range []struct {
		total   int
		weights []int
		want    string
	}{{-5, []int{0, 3, 4}, "[0 -2 -3]"}, {-100, []int{1, 1, 1}, "[-34 -33 -33]"}, {-1, []int{1, 1}, "[-1 0]"}, {-impl.MoneyMax, []int{impl.PartMax}, "[-1000000000000]"}} {
		if s := fmt.Sprint(impl.MoneyShare(c.total, c.weights)); s != c.want {
			t.Errorf("case %d: %s", i, s)
		}
	}
}

func TestP6WriteAndRead(t *testing.T) {
	list := totals()
	for n := -1100; n <= 1100; n++ {
		list = append(list, n)
	}
	for _, n := range list {
		text := impl.MoneyWrite(n)
		if got, ok := impl.MoneyRead(text); got != n || !ok {
			t.Errorf("%d as %q: %d %v", n, text, got, ok)
		}
		sign, whole := "", n
		if n < 0 {
			sign, whole = "-", -n
		}
		if want := fmt.Sprintf("%s%d.%02d", sign, whole/100, whole%100); text != want {
			t.Errorf("%d: %q", n, text)
		}
	}
}

func TestP6WriteNoAmount(t *testing.T) {
	for _, n := range noAmounts() {
		if text := impl.MoneyWrite(n); text != "" {
			t.Errorf("%d: %q", n, text)
		}
	}
}

func TestP6ReadNoAmount(t *testing.T) {
	for _, text := range []string{
		"", "-", ".", "0", "00", "000", "1", "12", "100", ".0", ".00", ".10", "-.10", "1.", "1.0", "1.000", "00.10", "01.00", "-01.00", "-0.00", "+1.00", "+0.00", "--1.00",
		"1.-1", "1.+1", "1. 1", " 1.00", "1.00 ", "1.00\n", "1,00", "1:00", "1.0a", "a.00", "1_0.00", "0x1.00", "1e2.00", "1.0.0", "1..00", "\x00.00", "1\x00.00", "１.00", "-.", "-1", "−1.00",
		"10000000000.01", "-10000000000.01", "10000000001.00", "99999999999.99", "92233720368547758.07", "92233720368547758.08", "-92233720368547758.08", "184467440737095516.17",
		strings.Repeat("9", 400) + ".00", strings.Repeat("0", 400) + "1.00", "1.00" + strings.Repeat("0", 400),
	} {
		if n, ok := impl.MoneyRead(text); ok || n != 0 {
			t.Errorf("%q: %d %v", text, n, ok)
		}
	}
	for n := range 256 {
		for _, text := range []string{string([]byte{'1', byte(n), '0', '0'}), string([]byte{byte(n), '1', '.', '0', '0'}), string([]byte{'1', '.', byte(n), '0'}), string([]byte{'1', '.', '0', '0', byte(n)})} {
			if x, ok := impl.MoneyRead(text); ok && impl.MoneyWrite(x) != text || !ok && x != 0 {
				t.Errorf("%q: %d %v", text, x, ok)
			}
		}
	}
}
