package tests

import (
	"slices"
	"strings"
	"testing"

	"loop.example/stopover/impl"
)

func TestFareLimits(t *testing.T) {
	if impl.FareMax != 4 {
		t.Error("limit")
	}
}

func TestP32WriteAndRead(t *testing.T) {
	for _, list := range fareLists() {
		text := impl.FaresWrite(list)
		if !impl.FaresOk(list) || text != fareText(list) {
			t.Errorf("%v: %q", list, text)
		}
		if got, ok := impl.FaresRead(text); !ok || !slices.Equal(got, list) || impl.FaresWrite(got) != text {
			t.Errorf("%q is read as %v", text, got)
		}
	}
}

func TestP32AsWritten(t *testing.T) {
	for text, list := range map[string][]impl.Fare{
		"":                       nil,
		"full 0 mul(legs,500)\n": {fare("full", 0, "mul(legs,500)")},
		"full 0 mul(legs,500)\nlow 1 tiers(time;0:30,5:10)\n":            {fare("full", 0, "mul(legs,500)"), fare("low", 1, "tiers(time;0:30,5:10)")},
		"b 2 -5\na 2 seats\nlegs 0 legs\nabcdefgh 1 if(time,legs,1,0)\n": {fare("b", 2, "-5"), fare("a", 2, "seats"), fare("legs", 0, "legs"), fare("abcdefgh", 1, "if(time,legs,1,0)")},
	} {
		if got, ok := impl.FaresRead(text); !ok || !slices.Equal(got, list) || impl.FaresWrite(list) != text {
			t.Errorf("%q: %v %v, %q", text, got, ok, impl.FaresWrite(list))
		}
	}
}

func TestP32NoFares(t *testing.T) {
	for i, list := range notFares() {
		if fineFares(list) {
			t.Fatalf("fares %d are ok", i)
		}
		if impl.FaresOk(list) || impl.FaresWrite(list) != "" {
			t.Errorf("fares %d: %q", i, impl.FaresWrite(list))
		}
		checkNoFareText(t, fareText(list))
	}
}

func checkNoFareText(t *testing.T, text string) {
	t.Helper()
	if got, ok := impl.FaresRead(text); ok || len(got) != 0 {
		t.Errorf("%q is read: %v", text, got)
	}
}

func TestP32Limits(t *testing.T) {
	four := []impl.Fare{fare("a", 0, textOf(fareBytesRule(300))), fare("b", 2, textOf(fareBytesRule(299))), fare("abcdefgh", 1, textOf(partsRule(30))), fare("d", 0, textOf(levelRule(6)))}
	if got, ok := impl.FaresRead(fareText(four)); !impl.FaresOk(four) || !ok || !slices.Equal(got, four) || len(four[0].Rule) != 300 {
		t.Errorf("just four: %v", got)
	}
	for i, change := range []func(list []impl.Fare) []impl.Fare{
		func(list []impl.Fare) []impl.Fare { return append(list, fare("e", 0, "1")) },
		func(list []impl.Fare) []impl.Fare { list[0].Rule = textOf(fareBytesRule(301)); return list },
		func(list []impl.Fare) []impl.Fare { list[2].Rule = textOf(partsRule(31)); return list },
		func(list []impl.Fare) []impl.Fare { list[3].Rule = textOf(levelRule(7)); return list },
		func(list []impl.Fare) []impl.Fare { list[2].Name += "i"; return list },
		func(list []impl.Fare) []impl.Fare { list[1].Class++; return list },
		func(list []impl.Fare) []impl.Fare { list[0].Class--; return list },
		func(list []impl.Fare) []impl.Fare { list[3].Name = "b"; return list },
	} {
		list := change(slices.Clone(four))
		if impl.FaresOk(list) || impl.FaresWrite(list) != "" {
			t.Errorf("change %d", i)
		}
		checkNoFareText(t, fareText(list))
	}
}

func TestP32NoTexts(t *testing.T) {
	for _, text := range []string{
		"\n", " ", "a", "a 0", "a 0 1", "a 0 1\n\n", "\na 0 1\n", "a 0 1\nb 0 1", "a 0 1 \n", " a 0 1\n", "a  0 1\n", "a 0  1\n", "a 0 1\r\n", "a\t0 1\n", "a 00 1\n", "a +0 1\n", "a -0 1\n", "a -1 1\n", "a 3 1\n", "a 18446744073709551616 1\n", "a x 1\n", "a  1\n", "a 0 \n", " 0 1\n", "A 0 1\n", "abcdefghi 0 1\n", "a1 0 1\n", "é 0 1\n", "\x00 0 1\n",
		"a 0 01\n", "a 0 use\n", "a 0 add(1, 2)\n", "a 0 1\na 0 2\n", "a 0 1\nb 0 1\na 1 1\n", "a 0 1\nb 0 1\nc 0 1\nd 0 1\ne 0 1\n", "a 0 1;b 0 1\n", "a 0 1b 0 1\n", strings.Repeat("a 0 1\n", 100000), strings.Repeat("\n", 100000), "a 0 " + strings.Repeat("add(", 100000) + "\n", filled(100000), allBytes(),
	} {
		checkNoFareText(t, text)
	}
}

func TestP32WhatIsReadIsWritten(t *testing.T) {
	for _, text := range []string{"full 0 mul(legs,5)\nlow 1 tiers(time;0:30,5:10)\n", "a 2 -10\nb 0 if(seats,3,10,20)\n"} {
		for _, changed := range changesOf(text) {
			want, wantOk := plainFares(changed)
			got, ok := impl.FaresRead(changed)
			if ok != wantOk || !slices.Equal(got, want) || ok && impl.FaresWrite(got) != changed {
				t.Errorf("%q: %v %v, not %v %v", changed, got, ok, want, wantOk)
			}
		}
	}
}

func TestP32NewMemory(t *testing.T) {
	text := "a 0 1\nb 1 legs\nc 2 time\n"
	first, _ := impl.FaresRead(text)
	for i := range first[:cap(first)] {
		first[:cap(first)][i] = fare("changed", 7, "changed")
	}
	if second, ok := impl.FaresRead(text); !ok || impl.FaresWrite(second) != text {
		t.Errorf("%v", second)
	}
}

func TestP32NothingIsWrittenIntoArguments(t *testing.T) {
	behind := []impl.Fare{fare("behind", 5, "behind"), fare("behind", 5, "behind")}
	for _, list := range append(fareLists(), notFares()...) {
		given := append(slices.Clone(list), behind...)[:len(list)]
		impl.FaresOk(given)
		impl.FaresWrite(given)
		impl.FareLeast(given, 2, 1, 1, 1)
		impl.TripOps(knownNet(), given, journey("full", 1, "la"))
		if !slices.Equal(given, list) || !slices.Equal(given[len(given):len(given)+2], behind) {
			t.Errorf("%v is changed", list)
		}
	}
}

func TestP33FareOf(t *testing.T) {
	codes := map[int]int{}
	for _, list := range fareLists() {
		for _, f := range list {
			for _, n := range tripNumbers() {
				want, wantCode := priceOf(f, n[0], n[1], n[2])
				price, code := impl.FareOf(f, n[0], n[1], n[2])
				if price != want || code != wantCode || price < 0 || code != 0 && price != 0 {
					t.Errorf("%v of %v: %d %d, not %d %d", f, n, price, code, want, wantCode)
				}
				rule, _ := impl.RuleRead(f.Rule)
				says, saysCode := impl.RuleOf(rule, []impl.Pair{{Name: "legs", Num: n[0]}, {Name: "seats", Num: n[1]}, {Name: "time", Num: n[2]}}, impl.RuleMaxFuel)
				if code == 0 && (price != says || saysCode != 0) {
					t.Errorf("%v of %v: %d, not %d", f, n, price, says)
				}
				codes[code]++
			}
		}
	}
	if codes[0] < 1000 || codes[impl.CodeBig] < 100 || codes[impl.CodeZero] < 10 || codes[impl.CodeFuel] > 0 || codes[impl.CodeName] > 0 {
		t.Error(codes)
	}
}

func TestP33KnownPrices(t *testing.T) {
	for i, c := range []struct {
		rule              string
		legs, seats, time int
		price, code       int
	}{
		{"legs", 3, 4, 5, 3, 0}, {"seats", 3, 4, 5, 4, 0}, {"time", 3, 4, 5, 5, 0}, {"mul(legs,500)", 2, 1, 6, 1000, 0}, {"tiers(time;0:30,5:10)", 2, 2, 6, 160, 0}, {"part(time,seats,legs)", 2, 3, 5, 8, 0}, {"if(time,5,100,20)", 1, 1, 4, 100, 0}, {"if(time,5,100,20)", 1, 1, 5, 20, 0},
		{"0", 1, 1, 1, 0, 0}, {"-1", 1, 1, 1, 0, impl.CodeBig}, {"sub(1,legs)", 1, 1, 1, 0, 0}, {"sub(1,legs)", 2, 1, 1, 0, impl.CodeBig}, {"max(0,sub(1,legs))", 2, 1, 1, 0, 0}, {"mul(1000000000,1000)", 1, 1, 1, impl.MoneyMax, 0}, {"mul(1000000000,1001)", 1, 1, 1, 0, impl.CodeBig}, {"part(1,1,sub(legs,2))", 2, 1, 1, 0, impl.CodeZero},
		{"time", 1, 1, impl.MoneyMax, impl.MoneyMax, 0}, {"time", 1, 1, impl.MoneyMax + 1, 0, impl.CodeBig}, {"time", ends[0], ends[5], 7, 7, 0}, {"7", ends[0], ends[5], ends[0], 7, 0}, {"legs", ends[0], 1, 1, 0, impl.CodeBig}, {"seats", 1, ends[5], 1, 0, impl.CodeBig}, {"legs", -1, 1, 1, 0, impl.CodeBig}, {"mul(legs,legs)", -3, 1, 1, 9, 0},
		{"use", 1, 1, 1, 0, impl.CodeName}, {"", 1, 1, 1, 0, impl.CodeName}, {"legs ", 1, 1, 1, 0, impl.CodeName}, {"if(1,2,legs,price)", 1, 1, 1, 0, impl.CodeName}, {"01", 1, 1, 1, 0, impl.CodeName},
	} {
		price, code := impl.FareOf(fare("a", 1, c.rule), c.legs, c.seats, c.time)
		if price != c.price || code != c.code {
			t.Errorf("case %d: %d %d", i, price, code)
		}
	}
}

func TestP33NoFares(t *testing.T) {
	for _, list := range notFares() {
		for _, f := range list[:min(len(list), 5)] {
			if _, ok := fareRuleOf(f); ok {
				continue
			}
			for _, n := range tripNumbers() {
				if price, code := impl.FareOf(f, n[0], n[1], n[2]); price != 0 || code != impl.CodeName {
					t.Errorf("%v: %d %d", f, price, code)
				}
			}
		}
	}
}

// No price is kept for another fare, or for other numbers.
func TestP33NothingIsKept(t *testing.T) {
	for range 3 {
		for n := range 5 {
			a, _ := impl.FareOf(fare("a", 0, "mul(legs,10)"), n, 1, 1)
			b, _ := impl.FareOf(fare("a", 0, "mul(seats,100)"), n, n+1, 1)
			if a != 10*n || b != 100*(n+1) {
				t.Errorf("%d: %d, %d", n, a, b)
			}
		}
		if _, code := impl.FareOf(fare("", 0, "mul(legs,10)"), 1, 1, 1); code != impl.CodeName {
			t.Error("a fare without a name")
		}
		if _, code := impl.FareOf(fare("a", 3, "mul(legs,10)"), 1, 1, 1); code != impl.CodeName {
			t.Error("a fare of no class")
		}
	}
}

func TestP34Shares(t *testing.T) {
	times := [][]int{{1}, {9999}, {2, 4}, {4, 2}, {1, 1, 1}, {9999, 9999, 9999}, {1, 9999, 1}, {3, 3, 4}, {7, 2, 5}, {0, 1}, {5, 0, 5}}
	for _, list := range append(times, weightLists()...) {
		for _, amount := range totals() {
			shares := impl.FareShares(amount, list)
			if !slices.Equal(shares, impl.MoneyShare(amount, list)) || amount >= 0 && !slices.Equal(shares, sharesOf(amount, list)) {
				t.Fatalf("%d by %v: %v", amount, list, shares)
			}
			together := 0
			for i, share := range shares {
				together += share
				for j := range list {
					if amount >= 0 && list[i] > list[j] && share < shares[j] {
						t.Errorf("%d by %v: %v", amount, list, shares)
					}
				}
			}
			if together != amount {
				t.Errorf("%d by %v: %v are %d", amount, list, shares, together)
			}
		}
	}
}

func TestP34KnownShares(t *testing.T) {
	for i, c := range []struct {
		amount int
		times  []int
		want   []int
	}{
		{160, []int{2, 4}, []int{53, 107}}, {100, []int{1, 1, 1}, []int{34, 33, 33}}, {1, []int{1, 2}, []int{0, 1}}, {0, []int{3, 4}, []int{0, 0}}, {-5, []int{0, 3, 4}, []int{0, -2, -3}}, {impl.MoneyMax, []int{9999}, []int{impl.MoneyMax}},
		{5, nil, nil}, {5, []int{}, nil}, {5, []int{0, 0}, nil}, {5, []int{1, -1}, nil}, {5, []int{-1}, nil}, {5, []int{impl.PartMax + 1}, nil}, {5, []int{impl.PartMax, 1}, nil}, {5, []int{1, 1, 1, 1, 1, 1, 1, 1, 1}, nil}, {impl.MoneyMax + 1, []int{1}, nil}, {-impl.MoneyMax - 1, []int{1}, nil}, {ends[0], []int{1}, nil}, {ends[5], []int{1}, nil}, {5, []int{ends[5], ends[5]}, nil}, {5, []int{ends[0], ends[5]}, nil},
	} {
		if got := impl.FareShares(c.amount, c.times); !slices.Equal(got, c.want) {
			t.Errorf("case %d: %v", i, got)
		}
	}
	given := []int{2, 4, 55}[:2]
	got := impl.FareShares(160, given)
	spoilNumbers(got)
	if !slices.Equal(given[:3], []int{2, 4, 55}) {
		t.Error("times are changed")
	}
}

func TestP35Least(t *testing.T) {
	for _, list := range fareLists() {
		for i, class := range append([]int{0, 1, 2, -1, 3}, ends...) {
			count := 3
			if i < 3 {
				count = len(tripNumbers())
			}
			for _, n := range tripNumbers()[:count] {
				name := impl.FareLeast(list, class, n[0], n[1], n[2])
				if name != leastOf(list, class, n[0], n[1], n[2]) {
					t.Errorf("%v, class %d, %v: %q", list, class, n, name)
				}
			}
		}
	}
	for i, list := range notFares() {
		for _, class := range []int{0, 2, 3} {
			if name := impl.FareLeast(list, class, 1, 1, 1); name != "" {
				t.Errorf("fares %d: %q", i, name)
			}
		}
	}
}

func TestP35NoneIsLess(t *testing.T) {
	for _, list := range fareLists() {
		for class := range 3 {
			for _, n := range tripNumbers()[:8] {
				name := impl.FareLeast(list, class, n[0], n[1], n[2])
				place := slices.IndexFunc(list, func(f impl.Fare) bool { return f.Name == name })
				if place >= 0 && list[place].Class > class || place < 0 && name != "" {
					t.Errorf("%v, class %d: %q", list, class, name)
				}
				for _, f := range list {
					price, code := impl.FareOf(f, n[0], n[1], n[2])
					if f.Class > class || code != 0 {
						continue
					}
					if place < 0 {
						t.Errorf("%v, class %d: none", list, class)
						continue
					}
					if least, fault := impl.FareOf(list[place], n[0], n[1], n[2]); fault != 0 || price < least {
						t.Errorf("%v, class %d: %q", list, class, name)
					}
				}
			}
		}
	}
}

func TestP35KnownLeast(t *testing.T) {
	list := []impl.Fare{fare("bad", 0, "-1"), fare("full", 0, "100"), fare("mid", 1, "if(time,5,40,100)"), fare("low", 2, "mul(seats,30)")}
	for i, c := range []struct {
		class, seats, time int
		want               string
	}{{0, 1, 1, "full"}, {1, 1, 1, "mid"}, {1, 1, 5, "full"}, {2, 1, 1, "low"}, {2, 2, 1, "mid"}, {2, 4, 5, "full"}, {3, 1, 1, "low"}, {-1, 1, 1, ""}, {ends[5], 0, 1, "low"}, {ends[0], 0, 1, ""}} {
		if got := impl.FareLeast(list, c.class, 1, c.seats, c.time); got != c.want {
			t.Errorf("case %d: %q", i, got)
		}
	}
	for i, c := range []struct {
		list []impl.Fare
		want string
	}{
		{nil, ""}, {[]impl.Fare{}, ""}, {[]impl.Fare{fare("a", 0, "-1")}, ""}, {[]impl.Fare{fare("b", 0, "5"), fare("a", 0, "5")}, "b"}, {[]impl.Fare{fare("b", 2, "5"), fare("a", 0, "5"), fare("c", 0, "4"), fare("d", 1, "4")}, "c"}, {[]impl.Fare{fare("a", 0, "0"), fare("b", 0, "-5")}, "a"}, {[]impl.Fare{fare("a", 0, "7"), fare("b", 0, "0")}, "b"},
		{[]impl.Fare{fare("a", 0, "1"), fare("a", 0, "2")}, ""}, {[]impl.Fare{fare("a", 0, "1"), fare("b", 2, "use")}, ""}, {[]impl.Fare{fare("a", 0, "1"), fare("b", 3, "1")}, ""}, {[]impl.Fare{fare("a", 0, "1"), fare("B", 0, "1")}, ""}, {[]impl.Fare{fare("a", 0, "1"), fare("b", 0, "1"), fare("c", 0, "1"), fare("d", 0, "1"), fare("e", 0, "1")}, ""},
	} {
		if got := impl.FareLeast(c.list, 2, 1, 1, 1); got != c.want {
			t.Errorf("list %d: %q", i, got)
		}
	}
}
