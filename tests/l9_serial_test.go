package tests

import (
	"slices"
	"strings"
	"testing"

	"loop.example/stopover/impl"
)

func TestSerialLimits(t *testing.T) {
	if impl.SaleMax != 30 || impl.SaleDone != 0 || impl.SaleBad != 21 || impl.SaleFull != 22 || impl.SaleNone != 23 {
		t.Error("limits")
	}
}

// checkSell sells, and checks what comes of it.
func checkSell(t *testing.T, s impl.Serial, req int, trip impl.Trip) int {
	t.Helper()
	want, wantCode := sellIn(s, req, trip)
	got, code := impl.SerialSell(s, req, trip)
	if code != wantCode || !sameSerial(got, want) {
		t.Errorf("%v for %d: %v %d, not %v %d", trip, req, got, code, want, wantCode)
		return code
	}
	if !impl.SerialOk(got) {
		t.Errorf("%v for %d: the machine is not ok", trip, req)
	}
	if len(got.Sales) == len(s.Sales) {
		if !sameSerial(got, s) {
			t.Errorf("%v for %d, which was not sold: %v", trip, req, got)
		}
		return code
	}
	class := s.Fares[slices.IndexFunc(s.Fares, func(f impl.Fare) bool { return f.Name == trip.Fare })].Class
	for i, l := range s.Net {
		l = legCopy(l)
		if slices.Contains(trip.Legs, l.Name) {
			l.Sold[class] += trip.Seats
		}
		if !sameLeg(got.Net[i], l) {
			t.Errorf("%v for %d: %v", trip, req, got.Net[i])
		}
	}
	return code
}

func TestP42Sell(t *testing.T) {
	r := numbers{420}
	codes := map[int]int{}
	for _, s := range serials() {
		if !impl.SerialOk(s) || !fineSerial(s) {
			t.Errorf("%v is not ok", s)
		}
		for _, req := range []int{0, 1, 2, 50, 99, 100, 1 + r.below(99), 1 + r.below(99)} {
			trip := journey("full", 1, "la")
			if len(s.Net) > 0 {
				trip = r.trip(s)
			}
			codes[checkSell(t, s, req, trip)]++
		}
	}
	if codes[0] < 100 || codes[11] < 50 || codes[12] < 10 || codes[21] < 50 || codes[22] < 50 {
		t.Error(codes)
	}
}

func TestP42KnownSales(t *testing.T) {
	s := knownSerial()
	for i, c := range []struct {
		req  int
		trip string
		code int
		sold string
	}{
		{1, "la-lb/full/2", 0, "2,0,0 2,0,0 0,0,0"}, {2, "la/full/1", 22, "2,0,0 2,0,0 0,0,0"}, {2, "lb/full/2", 22, "2,0,0 2,0,0 0,0,0"}, {2, "lb/low/2", 22, "2,0,0 2,0,0 0,0,0"}, {2, "lb/low/1", 0, "2,0,0 2,1,0 0,0,0"},
		{4, "lc/none/1", 0, "2,0,0 2,1,0 0,0,1"}, {5, "lc/full/1", 22, "2,0,0 2,1,0 0,0,1"}, {5, "la-lb/none/1", 12, "2,0,0 2,1,0 0,0,1"}, {5, "lb-la/full/1", 11, "2,0,0 2,1,0 0,0,1"}, {5, "lc/zz/1", 11, "2,0,0 2,1,0 0,0,1"},
	} {
		trip, _ := impl.TripRead(c.trip)
		got, code := impl.SerialSell(s, c.req, trip)
		var soldText []string
		for _, l := range got.Net {
			soldText = append(soldText, commas(l.Sold))
		}
		if code != c.code || strings.Join(soldText, " ") != c.sold {
			t.Errorf("case %d: %d, %v", i, code, soldText)
		}
		s = got
	}
	want := []impl.Sale{saleOf(1, "la-lb/full/2", 1000, false), saleOf(2, "lb/low/1", 100, false), saleOf(4, "lc/none/1", 0, false)}
	if !slices.EqualFunc(s.Sales, want, sameSale) {
		t.Errorf("%v", s.Sales)
	}
}

// Of three legs one has no seat, or one that is worth more; wherever it is, none is sold.
func TestP42AllOrNone(t *testing.T) {
	for full := range 4 {
		for _, dear := range []bool{false, true} {
			s := impl.Serial{Fares: []impl.Fare{fare("x", 1, "300")}}
			for i, text := range []string{"la", "lb", "lc"} {
				l := worth(flight(text, string(rune('a'+i)), string(rune('b'+i)), 3*i, 3*i+1, 2, 2, 2), 100)
				if i == full && dear {
					l.Bids[0] = 101
				} else if i == full {
					l.Sold[2] = 1
				}
				s.Net = append(s.Net, l)
			}
			got, code := impl.SerialSell(s, 9, journey("x", 2, "la", "lb", "lc"))
			if full < 3 && (code != 22 || !sameSerial(got, s)) || full == 3 && (code != 0 || len(got.Sales) != 1) {
				t.Errorf("leg %d: %d %v", full, code, got)
			}
			checkSell(t, s, 9, journey("x", 2, "la", "lb", "lc"))
		}
	}
}

// What a seat is worth is said by the room that its leg has ahead of the sale, for all seats of it.
func TestP42Worth(t *testing.T) {
	for bid, code := range map[int]int{0: 0, 499: 0, 500: 0, 501: 22, 1000000000: 22} {
		s := knownSerial()
		s.Net[0] = worth(s.Net[0], bid)
		s.Net[1] = worth(s.Net[1], 1000000000, 1000000000, 0)
		trip := journey("full", 2, "la")
		if got, gotCode := impl.SerialSell(s, 1, trip); gotCode != code || (len(got.Sales) == 1) != (code == 0) {
			t.Errorf("worth %d: %d", bid, gotCode)
		}
		// Only the last of three seats of lb is worth too much.
		for i, want := range []int{0, 0, 22} {
			var got int
			if s, got = impl.SerialSell(s, 10+i, journey("full", 1, "lb")); got != want {
				t.Errorf("sale %d: %d", i, got)
			}
		}
	}
}

// The codes are looked for in their order.
func TestP42CodesInOrder(t *testing.T) {
	full := wideSerial(30)
	sold, _ := plainTrip("la/one/1")
	bad, _ := plainTrip("la-lb/one/1")
	for i, c := range []struct {
		s    impl.Serial
		req  int
		trip impl.Trip
		code int
	}{
		{full, 0, bad, 21}, {full, 100, sold, 21}, {full, 99, bad, 0}, {full, 99, impl.Trip{}, 0}, {full, 70, sold, 0}, {full, 1, bad, 11}, {full, 69, sold, 22}, {wideSerial(29), 69, sold, 0}, {wideSerial(29), 71, bad, 0}, {wideSerial(29), 70, bad, 11},
		{impl.Serial{}, 0, impl.Trip{}, 21}, {impl.Serial{}, 1, impl.Trip{}, 11}, {impl.Serial{}, 99, sold, 11},
	} {
		if code := checkSell(t, c.s, c.req, c.trip); code != c.code {
			t.Errorf("case %d: %d", i, code)
		}
	}
	for _, req := range append([]int{-1, -99, 101, 1<<32 + 1}, ends...) {
		if code := checkSell(t, wideSerial(1), req, sold); code != 21 {
			t.Errorf("request %d: %d", req, code)
		}
	}
	for _, trip := range notTrips() {
		if code := checkSell(t, knownSerial(), 1, trip); code != 11 {
			t.Errorf("%v: %d", trip, code)
		}
	}
}

// Thirty sales have room, one more has not; what was given back takes room too.
func TestP42SaleLimit(t *testing.T) {
	s := wideSerial(0)
	for i := range 31 {
		trip := journey("one", 1, s.Net[i%6].Name)
		got, code := impl.SerialSell(s, 1+3*i, trip)
		if i < 30 && (code != 0 || len(got.Sales) != i+1) || i == 30 && (code != 22 || !sameSerial(got, s)) {
			t.Errorf("sale %d: %d", i, code)
		}
		if s = got; i < 30 {
			s, _ = impl.SerialBack(s, 1+3*i)
		}
	}
	if !impl.SerialOk(s) || len(s.Sales) != 30 {
		t.Errorf("%d sales", len(s.Sales))
	}
}

func TestP42NoMachines(t *testing.T) {
	trip := journey("full", 1, "la")
	for i, s := range notSerials() {
		if fineSerial(s) {
			t.Fatalf("machine %d is ok", i)
		}
		if impl.SerialOk(s) {
			t.Errorf("machine %d is ok", i)
		}
		for _, req := range []int{0, 1, 7, 99} {
			if got, code := impl.SerialSell(s, req, trip); !isNoSerial(got) || code != impl.SaleBad {
				t.Errorf("machine %d sells: %d", i, code)
			}
			if got, code := impl.SerialBack(s, req); !isNoSerial(got) || code != impl.SaleBad {
				t.Errorf("machine %d gives back: %d", i, code)
			}
		}
		for _, leg := range []string{"la", "lb", "zz", ""} {
			if earned, ok := impl.SerialEarned(s, leg); earned != 0 || ok {
				t.Errorf("machine %d earned %d", i, earned)
			}
		}
		if impl.SerialBest(s, "ams", "bru", "low", 1) != "" || impl.SerialBoard(s) != "" {
			t.Errorf("machine %d tells", i)
		}
	}
}

// What a machine that is ok may be without: what it sold more than its sales say, any order of requests.
func TestP42OtherMachines(t *testing.T) {
	s := soldSerial()
	slices.Reverse(s.Sales)
	if !impl.SerialOk(s) {
		t.Error("not ascending")
	}
	s.Net[1].Sold = []int{2, 1, 0}
	if !impl.SerialOk(s) {
		t.Error("more sold")
	}
	s.Net[1].Sold = []int{0, 0, 0}
	s.Sales[1].Back = true
	if !impl.SerialOk(s) {
		t.Error("all given back")
	}
	s.Net[0].Holds, s.Fares, s.Sales = []impl.Hold{}, []impl.Fare{}, []impl.Sale{}
	if !impl.SerialOk(s) || !impl.SerialOk(impl.Serial{}) {
		t.Error("empty lists")
	}
}

func TestP43Twice(t *testing.T) {
	r := numbers{43}
	for _, s := range serials() {
		for _, x := range s.Sales {
			trips := append([]impl.Trip{x.Trip, r.trip(s), journey("zz", 1, "la")}, notTrips()[:6]...)
			for _, trip := range trips {
				if got, code := impl.SerialSell(s, x.Req, trip); code != 0 || !sameSerial(got, s) {
					t.Errorf("%v again for %d: %d %v", trip, x.Req, code, got)
				}
			}
		}
	}
}

func TestP43TwiceBehindASale(t *testing.T) {
	r := numbers{430}
	for _, s := range serials() {
		if len(s.Net) == 0 {
			continue
		}
		trip := r.trip(s)
		once, code := impl.SerialSell(s, 77, trip)
		if code != 0 {
			continue
		}
		if twice, code := impl.SerialSell(once, 77, trip); code != 0 || !sameSerial(twice, once) {
			t.Errorf("%v twice: %d", trip, code)
		}
		back, _ := impl.SerialBack(once, 77)
		if again, code := impl.SerialSell(back, 77, trip); code != 0 || !sameSerial(again, back) {
			t.Errorf("%v when it was given back: %d", trip, code)
		}
	}
}

func TestP44Back(t *testing.T) {
	given := 0
	for _, s := range serials() {
		for _, x := range s.Sales {
			want, wantCode := backIn(s, x.Req)
			got, code := impl.SerialBack(s, x.Req)
			if code != wantCode || !sameSerial(got, want) || !impl.SerialOk(got) {
				t.Errorf("%d: %d %v, not %d %v", x.Req, code, got, wantCode, want)
			}
			if again, code := impl.SerialBack(got, x.Req); code != 0 || !sameSerial(again, got) {
				t.Errorf("%d twice: %d %v", x.Req, code, again)
			}
			given++
		}
	}
	if given < 300 {
		t.Errorf("only %d sales", given)
	}
}

func TestP44BehindASale(t *testing.T) {
	r, undone := numbers{44}, 0
	for _, s := range serials() {
		for range 5 {
			if len(s.Net) == 0 || len(s.Sales) == 30 {
				continue
			}
			trip, req := r.trip(s), 1+r.below(99)
			if saleAt(s, req) >= 0 {
				continue
			}
			sold, code := impl.SerialSell(s, req, trip)
			if code != 0 {
				continue
			}
			undone++
			back, code := impl.SerialBack(sold, req)
			if code != 0 || !slices.EqualFunc(back.Net, s.Net, sameLeg) || len(back.Sales) != len(s.Sales)+1 || !back.Sales[len(s.Sales)].Back {
				t.Errorf("%v: %d %v", trip, code, back)
			}
			// It can be sold again, by another request.
			if len(back.Sales) < 30 {
				for other := 1; ; other++ {
					if saleAt(back, other) < 0 {
						if _, code := impl.SerialSell(back, other, trip); code != 0 {
							t.Errorf("%v again: %d", trip, code)
						}
						break
					}
				}
			}
		}
	}
	if undone < 100 {
		t.Errorf("only %d sales", undone)
	}
}

func TestP44KnownBack(t *testing.T) {
	s, code := impl.SerialBack(soldSerial(), 7)
	if code != 0 || commas(s.Net[0].Sold)+" "+commas(s.Net[1].Sold)+" "+commas(s.Net[2].Sold) != "0,0,0 0,0,0 0,0,0" || !s.Sales[0].Back || !s.Sales[1].Back {
		t.Errorf("%v %d", s, code)
	}
	// A seat that is worth too much now can be given back, as it was sold.
	dear := soldSerial()
	dear.Net[0].Bids = []int{1000000000}
	if s, code := impl.SerialBack(dear, 7); code != 0 || !s.Sales[0].Back || commas(s.Net[0].Sold) != "0,0,0" {
		t.Errorf("a dear one: %v %d", s, code)
	}
}

func TestP45NeverSold(t *testing.T) {
	for _, s := range serials() {
		for _, req := range append([]int{-1, 0, 1, 2, 3, 40, 69, 70, 98, 99, 100}, ends...) {
			got, code := impl.SerialBack(s, req)
			if (code == impl.SaleNone) != (saleAt(s, req) < 0) || code != 0 && (code != impl.SaleNone || !sameSerial(got, s)) {
				t.Errorf("%d: %d %v", req, code, got)
			}
		}
	}
}

func TestP46Earned(t *testing.T) {
	for _, s := range serials() {
		paid, together := 0, 0
		for _, x := range s.Sales {
			if !x.Back {
				paid += x.Price * x.Trip.Seats
			}
		}
		for _, l := range s.Net {
			earned, ok := impl.SerialEarned(s, l.Name)
			if want := earnedIn(s, l.Name); !ok || earned != want {
				t.Errorf("%s earned %d %v, not %d", l.Name, earned, ok, want)
			}
			together += earned
		}
		if together != paid {
			t.Errorf("%v: %d, and %d were paid", s, together, paid)
		}
		for _, text := range []string{"", "zz", "l", "LA", "la ", "\x00", "\xff", allBytes(), filled(100000)} {
			if earned, ok := impl.SerialEarned(s, text); earned != 0 || ok {
				t.Errorf("%q earned %d", text, earned)
			}
		}
	}
}

func TestP46KnownEarned(t *testing.T) {
	s := knownSerial()
	s.Fares = append(s.Fares, fare("dear", 0, "mul(1000000000,1000)"))
	for i, c := range []struct {
		req        int
		trip       string
		la, lb, lc int
	}{
		{1, "la-lb/full/2", 666, 1334, 0}, {2, "lb/low/1", 666, 1434, 0}, {3, "lc/none/1", 666, 1434, 0}, {1, "", 0, 100, 0}, {2, "", 0, 0, 0}, {4, "la/dear/2", 2000000000000, 0, 0}, {5, "lb/dear/3", 2000000000000, 3000000000000, 0}, {4, "", 0, 3000000000000, 0},
	} {
		var code int
		if trip, sells := impl.TripRead(c.trip); sells {
			s, code = impl.SerialSell(s, c.req, trip)
		} else {
			s, code = impl.SerialBack(s, c.req)
		}
		a, _ := impl.SerialEarned(s, "la")
		b, _ := impl.SerialEarned(s, "lb")
		if d, ok := impl.SerialEarned(s, "lc"); code != 0 || !ok || a != c.la || b != c.lb || d != c.lc {
			t.Errorf("case %d: %d %d %d %d", i, code, a, b, d)
		}
	}
}

func TestP47Best(t *testing.T) {
	told, r := 0, numbers{47}
	for _, s := range serials() {
		names := []string{"zz", ""}
		for _, f := range s.Fares {
			names = append(names, f.Name)
		}
		for _, from := range places()[:4] {
			for _, to := range places()[:4] {
				for _, text := range names {
					seats := 1 + r.below(4)
					want := bestIn(s, from, to, text, seats)
					if got := impl.SerialBest(s, from, to, text, seats); got != want {
						t.Errorf("%s to %s, %s/%d by %v: %q, not %q", from, to, text, seats, s, got, want)
					}
					if want != "" {
						told++
					}
				}
			}
		}
	}
	if told < 300 {
		t.Errorf("only %d ways", told)
	}
}

// What is told can be sold, and what can be sold costs no less.
func TestP47CanBeSold(t *testing.T) {
	told := 0
	for _, s := range serials() {
		if len(s.Sales) == 30 {
			continue
		}
		req := 1
		for saleAt(s, req) >= 0 {
			req++
		}
		for _, f := range s.Fares {
			best := impl.SerialBest(s, "ams", "cdg", f.Name, 1)
			trip, ok := impl.TripRead(best + "/" + f.Name + "/1")
			_, least, _ := impl.TripOps(s.Net, s.Fares, trip)
			if _, code := impl.SerialSell(s, req, trip); ok && code != 0 {
				t.Errorf("%q cannot be sold: %d", best, code)
			}
			for _, way := range impl.TripFind(s.Net, "ams", "cdg", 0) {
				trip, _ := impl.TripRead(way + "/" + f.Name + "/1")
				after, code := impl.SerialSell(s, req, trip)
				if code == 0 && (!ok || after.Sales[len(s.Sales)].Price < least) {
					t.Errorf("%q costs less than %q", way, best)
				}
				told++
			}
		}
	}
	if told < 100 {
		t.Errorf("only %d ways", told)
	}
}

func TestP47KnownBest(t *testing.T) {
	s := knownSerial()
	s.Fares = append(s.Fares, fare("time", 0, "mul(time,10)"))
	dear := serialCopy(s)
	dear.Net[2] = worth(dear.Net[2], 1000)
	later := serialCopy(s)
	later.Net = append(later.Net, flight("ld", "ams", "cdg", 0, 4, 9, 9, 9))
	for i, c := range []struct {
		s     impl.Serial
		fare  string
		seats int
		want  string
	}{
		// By one fare the way of one leg costs less; by another one all cost the same, and the first is told.
		{s, "full", 1, "lc"}, {s, "full", 2, "la-lb"}, {s, "full", 3, ""}, {s, "low", 1, "la-lb"}, {s, "low", 2, ""}, {s, "none", 1, "lc"}, {s, "none", 2, ""}, {s, "time", 1, "lc"}, {s, "time", 2, "la-lb"},
		{dear, "full", 1, "la-lb"}, {dear, "low", 1, "la-lb"}, {dear, "none", 1, ""}, {later, "time", 1, "lc"}, {later, "time", 2, "ld"}, {later, "full", 1, "lc"}, {later, "full", 4, "ld"}, {later, "low", 1, "la-lb"}, {later, "none", 4, "ld"},
		{s, "full", 0, ""}, {s, "full", 5, ""}, {s, "full", -1, ""}, {s, "full", ends[0], ""}, {s, "full", ends[5], ""}, {s, "zz", 1, ""}, {s, "", 1, ""}, {s, "full/1", 1, ""}, {s, "FULL", 1, ""}, {s, allBytes(), 1, ""},
	} {
		if got := impl.SerialBest(c.s, "ams", "cdg", c.fare, c.seats); got != c.want {
			t.Errorf("case %d: %q", i, got)
		}
	}
	for _, pair := range [][2]string{{"", ""}, {"cdg", "ams"}, {"ams", "ams"}, {"zz", "cdg"}, {"ams", "\xff"}, {allBytes(), "cdg"}} {
		if got := impl.SerialBest(s, pair[0], pair[1], "full", 1); got != "" {
			t.Errorf("%q: %q", pair, got)
		}
	}
}

// A way is told even where there is no room for a sale, but not where there are no seats.
func TestP47NoRoomForASale(t *testing.T) {
	s := wideSerial(30)
	if got := impl.SerialBest(s, "x", "y", "one", 4); got != "la" {
		t.Errorf("%q", got)
	}
	for i := range 5 {
		s.Net[i].Sold[0] = 9
	}
	if got := impl.SerialBest(s, "x", "y", "one", 4); got != "lf" {
		t.Errorf("%q", got)
	}
	s.Net[5].Sold[0] = 6
	if got := impl.SerialBest(s, "x", "y", "one", 4); got != "" {
		t.Errorf("%q", got)
	}
}

func TestP48Board(t *testing.T) {
	for _, s := range serials() {
		board := impl.SerialBoard(s)
		if want := boardOf(s); board != want {
			t.Errorf("%q, not %q", board, want)
		}
		if strings.Count(board, "\n") != len(s.Net)+len(s.Sales) {
			t.Errorf("%q", board)
		}
	}
}

func TestP48KnownBoard(t *testing.T) {
	s := knownSerial()
	s.Fares = append(s.Fares, fare("dear", 0, "mul(1000000000,1000)"))
	for i, text := range []string{"la-lb/full/1", "lb/dear/2", "la/low/1", "lc/none/1"} {
		trip, _ := impl.TripRead(text)
		s, _ = impl.SerialSell(s, 9-i, trip)
	}
	s, _ = impl.SerialBack(s, 7)
	want := "la ams bru 1 3 2,2,1 1,0,0 0 earned 3.33\nlb bru cdg 5 9 3,1,0 3,0,0 0 earned 20000000006.67\nlc ams cdg 2 6 1,1,1 0,0,1 0 earned 0.00\n" +
		"sale 9 la-lb/full/1 at 10.00\nsale 8 lb/dear/2 at 10000000000.00\nsale 7 la/low/1 at 1.00 back\nsale 6 lc/none/1 at 0.00\n"
	if board := impl.SerialBoard(s); board != want {
		t.Errorf("%q", board)
	}
	if impl.SerialBoard(impl.Serial{}) != "" {
		t.Error("nothing")
	}
}

func TestP42Memory(t *testing.T) {
	for what, act := range map[string]func(s impl.Serial, trip impl.Trip) impl.Serial{
		"sell":       func(s impl.Serial, trip impl.Trip) impl.Serial { got, _ := impl.SerialSell(s, 5, trip); return got },
		"sell again": func(s impl.Serial, trip impl.Trip) impl.Serial { got, _ := impl.SerialSell(s, 7, trip); return got },
		"sell to 0":  func(s impl.Serial, trip impl.Trip) impl.Serial { got, _ := impl.SerialSell(s, 0, trip); return got },
		"sell none": func(s impl.Serial, trip impl.Trip) impl.Serial {
			got, _ := impl.SerialSell(s, 5, impl.Trip{})
			return got
		},
		"full": func(s impl.Serial, trip impl.Trip) impl.Serial {
			got, _ := impl.SerialSell(s, 5, journey("full", 1, "la"))
			return got
		},
		"back":       func(s impl.Serial, trip impl.Trip) impl.Serial { got, _ := impl.SerialBack(s, 7); return got },
		"back again": func(s impl.Serial, trip impl.Trip) impl.Serial { got, _ := impl.SerialBack(s, 3); return got },
		"back none":  func(s impl.Serial, trip impl.Trip) impl.Serial { got, _ := impl.SerialBack(s, 5); return got },
		"no answer": func(s impl.Serial, trip impl.Trip) impl.Serial {
			impl.SerialOk(s)
			impl.SerialEarned(s, "la")
			impl.SerialBest(s, "ams", "cdg", "full", 1)
			impl.SerialBoard(s)
			return impl.Serial{}
		},
	} {
		s, trip := withRoom(soldSerial()), withRoom(journey("full", 1, "lc"))
		sAhead, tripAhead := whole(s), whole(trip)
		got := act(s, trip)
		checkStays(t, what, s, sAhead)
		checkStays(t, what, trip, tripAhead)
		checkApart(t, what, got, s, trip)
	}
}
