package tests

import (
	"slices"
	"strings"
	"testing"

	"loop.example/stopover/impl"
)

// places are places of nets, and such as are none.
func places() []string {
	return []string{"ams", "bru", "cdg", "dub", "a", "b", "c", "d", "e", "aaaaaaaa", "cccccccc", "zz", "", "AMS", "\x00", "\xff"}
}

func findTimes() []int {
	return append([]int{-1, 0, 1, 2, 3, 5, 6, 7, 9, 9998, 9999, 10000}, ends...)
}

func TestTripLimits(t *testing.T) {
	if impl.TripMaxLegs != 3 || impl.TripMaxSeats != 4 || impl.NetMax != 6 || impl.TripBad != 11 || impl.TripRule != 12 {
		t.Error("limits")
	}
}

func TestP36WriteAndRead(t *testing.T) {
	for _, legs := range [][]string{{"a"}, {"la"}, {"abcdefgh"}, {"la", "lb"}, {"b", "a"}, {"la", "lb", "lc"}, {"zzzzzzzz", "aaaaaaaa", "abcdefgh"}, {"low", "full", "legs"}} {
		for _, fare := range []string{"a", "low", "abcdefgh", "la", "zzzzzzzz"} {
			for seats := 1; seats <= 4; seats++ {
				trip := journey(fare, seats, legs...)
				text := impl.TripWrite(trip)
				if got, ok := impl.TripRead(text); text != tripText(trip) || !ok || !sameTrip(got, trip) {
					t.Errorf("%v: %q, read as %v", trip, text, got)
				}
			}
		}
	}
	if text := impl.TripWrite(journey("low", 2, "la", "lb")); text != "la-lb/low/2" {
		t.Errorf("%q", text)
	}
}

func checkNoTripText(t *testing.T, text string) {
	t.Helper()
	if got, ok := impl.TripRead(text); ok || !sameTrip(got, impl.Trip{}) {
		t.Errorf("%q is read: %v", text, got)
	}
}

func TestP36NoTrips(t *testing.T) {
	for _, trip := range notTrips() {
		if hasForm(trip) {
			t.Fatalf("%v has its form", trip)
		}
		if text := impl.TripWrite(trip); text != "" {
			t.Errorf("%v: %q", trip, text)
		}
		if _, ok := plainTrip(tripText(trip)); !ok {
			checkNoTripText(t, tripText(trip))
		}
	}
}

func TestP36NoTexts(t *testing.T) {
	for _, text := range []string{
		"", "/", "//", "la", "la/", "la/low", "la/low/", "la//1", "/low/1", "la/low/0", "la/low/5", "la/low/01", "la/low/+1", "la/low/-1", "la/low/-0", "la/low/1 ", " la/low/1", "la/low/1\n", "la/low/1/", "la/low/1x", "la/low/11", "la/low/x", "la/low/１", "la/low/18446744073709551617",
		"la-/low/1", "-la/low/1", "la--lb/low/1", "la-la/low/1", "la-lb-la/low/1", "la-lb-lb/low/1", "la-lb-lc-ld/low/1", "la lb/low/1", "la,lb/low/1", "la-lb/low", "la-lb/low/2/2", "la-lb-/low/2", "LA/low/1", "la/LOW/1", "la/low-x/1", "l1/low/1", "la/l1/1", "abcdefghi/low/1", "la/abcdefghi/1", "é/low/1", "la/é/1", "\x00/low/1", "la\x00/low/1", "\xff/low/1",
		strings.Repeat("a-", 100000) + "a/low/1", strings.Repeat("a", 100000) + "/low/1", "la/low/" + strings.Repeat("1", 100000), strings.Repeat("/", 100000), filled(100000), allBytes(),
	} {
		checkNoTripText(t, text)
	}
}

func TestP36WhatIsReadIsWritten(t *testing.T) {
	for _, text := range []string{"la-lb/low/2", "a-b-c/abcdefgh/4", "abcdefgh/a/1"} {
		for _, changed := range changesOf(text) {
			want, wantOk := plainTrip(changed)
			got, ok := impl.TripRead(changed)
			if ok != wantOk || !sameTrip(got, want) || ok && impl.TripWrite(got) != changed {
				t.Errorf("%q: %v %v, not %v %v", changed, got, ok, want, wantOk)
			}
		}
	}
}

func TestP36NewMemory(t *testing.T) {
	first, _ := impl.TripRead("la-lb-lc/low/2")
	for i := range first.Legs[:cap(first.Legs)] {
		first.Legs[:cap(first.Legs)][i] = "changed"
	}
	if second, _ := impl.TripRead("la-lb-lc/low/2"); impl.TripWrite(second) != "la-lb-lc/low/2" {
		t.Errorf("%v", second)
	}
}

func TestP37Nets(t *testing.T) {
	fares := fareLists()[3]
	for _, net := range nets() {
		if !impl.NetOk(net) {
			t.Errorf("%v is not ok", net)
		}
	}
	for i, net := range notNets() {
		if fineNet(net) {
			t.Fatalf("net %d is ok", i)
		}
		if impl.NetOk(net) {
			t.Errorf("net %d is ok", i)
		}
		if impl.TripOk(net, journey("low", 1, "la")) || len(impl.TripFind(net, "ams", "cdg", 0)) != 0 {
			t.Errorf("net %d has trips", i)
		}
		if ops, price, code := impl.TripOps(net, fares, journey("low", 1, "la")); len(ops) != 0 || price != 0 || code != impl.TripBad {
			t.Errorf("net %d: %v %d %d", i, ops, price, code)
		}
	}
	for _, l := range notLegs() {
		if impl.NetOk([]impl.Leg{l}) || impl.NetOk([]impl.Leg{flight("zz", "x", "y", 1, 2, 1, 1, 1), l}) {
			t.Errorf("%v is a net", l)
		}
	}
	// What is held of a leg, and the same places and times twice, are no fault of a net.
	held := holding(flight("la", "ams", "bru", 1, 3, 9, 9, 9), hold(1, 0, 1))
	twin := held
	twin.Name = "lb"
	if !impl.NetOk([]impl.Leg{held, twin}) {
		t.Error("a net of which something is held")
	}
}

func TestP37Trips(t *testing.T) {
	made := 0
	for _, net := range nets() {
		for _, trip := range tripsIn(net, "low", 1+len(net)%4) {
			_, want := wayOf(net, trip)
			if got := impl.TripOk(net, trip); got != want {
				t.Errorf("%v in %v: %v", trip, net, got)
			}
			if !want {
				continue
			}
			made++
			for size := 1; size < len(trip.Legs); size++ {
				if !impl.TripOk(net, journey(trip.Fare, trip.Seats, trip.Legs[:size]...)) {
					t.Errorf("the beginning of %v", trip)
				}
			}
		}
	}
	if made < 300 {
		t.Errorf("only %d trips can be made", made)
	}
}

func TestP37KnownTrips(t *testing.T) {
	net := knownNet()
	for legs, ok := range map[string]bool{
		"la": true, "lb": true, "la-lb": true, "lc-ld": true, "lc-ld-lf": true, "lc-le": true, "la-lb-le": true, "lf-le": true, "ld-lf-le": true,
		"lb-la": false, "la-ld": false, "lc-la": false, "lb-ld": false, "ld-lc": false, "la-lc": false, "zz": false, "la-zz": false, "zz-la": false, "lc-ld-la": false, "la-lb-ld": false, "la-lb-lc": false, "la-la": false,
	} {
		if got := impl.TripOk(net, journey("low", 1, strings.Split(legs, "-")...)); got != ok {
			t.Errorf("%s: %v", legs, got)
		}
	}
	// A leg must begin later than the one ahead of it ended, not at the same time.
	for dep, ok := range map[int]bool{2: false, 3: false, 4: true} {
		pair := []impl.Leg{flight("la", "ams", "bru", 1, 3, 1, 1, 1), flight("lb", "bru", "cdg", dep, 9, 1, 1, 1)}
		if impl.TripOk(pair, journey("low", 1, "la", "lb")) != ok {
			t.Errorf("from %d on: %v", dep, !ok)
		}
	}
	// The fare need not be there, nor any seats be free.
	full := []impl.Leg{sold(flight("la", "ams", "bru", 1, 3, 1, 0, 0), 1, 0, 0)}
	if !impl.TripOk(full, journey("none", 4, "la")) {
		t.Error("a full leg")
	}
}

func TestP37NoTrips(t *testing.T) {
	fares := fareLists()[3]
	for _, trip := range notTrips() {
		for _, net := range [][]impl.Leg{knownNet(), nil} {
			if impl.TripOk(net, trip) {
				t.Errorf("%v can be made", trip)
			}
			if ops, price, code := impl.TripOps(net, fares, trip); len(ops) != 0 || price != 0 || code != impl.TripBad {
				t.Errorf("%v: %v %d %d", trip, ops, price, code)
			}
		}
	}
	for seats := range 6 {
		if impl.TripOk(knownNet(), journey("low", seats, "la")) != (1 <= seats && seats <= 4) {
			t.Errorf("%d seats", seats)
		}
	}
	if impl.TripOk(nil, journey("low", 1, "la")) {
		t.Error("a trip in no net")
	}
}

func TestP38Ways(t *testing.T) {
	for _, net := range nets() {
		for _, from := range places() {
			for _, to := range places() {
				for _, at := range findTimes() {
					if got, want := impl.TripFind(net, from, to, at), waysOf(net, from, to, at); !slices.Equal(got, want) {
						t.Errorf("%v, %s to %s from %d on: %v, not %v", net, from, to, at, got, want)
					}
				}
			}
		}
	}
}

func TestP38EachCanBeMade(t *testing.T) {
	for _, net := range nets() {
		for _, l := range net {
			for _, m := range net {
				ways := impl.TripFind(net, l.From, m.To, 0)
				for _, way := range ways {
					trip, ok := impl.TripRead(way + "/low/1")
					if !ok || !impl.TripOk(net, trip) {
						t.Errorf("%q cannot be made", way)
					}
				}
				if namesTwin(ways) {
					t.Errorf("told twice: %v", ways)
				}
			}
			for _, at := range []int{0, l.Dep - 1, l.Dep, l.Dep + 1} {
				if slices.Contains(impl.TripFind(net, l.From, l.To, at), l.Name) != (at <= l.Dep) {
					t.Errorf("%s from %d on", l.Name, at)
				}
			}
		}
	}
}

func TestP38KnownWays(t *testing.T) {
	for i, c := range []struct {
		from, to string
		at       int
		want     string
	}{
		// Each way ends where it comes to its end first: none goes on from cdg by ld and lf, to come back.
		{"ams", "cdg", 0, "la-lb lc lf"}, {"ams", "cdg", 1, "la-lb lc lf"}, {"ams", "cdg", 2, "lc lf"}, {"ams", "cdg", 3, "lf"}, {"ams", "cdg", 7, "lf"}, {"ams", "cdg", 8, ""},
		// To dub they may come by ams again; by four legs none is.
		{"ams", "dub", 0, "la-lb-le lc-le lf-le"}, {"cdg", "dub", 0, "ld-lf-le le"}, {"cdg", "dub", 6, "le"}, {"bru", "dub", 0, "lb-le"},
		// Round trips.
		{"ams", "ams", 0, "lc-ld"}, {"cdg", "cdg", 0, "ld-lf"}, {"bru", "bru", 0, ""}, {"bru", "ams", 0, ""}, {"dub", "ams", 0, ""}, {"zz", "cdg", 0, ""}, {"ams", "zz", 0, ""}, {"", "", 0, ""},
		{"ams", "bru", ends[0], "la"}, {"ams", "bru", 2, ""}, {"ams", "bru", ends[5], ""}, {"cdg", "ams", -1, "ld"},
	} {
		if got := strings.Join(impl.TripFind(knownNet(), c.from, c.to, c.at), " "); got != c.want {
			t.Errorf("case %d: %q, not %q", i, got, c.want)
		}
	}
	// In the order of the net, not of the names or times.
	net := knownNet()
	slices.Reverse(net)
	if got := strings.Join(impl.TripFind(net, "ams", "cdg", 0), " "); got != "lf lc la-lb" {
		t.Errorf("%q", got)
	}
	row := nets()[6]
	if len(row) != 6 || !slices.Equal(impl.TripFind(row, "a", "d", 0), []string{"la-lb-lc"}) || len(impl.TripFind(row, "a", "e", 0)) != 0 {
		t.Error("more than three legs, or fewer")
	}
	if len(impl.TripFind(nets()[5], "ams", "dub", 0)) != 8 || len(impl.TripFind(nil, "ams", "dub", 0)) != 0 {
		t.Error("eight ways, or none")
	}
}

// A leg goes on later than the one ahead of it ended, and from any time on that is not ahead of the first one.
func TestP38Times(t *testing.T) {
	for dep, want := range map[int]string{4: "", 5: "", 6: "la-lb"} {
		net := []impl.Leg{flight("la", "ams", "bru", 3, 5, 1, 1, 1), flight("lb", "bru", "cdg", dep, 9999, 1, 1, 1)}
		if got := strings.Join(impl.TripFind(net, "ams", "cdg", 3), " "); got != want {
			t.Errorf("from %d on: %q", dep, got)
		}
	}
	last := []impl.Leg{flight("la", "ams", "bru", 9998, 9999, 1, 1, 1), flight("lb", "ams", "cdg", 0, 1, 1, 1, 1)}
	if !slices.Equal(impl.TripFind(last, "ams", "bru", 9998), []string{"la"}) || len(impl.TripFind(last, "ams", "bru", 9999)) != 0 || !slices.Equal(impl.TripFind(last, "ams", "cdg", 0), []string{"lb"}) {
		t.Error("the last time")
	}
}

func TestP38NewMemory(t *testing.T) {
	net := knownNet()
	for i := range net {
		net[i] = roomyLeg(net[i])
	}
	first := impl.TripFind(net, "ams", "cdg", 0)
	for i := range first[:cap(first)] {
		first[:cap(first)][i] = "changed"
	}
	if second := impl.TripFind(net, "ams", "cdg", 0); !slices.Equal(second, []string{"la-lb", "lc", "lf"}) || !slices.EqualFunc(net, knownNet(), sameLeg) {
		t.Errorf("%v", second)
	}
}

func TestP39WhoGoesLater(t *testing.T) {
	for _, net := range nets() {
		for _, from := range places()[:9] {
			for _, to := range places()[:9] {
				ahead := impl.TripFind(net, from, to, ends[0])
				for at := range 20 {
					ways := impl.TripFind(net, from, to, at)
					// What is told still is in the order in which it was.
					rest := ahead
					for _, way := range ways {
						place := slices.Index(rest, way)
						if place < 0 {
							t.Errorf("%v, %s to %s from %d on: %v, and ahead %v", net, from, to, at, ways, ahead)
							break
						}
						rest = rest[place+1:]
					}
					ahead = ways
				}
				if len(ahead) != 0 || len(impl.TripFind(net, from, to, ends[5])) != 0 {
					t.Errorf("at the end: %v", ahead)
				}
			}
		}
	}
}

func TestP40Ops(t *testing.T) {
	lists, codes := fareLists(), map[int]int{}
	for i, net := range nets() {
		fares := lists[(i*7)%len(lists)]
		name := "none"
		if len(fares) > 0 {
			name = fares[i%len(fares)].Name
		}
		for _, trip := range tripsIn(net, name, 1+i%4) {
			want, wantPrice, wantCode := opsOf(net, fares, trip)
			ops, price, code := impl.TripOps(net, fares, trip)
			if !slices.Equal(ops, want) || price != wantPrice || code != wantCode {
				t.Errorf("%v by %v: %v %d %d, not %v %d %d", trip, fares, ops, price, code, want, wantPrice, wantCode)
			}
			codes[code]++
		}
	}
	if codes[0] < 100 || codes[11] < 100 || codes[12] < 10 {
		t.Error(codes)
	}
}

func TestP40SameSeatsAndAllShares(t *testing.T) {
	lists := fareLists()[:40]
	for _, net := range nets()[:12] {
		for _, fares := range lists {
			for _, f := range fares {
				for _, trip := range tripsIn(net, f.Name, 3) {
					ops, price, code := impl.TripOps(net, fares, trip)
					if !impl.TripOk(net, trip) || code != 0 {
						if len(ops) != 0 || price != 0 || code == 0 {
							t.Errorf("%v: %v %d", trip, ops, price)
						}
						continue
					}
					together := 0
					for i, op := range ops {
						together += op.Share
						if op.Leg != trip.Legs[i] || op.Class != f.Class || op.Seats != 3 || op.Share < 0 {
							t.Errorf("%v: %v", trip, ops)
						}
					}
					if len(ops) != len(trip.Legs) || together != price {
						t.Errorf("%v: %v are %d", trip, ops, price)
					}
				}
			}
		}
	}
}

func TestP40KnownOps(t *testing.T) {
	net := []impl.Leg{flight("la", "ams", "bru", 1, 3, 2, 2, 1), flight("lb", "bru", "cdg", 5, 9, 3, 2, 0), flight("lc", "cdg", "dub", 10, 9999, 3, 2, 0)}
	fares := []impl.Fare{fare("full", 0, "mul(legs,500)"), fare("low", 1, "tiers(time;0:30,5:10)"), fare("sum", 2, "add(mul(legs,1000),add(mul(seats,100),time))"), fare("none", 2, "if(legs,3,0,-1)")}
	for i, c := range []struct {
		trip  string
		ops   []impl.Op
		price int
	}{
		{"la/full/1", []impl.Op{{Leg: "la", Class: 0, Seats: 1, Share: 500}}, 500},
		{"la-lb/low/2", []impl.Op{{Leg: "la", Class: 1, Seats: 2, Share: 53}, {Leg: "lb", Class: 1, Seats: 2, Share: 107}}, 160},
		{"lb/sum/4", []impl.Op{{Leg: "lb", Class: 2, Seats: 4, Share: 1404}}, 1404},
		{"la-lb/sum/3", []impl.Op{{Leg: "la", Class: 2, Seats: 3, Share: 769}, {Leg: "lb", Class: 2, Seats: 3, Share: 1537}}, 2306},
		{"la-lb/none/1", []impl.Op{{Leg: "la", Class: 2, Seats: 1}, {Leg: "lb", Class: 2, Seats: 1}}, 0},
		{"la-lb-lc/sum/1", []impl.Op{{Leg: "la", Class: 2, Seats: 1, Share: 3}, {Leg: "lb", Class: 2, Seats: 1, Share: 5}, {Leg: "lc", Class: 2, Seats: 1, Share: 13087}}, 13095},
	} {
		trip, _ := impl.TripRead(c.trip)
		ops, price, code := impl.TripOps(net, fares, trip)
		if !slices.Equal(ops, c.ops) || price != c.price || code != 0 {
			t.Errorf("case %d: %v %d %d", i, ops, price, code)
		}
	}
	// Neither seats that are not there, nor what is held, nor what a seat is worth matters.
	full := slices.Clone(net)
	full[0] = worth(holding(sold(full[0], 1, 0, 0), hold(9, 0, 1)), 1000000000)
	if ops, price, code := impl.TripOps(full, fares, journey("full", 4, "la")); len(ops) != 1 || price != 500 || code != 0 {
		t.Errorf("a full leg: %v %d %d", ops, price, code)
	}
}

func TestP40Codes(t *testing.T) {
	net := knownNet()
	fares := []impl.Fare{fare("low", 1, "10"), fare("bad", 0, "sub(1,legs)"), fare("big", 0, "mul(1000000000,mul(legs,1000))"), fare("part", 2, "part(1,1,sub(seats,2))")}
	for i, c := range []struct {
		net   []impl.Leg
		fares []impl.Fare
		trip  impl.Trip
		code  int
	}{
		{net, fares, journey("low", 1, "la", "lb"), 0}, {net, fares, journey("bad", 1, "la"), 0}, {net, fares, journey("bad", 1, "la", "lb"), 12}, {net, fares, journey("big", 1, "la"), 0}, {net, fares, journey("big", 1, "la", "lb"), 12}, {net, fares, journey("part", 2, "la"), 12}, {net, fares, journey("part", 3, "la"), 0}, {net, fares, journey("part", 1, "la"), 12},
		{net, fares, journey("none", 1, "la"), 11}, {net, fares, journey("lo", 1, "la"), 11}, {net, fares, journey("", 1, "la"), 11}, {net, nil, journey("low", 1, "la"), 11}, {nil, fares, journey("low", 1, "la"), 11}, {net, fares, journey("low", 1, "zz"), 11}, {net, fares, journey("low", 1, "lb", "la"), 11}, {net, fares, journey("low", 0, "la"), 11}, {net, fares, journey("low", 5, "la"), 11}, {net, fares, journey("bad", 1, "lb", "la"), 11}, {net, fares, impl.Trip{}, 11},
		{net, append(slices.Clone(fares), fare("more", 0, "1")), journey("low", 1, "la"), 11}, {net, append(slices.Clone(fares[:3]), fare("low", 0, "1")), journey("low", 1, "la"), 11}, {net, append(slices.Clone(fares[:3]), fare("more", 0, "use")), journey("low", 1, "la"), 11}, {net, append(slices.Clone(fares[:3]), fare("more", 3, "1")), journey("bad", 1, "la", "lb"), 11},
		{append(slices.Clone(net), flight("lg", "x", "y", 1, 2, 1, 1, 1)), fares, journey("low", 1, "la"), 11}, {append(slices.Clone(net[:3]), impl.Leg{}), fares, journey("low", 1, "la"), 11}, {append(slices.Clone(net[:3]), net[0]), fares, journey("low", 1, "la"), 11},
	} {
		ops, price, code := impl.TripOps(c.net, c.fares, c.trip)
		if code != c.code || code != 0 && (len(ops) != 0 || price != 0) || code == 0 && len(ops) != len(c.trip.Legs) {
			t.Errorf("case %d: %v %d %d", i, ops, price, code)
		}
	}
	for i, list := range notFares() {
		if ops, price, code := impl.TripOps(net, list, journey("a", 1, "la")); len(ops) != 0 || price != 0 || code != impl.TripBad {
			t.Errorf("fares %d: %v %d %d", i, ops, price, code)
		}
	}
}

func TestP40NothingIsWrittenIntoArguments(t *testing.T) {
	net := knownNet()
	for i := range net {
		net[i] = roomyLeg(net[i])
	}
	given := append(slices.Clone(net), flight("behind", "x", "y", 1, 2, 1, 1, 1))[:len(net)]
	for _, legs := range [][]string{{"la", "lb", "le"}, {"lc"}, {"lb", "la"}} {
		trip := journey("low", 2, append(slices.Clone(legs), "behind", "behind")[:len(legs)]...)
		ops, _, _ := impl.TripOps(given, fareLists()[3], trip)
		for i := range ops[:cap(ops)] {
			ops[:cap(ops)][i] = impl.Op{Leg: "changed"}
		}
		impl.TripOk(given, trip)
		impl.TripWrite(trip)
		impl.NetOk(given)
		impl.TripFind(given, "ams", "cdg", 0)
		if !slices.Equal(trip.Legs, legs) || trip.Legs[:len(legs)+2][len(legs)] != "behind" || trip.Legs[:len(legs)+2][len(legs)+1] != "behind" {
			t.Errorf("%v is changed", trip.Legs)
		}
	}
	if !slices.EqualFunc(given, knownNet(), sameLeg) || given[:7][6].Name != "behind" {
		t.Error("the net is changed")
	}
	for _, l := range given {
		if !legStays(l) {
			t.Errorf("%v is changed", l)
		}
	}
}
