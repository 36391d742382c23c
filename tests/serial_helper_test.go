package tests

import (
	"fmt"
	"slices"
	"strconv"
	"strings"

	"loop.example/stopover/impl"
)

// The words of chapter 9 a second time, to hold the program's answers against.

func saleOf(req int, text string, price int, back bool) impl.Sale {
	trip, _ := plainTrip(text)
	return impl.Sale{Req: req, Trip: trip, Price: price, Back: back}
}

func sameSale(a impl.Sale, b impl.Sale) bool {
	return a.Req == b.Req && sameTrip(a.Trip, b.Trip) && a.Price == b.Price && a.Back == b.Back
}

func sameSerial(a impl.Serial, b impl.Serial) bool {
	return slices.EqualFunc(a.Net, b.Net, sameLeg) && slices.Equal(a.Fares, b.Fares) && slices.EqualFunc(a.Sales, b.Sales, sameSale)
}

func isNoSerial(s impl.Serial) bool {
	return sameSerial(s, impl.Serial{})
}

func netCopy(net []impl.Leg) []impl.Leg {
	net = slices.Clone(net)
	for i, l := range net {
		net[i] = legCopy(l)
	}
	return net
}

func serialCopy(s impl.Serial) impl.Serial {
	s.Net, s.Fares, s.Sales = netCopy(s.Net), slices.Clone(s.Fares), slices.Clone(s.Sales)
	for i, x := range s.Sales {
		s.Sales[i].Trip.Legs = slices.Clone(x.Trip.Legs)
	}
	return s
}

func legAt(net []impl.Leg, text string) int {
	return slices.IndexFunc(net, func(l impl.Leg) bool { return l.Name == text })
}

func saleAt(s impl.Serial, req int) int {
	return slices.IndexFunc(s.Sales, func(x impl.Sale) bool { return x.Req == req })
}

func holdsNone(net []impl.Leg) bool {
	return !slices.ContainsFunc(net, func(l impl.Leg) bool { return len(l.Holds) > 0 })
}

// fineSerial says whether a machine is ok.
func fineSerial(s impl.Serial) bool {
	if len(s.Sales) > 30 || !fineNet(s.Net) || !fineFares(s.Fares) || !holdsNone(s.Net) {
		return false
	}
	seen := map[int]bool{}
	need := map[string]int{}
	for _, x := range s.Sales {
		ops, price, code := opsOf(s.Net, s.Fares, x.Trip)
		if x.Req < 1 || x.Req > 99 || seen[x.Req] || code != 0 || price != x.Price {
			return false
		}
		seen[x.Req] = true
		for _, op := range ops {
			if !x.Back {
				need[op.Leg+strconv.Itoa(op.Class)] += op.Seats
			}
		}
	}
	for _, l := range s.Net {
		for class, seats := range l.Sold {
			if need[l.Name+strconv.Itoa(class)] > seats {
				return false
			}
		}
	}
	return true
}

// sellIn is a machine that sold a trip, if it can, and the code.
func sellIn(s impl.Serial, req int, trip impl.Trip) (impl.Serial, int) {
	if !fineSerial(s) {
		return impl.Serial{}, 21
	}
	if req < 1 || req > 99 {
		return s, 21
	}
	if saleAt(s, req) >= 0 {
		return s, 0
	}
	ops, price, code := opsOf(s.Net, s.Fares, trip)
	if code != 0 {
		return s, code
	}
	after := serialCopy(s)
	for _, op := range ops {
		l := after.Net[legAt(after.Net, op.Leg)]
		if op.Seats > roomOf(l, op.Class) || op.Share < bidOf(l) {
			return s, 22
		}
		l.Sold[op.Class] += op.Seats
	}
	after.Sales = append(after.Sales, impl.Sale{Req: req, Trip: trip, Price: price})
	if len(after.Sales) > 30 {
		return s, 22
	}
	return after, 0
}

// backIn is a machine that gave back what it sold, if it did, and the code.
func backIn(s impl.Serial, req int) (impl.Serial, int) {
	if !fineSerial(s) {
		return impl.Serial{}, 21
	}
	place := saleAt(s, req)
	if place < 0 {
		return s, 23
	}
	if s.Sales[place].Back {
		return s, 0
	}
	after := serialCopy(s)
	after.Sales[place].Back = true
	ops, _, _ := opsOf(s.Net, s.Fares, s.Sales[place].Trip)
	for _, op := range ops {
		after.Net[legAt(after.Net, op.Leg)].Sold[op.Class] -= op.Seats
	}
	return after, 0
}

// earnedIn is what a leg of a machine that is ok has earned.
func earnedIn(s impl.Serial, leg string) int {
	earned := 0
	for _, x := range s.Sales {
		ops, _, _ := opsOf(s.Net, s.Fares, x.Trip)
		for _, op := range ops {
			if op.Leg == leg && !x.Back {
				earned += op.Share * op.Seats
			}
		}
	}
	return earned
}

// bestIn is the cheapest way that a machine could sell, had it room for one more sale.
func bestIn(s impl.Serial, from string, to string, fare string, seats int) string {
	if !fineSerial(s) {
		return ""
	}
	s.Sales = nil
	var ways []string
	prices := map[string]int{}
	for _, way := range waysOf(s.Net, from, to, 0) {
		after, code := sellIn(s, 1, journey(fare, seats, strings.Split(way, "-")...))
		if code == 0 {
			ways = append(ways, way)
			prices[way] = after.Sales[0].Price
		}
	}
	slices.SortStableFunc(ways, func(a string, b string) int { return prices[a] - prices[b] })
	return strings.Join(ways[:min(1, len(ways))], "")
}

// centsText writes cents that are not below 0.
func centsText(n int) string {
	return fmt.Sprintf("%d.%02d", n/100, n%100)
}

func boardOf(s impl.Serial) string {
	if !fineSerial(s) {
		return ""
	}
	board := ""
	for _, l := range s.Net {
		board += legText(l) + " earned " + centsText(earnedIn(s, l.Name)) + "\n"
	}
	for _, x := range s.Sales {
		board += "sale " + strconv.Itoa(x.Req) + " " + tripText(x.Trip) + " at " + centsText(x.Price)
		if x.Back {
			board += " back"
		}
		board += "\n"
	}
	return board
}

// knownSerial is a machine of three legs that sold nothing.
func knownSerial() impl.Serial {
	return impl.Serial{
		Net:   []impl.Leg{flight("la", "ams", "bru", 1, 3, 2, 2, 1), flight("lb", "bru", "cdg", 5, 9, 3, 1, 0), flight("lc", "ams", "cdg", 2, 6, 1, 1, 1)},
		Fares: []impl.Fare{fare("full", 0, "mul(legs,500)"), fare("low", 1, "100"), fare("none", 2, "sub(1,legs)")},
	}
}

// wideSerial is a machine of six legs of nine seats between two places, of which so many were sold one by one.
func wideSerial(sales int) impl.Serial {
	s := impl.Serial{Fares: []impl.Fare{fare("one", 0, "1"), fare("dear", 1, "mul(1000000000,1000)")}}
	for i := range 6 {
		s.Net = append(s.Net, flight("l"+string(rune('a'+i)), "x", "y", 1, 3, 9, 9, 9))
	}
	for i := range sales {
		s.Net[i%6].Sold[0]++
		s.Sales = append(s.Sales, saleOf(99-i, s.Net[i%6].Name+"/one/1", 1, false))
	}
	return s
}

// trader is any machine, behind some sales.
func (r *numbers) trader(lists [][]impl.Fare) impl.Serial {
	s := impl.Serial{Net: r.net(1 + r.below(6)), Fares: lists[r.below(len(lists))]}
	for i, l := range s.Net {
		l.Holds = nil
		l.Bids = anyOf(r, []int{0}, []int{0}, []int{100}, []int{500, 100}, []int{30, 20, 10}, []int{1000000000, 0})
		if r.below(2) > 0 {
			l.Sold = []int{0, 0, 0}
		}
		s.Net[i] = l
	}
	for range 4 + r.below(12) {
		s, _ = sellIn(s, 1+r.below(99), r.trip(s))
		if len(s.Sales) > 0 && r.below(4) == 0 {
			s, _ = backIn(s, s.Sales[r.below(len(s.Sales))].Req)
		}
	}
	return s
}

// trip is a trip over a way of a machine, or over any legs of it.
func (r *numbers) trip(s impl.Serial) impl.Trip {
	text := "none"
	if len(s.Fares) > 0 {
		text = s.Fares[r.below(len(s.Fares))].Name
	}
	first, last := s.Net[r.below(len(s.Net))], s.Net[r.below(len(s.Net))]
	ways := append(waysOf(s.Net, first.From, last.To, 0), first.Name, first.Name+"-"+last.Name)
	return journey(text, 1+r.below(4), strings.Split(ways[r.below(len(ways))], "-")...)
}

// serials are machines that are ok: none, those at limits, and any others.
func serials() []impl.Serial {
	s := knownSerial()
	list := []impl.Serial{{}, {Net: s.Net}, {Fares: s.Fares}, s, wideSerial(0), wideSerial(1), wideSerial(29), wideSerial(30)}
	for _, text := range []string{"la-lb/full/2", "lc/full/1", "lb/low/1", "la/none/2"} {
		trip, _ := plainTrip(text)
		s, _ = sellIn(s, len(s.Sales)+1, trip)
		list = append(list, s)
	}
	for _, req := range []int{2, 1} {
		s, _ = backIn(s, req)
		list = append(list, s)
	}
	// What is sold may be more than what the sales say.
	more := serialCopy(list[9])
	more.Net[1].Sold[0]++
	list = append(list, more)
	r := numbers{42}
	lists := fareLists()[:60]
	for range 150 {
		list = append(list, r.trader(lists))
	}
	return list
}

// soldSerial is a machine that sold two trips, and has one of them back.
func soldSerial() impl.Serial {
	s := knownSerial()
	s.Net[0].Sold, s.Net[1].Sold = []int{2, 0, 0}, []int{2, 0, 0}
	s.Sales = []impl.Sale{saleOf(7, "la-lb/full/2", 1000, false), saleOf(3, "lc/full/1", 500, true)}
	return s
}

// notSerials are machines that are not ok, each for one reason.
func notSerials() []impl.Serial {
	var list []impl.Serial
	but := func(change func(s *impl.Serial)) {
		s := soldSerial()
		change(&s)
		list = append(list, s)
	}
	for _, req := range append([]int{-1, 0, 100, 3}, ends...) {
		but(func(s *impl.Serial) { s.Sales[0].Req = req })
	}
	for _, req := range append([]int{-7, 0, 100, 7}, ends...) {
		but(func(s *impl.Serial) { s.Sales[1].Req = req })
	}
	for _, price := range append([]int{-1, 0, 499, 501, 1000}, ends...) {
		but(func(s *impl.Serial) { s.Sales[1].Price = price })
	}
	for _, trip := range notTrips() {
		but(func(s *impl.Serial) { s.Sales[0].Trip = trip })
		but(func(s *impl.Serial) { s.Sales[1].Trip = trip })
		// What no trip costs is 0, but that is no price.
		but(func(s *impl.Serial) { s.Sales[1].Trip, s.Sales[1].Price = trip, 0 })
	}
	for _, text := range []string{"la-lb/full/3", "la-lb/full/4", "la-lb/low/2", "la/full/2", "la-lb/none/2", "la-lb/zz/2", "lb-la/full/2", "zz/full/2", "lc/full/2"} {
		but(func(s *impl.Serial) { s.Sales[0] = saleOf(7, text, 1000, false) })
		but(func(s *impl.Serial) { s.Sales[0] = saleOf(7, text, 0, true) })
	}
	but(func(s *impl.Serial) { s.Sales[1].Back = false })
	but(func(s *impl.Serial) { s.Sales = append(s.Sales, saleOf(8, "lb/full/1", 500, false)) })
	but(func(s *impl.Serial) { s.Sales = make([]impl.Sale, 100000) })
	for class := range 2 {
		but(func(s *impl.Serial) { s.Net[1].Sold = []int{1, class, 0} })
		but(func(s *impl.Serial) { s.Net[class].Sold[0] = 1 })
		but(func(s *impl.Serial) { s.Net[class].Sold[0] = 0 })
	}
	for i := range 3 {
		but(func(s *impl.Serial) { s.Net[i].Holds = []impl.Hold{hold(5, 0, 1)} })
		but(func(s *impl.Serial) { s.Net[i].Name = s.Net[(i+1)%3].Name })
		but(func(s *impl.Serial) { s.Net = slices.Delete(s.Net, i, i+1) })
	}
	but(func(s *impl.Serial) { s.Net[0].Sold[1], s.Net[0].Holds = 0, []impl.Hold{hold(5, 0, -1)} })
	for _, net := range notNets()[:40] {
		but(func(s *impl.Serial) { s.Net, s.Sales = net, nil })
	}
	for _, fares := range notFares() {
		but(func(s *impl.Serial) { s.Fares, s.Sales = fares, nil })
	}
	return append(list, wideSerial(31))
}
