package tests

import (
	"regexp"
	"slices"
	"strconv"
	"strings"

	"loop.example/stopover/impl"
)

// The words of chapter 6 a second time, to hold the program's answers against.

// flight is a leg of which nothing is sold; its seats are the first limit.
func flight(name string, from string, to string, dep int, arr int, limits ...int) impl.Leg {
	return impl.Leg{Name: name, From: from, To: to, Dep: dep, Arr: arr, Cap: limits[0], Limits: limits, Sold: []int{0, 0, 0}, Bids: []int{0}}
}

// sold is a leg of which so much of each class is sold.
func sold(l impl.Leg, seats ...int) impl.Leg {
	l.Sold = seats
	return l
}

func worth(l impl.Leg, bids ...int) impl.Leg {
	l.Bids = bids
	return l
}

func holding(l impl.Leg, holds ...impl.Hold) impl.Leg {
	l.Holds = holds
	return l
}

func hold(txn int, class int, seats int) impl.Hold {
	return impl.Hold{Txn: txn, Class: class, Seats: seats}
}

func legCopy(l impl.Leg) impl.Leg {
	l.Limits, l.Sold, l.Bids, l.Holds = slices.Clone(l.Limits), slices.Clone(l.Sold), slices.Clone(l.Bids), slices.Clone(l.Holds)
	return l
}

func sameLeg(a impl.Leg, b impl.Leg) bool {
	plain := a.Name == b.Name && a.From == b.From && a.To == b.To && a.Dep == b.Dep && a.Arr == b.Arr && a.Cap == b.Cap
	return plain && slices.Equal(a.Limits, b.Limits) && slices.Equal(a.Sold, b.Sold) && slices.Equal(a.Bids, b.Bids) && slices.Equal(a.Holds, b.Holds)
}

func isNoLeg(l impl.Leg) bool {
	return sameLeg(l, impl.Leg{})
}

// sinks says whether no number is above the one ahead of it.
func sinks(list []int) bool {
	return slices.IsSortedFunc(list, func(a int, b int) int { return b - a })
}

// fineLeg says whether a leg is ok.
func fineLeg(l impl.Leg) bool {
	for _, text := range []string{l.Name, l.From, l.To} {
		if !nameForm.MatchString(text) {
			return false
		}
	}
	if l.From == l.To || l.Dep < 0 || l.Arr > 9999 || l.Dep >= l.Arr || l.Cap < 1 || l.Cap > 9 {
		return false
	}
	if len(l.Limits) != 3 || len(l.Sold) != 3 || len(l.Bids) < 1 || len(l.Bids) > 4 || len(l.Holds) > 6 {
		return false
	}
	if slices.Min(l.Limits) < 0 || slices.Min(l.Sold) < 0 || slices.Min(l.Bids) < 0 || slices.Max(l.Limits) > 9 || slices.Max(l.Sold) > l.Cap || slices.Max(l.Bids) > 1000000000 {
		return false
	}
	return l.Limits[0] == l.Cap && sinks(l.Limits) && sinks(l.Bids) && fineHolds(l) && slices.Min(freeOf(l)) >= 0 && slices.Min(stillOf(l)) >= 0
}

func fineHolds(l impl.Leg) bool {
	last := 0
	for _, h := range l.Holds {
		if h.Txn <= last || h.Txn > 99 || h.Class < 0 || h.Class > 2 || h.Seats == 0 || h.Seats < -l.Cap || h.Seats > l.Cap {
			return false
		}
		last = h.Txn
	}
	return true
}

// freeOf is what is left of each limit, as each seat takes one of its class, and of each better one.
func freeOf(l impl.Leg) []int {
	free := slices.Clone(l.Limits)
	take := func(class int, seats int) {
		for better := 0; better <= class; better++ {
			free[better] -= seats
		}
	}
	for class, seats := range l.Sold {
		take(class, seats)
	}
	for _, h := range l.Holds {
		if h.Seats > 0 {
			take(h.Class, h.Seats)
		}
	}
	return free
}

// stillOf is what is sold of each class when all is given back.
func stillOf(l impl.Leg) []int {
	still := slices.Clone(l.Sold)
	for _, h := range l.Holds {
		if h.Seats < 0 {
			still[h.Class] += h.Seats
		}
	}
	return still
}

// roomOf is the room of a class of a leg that is ok.
func roomOf(l impl.Leg, class int) int {
	if class < 0 || class > 2 {
		return 0
	}
	return slices.Min(freeOf(l)[:class+1])
}

// bidOf is what the next seat of a leg that is ok is worth.
func bidOf(l impl.Leg) int {
	if room := roomOf(l, 0); room < len(l.Bids) {
		return l.Bids[room]
	}
	return l.Bids[len(l.Bids)-1]
}

// holdIn holds, if the leg is ok then, and the share is enough.
func holdIn(l impl.Leg, h impl.Hold, share int) (impl.Leg, bool) {
	with := legCopy(l)
	with.Holds = append(with.Holds, h)
	slices.SortStableFunc(with.Holds, func(a impl.Hold, b impl.Hold) int {
		if a.Txn < b.Txn {
			return -1
		}
		return 1
	})
	if !fineLeg(with) || h.Seats > 0 && share < bidOf(l) {
		return l, false
	}
	return with, true
}

// withoutIn is a leg without what is held for txn, and that.
func withoutIn(l impl.Leg, txn int) (impl.Leg, []impl.Hold) {
	l = legCopy(l)
	var out []impl.Hold
	l.Holds = slices.DeleteFunc(l.Holds, func(h impl.Hold) bool {
		if h.Txn == txn {
			out = append(out, h)
		}
		return h.Txn == txn
	})
	return l, out
}

func keepIn(l impl.Leg, txn int) impl.Leg {
	l, out := withoutIn(l, txn)
	for _, h := range out {
		l.Sold[h.Class] += h.Seats
	}
	return l
}

// commas writes numbers with commas between.
func commas(list []int) string {
	words := make([]string, len(list))
	for i, n := range list {
		words[i] = strconv.Itoa(n)
	}
	return strings.Join(words, ",")
}

// legText writes a leg, whether it is ok or not.
func legText(l impl.Leg) string {
	return l.Name + " " + l.From + " " + l.To + " " + strconv.Itoa(l.Dep) + " " + strconv.Itoa(l.Arr) + " " + commas(l.Limits) + " " + commas(l.Sold) + " " + commas(l.Bids)
}

var legForm = regexp.MustCompile(`^([a-z]{1,8}) ([a-z]{1,8}) ([a-z]{1,8}) (0|[1-9]\d{0,3}) (0|[1-9]\d{0,3}) ((?:\d,){2}\d) ((?:\d,){2}\d) ((?:(?:0|[1-9]\d{0,9}),){0,3}(?:0|[1-9]\d{0,9}))$`)

// plainLeg says which leg a text is, and whether it is one.
func plainLeg(text string) (impl.Leg, bool) {
	words := legForm.FindStringSubmatch(text)
	if words == nil {
		return impl.Leg{}, false
	}
	numbers := func(word string) []int {
		var list []int
		for figures := range strings.SplitSeq(word, ",") {
			n, _ := strconv.Atoi(figures)
			list = append(list, n)
		}
		return list
	}
	l := impl.Leg{Name: words[1], From: words[2], To: words[3], Dep: numbers(words[4])[0], Arr: numbers(words[5])[0], Limits: numbers(words[6]), Sold: numbers(words[7]), Bids: numbers(words[8])}
	l.Cap = l.Limits[0]
	if !fineLeg(l) {
		return impl.Leg{}, false
	}
	return l, true
}

// leg is any leg, which may have too much sold or held.
func (r *numbers) leg() impl.Leg {
	seats := 1 + r.below(9)
	second := seats - r.below(seats+1)*r.below(2)
	third := second - r.below(second+1)*r.below(2)
	dep := anyOf(r, 0, 1, 5, 100, 9990, 9998, r.below(9999))
	l := flight(anyOf(r, "a", "la", "abcdefgh"), anyOf(r, "ams", "bru", "zzzzzzzz"), anyOf(r, "cdg", "z"), dep, min(9999, dep+1+r.below(10)), seats, second, third)
	for class := range l.Sold {
		l.Sold[class] = r.below(1+seats) * r.below(3) / 3
	}
	l.Bids[0] = anyOf(r, 0, 1, 500, 1000000000)
	for range r.below(4) {
		l.Bids = append(l.Bids, r.below(l.Bids[len(l.Bids)-1]+1))
	}
	for txn := range r.below(7) {
		l.Holds = append(l.Holds, hold(1+txn*16+r.below(3), r.below(3), anyOf(r, -2, -1, -1, 1, 1, 2)))
	}
	return l
}

// legList is legs that are ok: those at limits, and any others.
func legList() []impl.Leg {
	full := flight("abcdefgh", "zzzzzzzz", "zzzzzzza", 9998, 9999, 9, 9, 9)
	list := []impl.Leg{
		flight("a", "b", "c", 0, 1, 1, 0, 0), flight("a", "a", "b", 0, 9999, 1, 1, 1), worth(sold(full, 3, 3, 3), 1000000000, 1000000000, 1000000000, 1000000000), worth(full, 0, 0, 0, 0), worth(full, 1000000000, 1, 0),
		sold(flight("a", "b", "c", 1, 3, 9, 0, 0), 9, 0, 0), sold(full, 0, 0, 9), sold(full, 0, 9, 0), sold(flight("a", "b", "c", 1, 3, 5, 3, 1), 2, 2, 1), sold(flight("a", "b", "c", 1, 3, 5, 3, 1), 0, 2, 1), sold(flight("a", "b", "c", 1, 3, 5, 3, 1), 4, 0, 0),
		holding(full, hold(1, 0, 1), hold(2, 1, 1), hold(50, 2, 2), hold(51, 0, 1), hold(98, 1, 1), hold(99, 2, 1)), holding(full, hold(99, 2, 9)), holding(full, hold(1, 0, 9)), holding(sold(full, 9, 0, 0), hold(5, 0, -9)), holding(sold(full, 0, 0, 9), hold(5, 2, -9)),
		holding(sold(full, 2, 2, 2), hold(1, 0, -1), hold(2, 1, -1), hold(3, 2, -1), hold(4, 0, -1), hold(5, 1, -1), hold(6, 2, -1)),
		holding(sold(flight("a", "b", "c", 1, 3, 4, 3, 1), 1, 1, 0), hold(1, 0, -1), hold(2, 1, -1), hold(3, 2, 1), hold(4, 0, 1)), worth(holding(sold(flight("a", "b", "c", 1, 3, 2, 2, 2), 1, 0, 0), hold(7, 0, 1), hold(9, 0, -1)), 30, 20, 10),
	}
	r := numbers{24}
	for len(list) < 400 {
		if l := r.leg(); fineLeg(l) {
			list = append(list, l)
		}
	}
	return list
}

// notLegs are legs that are not ok, each for one reason.
func notLegs() []impl.Leg {
	var list []impl.Leg
	but := func(change func(l *impl.Leg)) {
		l := holding(sold(worth(flight("la", "ams", "bru", 5, 9, 6, 4, 2), 30, 20, 10), 1, 1, 1), hold(3, 0, 1), hold(7, 1, 1), hold(8, 2, -1))
		change(&l)
		list = append(list, l)
	}
	for _, text := range []string{"", "A", "a1", "a b", "a-b", "abcdefghi", "é", "\x00", "\xff", "a\n", "a/", allBytes(), filled(100000)} {
		but(func(l *impl.Leg) { l.Name = text })
		but(func(l *impl.Leg) { l.From = text })
		but(func(l *impl.Leg) { l.To = text })
	}
	but(func(l *impl.Leg) { l.From = "bru" })
	but(func(l *impl.Leg) { l.To = "ams" })
	for _, n := range append([]int{-1, 9, 10, 9999, 10000}, ends...) {
		but(func(l *impl.Leg) { l.Dep = n })
	}
	for _, n := range append([]int{-1, 0, 4, 5, 10000}, ends...) {
		but(func(l *impl.Leg) { l.Arr = n })
	}
	but(func(l *impl.Leg) { l.Dep, l.Arr = 9999, 9999 })
	but(func(l *impl.Leg) { l.Dep, l.Arr = 9999, 10000 })
	but(func(l *impl.Leg) { l.Dep, l.Arr = 0, 0 })
	but(func(l *impl.Leg) { l.Dep, l.Arr = -1, 1 })
	but(func(l *impl.Leg) { l.Dep, l.Arr = ends[5], ends[5] })
	but(func(l *impl.Leg) { l.Dep, l.Arr = ends[5], ends[0] })
	return append(append(append(list, notSeats()...), notBids()...), notHolds()...)
}

// notSeats are legs whose seats, limits or sales are not ok.
func notSeats() []impl.Leg {
	var list []impl.Leg
	but := func(change func(l *impl.Leg)) {
		l := sold(flight("la", "ams", "bru", 5, 9, 6, 4, 2), 1, 1, 1)
		change(&l)
		list = append(list, l)
	}
	for _, n := range append([]int{-6, -1, 0, 1, 5, 7, 9, 10}, ends...) {
		but(func(l *impl.Leg) { l.Cap = n })
		but(func(l *impl.Leg) { l.Limits[0] = n })
	}
	for _, n := range append([]int{-1, 0, 10, 100}, ends...) {
		but(func(l *impl.Leg) { l.Cap, l.Limits = n, []int{n, n, n} })
		but(func(l *impl.Leg) { l.Cap, l.Limits, l.Sold = n, []int{n, 0, 0}, []int{0, 0, 0} })
	}
	for _, n := range append([]int{-1, 0, 5, 6, 7}, ends...) {
		but(func(l *impl.Leg) { l.Limits[2] = n })
	}
	for _, n := range append([]int{-1, 0, 1, 7}, ends...) {
		but(func(l *impl.Leg) { l.Limits[1] = n })
	}
	for _, n := range append([]int{-1}, ends[:3]...) {
		but(func(l *impl.Leg) { l.Limits, l.Sold = []int{6, 6, n}, []int{0, 0, 0} })
		but(func(l *impl.Leg) { l.Limits, l.Sold = []int{6, n, n}, []int{0, 0, 0} })
	}
	for _, n := range append([]int{-1, 5, 6, 7}, ends...) {
		for class := range 3 {
			but(func(l *impl.Leg) { l.Sold[class] = n })
		}
	}
	// Two that wrap around to what would fit.
	but(func(l *impl.Leg) { l.Sold = []int{ends[0], ends[0], 1} })
	but(func(l *impl.Leg) { l.Sold = []int{1, ends[5], ends[0]} })
	but(func(l *impl.Leg) { l.Sold = []int{-1, 2, 1} })
	for _, seats := range [][]int{nil, {}, {1}, {1, 1}, {1, 1, 0, 0}, {0, 0, 0, 0}, {4, 1, 2}, {1, 3, 2}, {1, 1, 3}, {1, 0, 3}, {0, 5, 0}, {7, 0, 0}, {3, 3, 1}, {5, 2, 0}} {
		but(func(l *impl.Leg) { l.Sold = seats })
	}
	for _, limits := range [][]int{nil, {}, {6}, {6, 4}, {6, 4, 2, 1}, {6, 4, 2, 0}, {4, 6, 2}, {6, 2, 4}, {6, 7, 2}, {5, 4, 2}, {6, 4, 0}, {6, 1, 1}, {6, 1, 0}} {
		but(func(l *impl.Leg) { l.Limits = limits })
	}
	return list
}

// notBids are legs whose worths are not ok.
func notBids() []impl.Leg {
	var list []impl.Leg
	for _, bids := range [][]int{nil, {}, {-1}, {1, -1}, {5, 6}, {5, 5, 6}, {5, 4, 3, 4}, {1000000001}, {1000000001, 1}, {5, 4, 3, 2, 1}, {0, 0, 0, 0, 0}, {0, 1}} {
		list = append(list, worth(flight("la", "ams", "bru", 5, 9, 6, 4, 2), bids...))
	}
	for _, n := range ends {
		list = append(list, worth(flight("la", "ams", "bru", 5, 9, 6, 4, 2), n), worth(flight("la", "ams", "bru", 5, 9, 6, 4, 2), 1, n), worth(flight("la", "ams", "bru", 5, 9, 6, 4, 2), 1000000000, n, n))
	}
	return list
}

// notHolds are legs of which what is held is not ok.
func notHolds() []impl.Leg {
	base := sold(flight("la", "ams", "bru", 5, 9, 6, 4, 2), 1, 1, 1)
	seven := []impl.Hold{hold(1, 0, 1), hold(2, 0, 1), hold(3, 0, 1), hold(4, 0, -1), hold(5, 1, -1), hold(6, 2, -1), hold(7, 0, -1)}
	list := []impl.Leg{
		holding(flight("la", "ams", "bru", 5, 9, 9, 9, 9), hold(1, 0, 1), hold(2, 0, 1), hold(3, 0, 1), hold(4, 0, 1), hold(5, 0, 1), hold(6, 0, 1), hold(7, 0, 1)), holding(sold(base, 2, 1, 1), seven...),
		holding(base, hold(3, 0, 1), hold(3, 1, 1)), holding(base, hold(3, 0, 1), hold(2, 1, 1)), holding(base, hold(1, 0, 1), hold(3, 0, 1), hold(2, 1, 1)), holding(base, hold(0, 0, 1)), holding(base, hold(-1, 0, 1)), holding(base, hold(100, 0, 1)), holding(base, hold(99, 0, 1), hold(100, 0, 1)), holding(base, impl.Hold{}),
		holding(base, hold(1, 0, 0)), holding(base, hold(1, -1, 1)), holding(base, hold(1, 3, 1)), holding(base, hold(1, -1, -1)), holding(base, hold(1, 3, -1)), holding(base, hold(1, 0, 7)), holding(base, hold(1, 0, -7)), holding(base, hold(1, 0, 6)), holding(base, hold(1, 0, -6)),
		holding(base, hold(1, 0, 4)), holding(base, hold(1, 1, 3)), holding(base, hold(1, 2, 2)), holding(base, hold(1, 0, 2), hold(2, 1, 1), hold(3, 2, 1)), holding(base, hold(1, 1, 2), hold(2, 2, 1)), holding(base, hold(1, 0, -2)), holding(base, hold(1, 1, -2)), holding(base, hold(1, 2, -2)), holding(base, hold(1, 0, -1), hold(2, 0, -1)), holding(base, hold(1, 2, -1), hold(2, 2, -1)),
		// What is to be given back is not to be had yet, and what is held is not to be given back yet.
		holding(sold(base, 3, 1, 2), hold(1, 0, -1), hold(2, 0, 1)), holding(sold(base, 0, 0, 0), hold(1, 0, 1), hold(2, 0, -1)), holding(sold(base, 0, 0, 0), hold(1, 0, -1), hold(2, 0, 1)), holding(sold(base, 1, 0, 0), hold(1, 1, -1)), holding(sold(base, 0, 0, 1), hold(1, 1, -1)), holding(sold(base, 0, 1, 0), hold(1, 2, -1)),
	}
	for _, n := range ends {
		list = append(list, holding(base, hold(n, 0, 1)), holding(base, hold(1, n, 1)), holding(base, hold(1, 0, n)), holding(base, hold(1, 2, n)), holding(base, hold(1, 0, n), hold(2, 0, n)))
	}
	return list
}

// spoilLeg writes over all lists of a leg, spare room included.
func spoilLeg(l impl.Leg) {
	for _, list := range [][]int{l.Limits, l.Sold, l.Bids} {
		spoilNumbers(list)
	}
	for i := range l.Holds[:cap(l.Holds)] {
		l.Holds[:cap(l.Holds)][i] = hold(77, 7, 77)
	}
}

func spoilNumbers(list []int) {
	for i := range list[:cap(list)] {
		list[:cap(list)][i] = 77
	}
}

// roomyLeg is a leg whose lists all have spare room, in which something stands.
func roomyLeg(l impl.Leg) impl.Leg {
	l.Limits, l.Sold, l.Bids = roomyNumbers(l.Limits), roomyNumbers(l.Sold), roomyNumbers(l.Bids)
	l.Holds = append(slices.Clone(l.Holds), hold(55, 5, 55), hold(55, 5, 55))[:len(l.Holds)]
	return l
}

func roomyNumbers(list []int) []int {
	return append(slices.Clone(list), 55, 55)[:len(list)]
}

// legStays says whether that still stands there.
func legStays(l impl.Leg) bool {
	for _, list := range [][]int{l.Limits, l.Sold, l.Bids} {
		if !slices.Equal(list[len(list):len(list)+2], []int{55, 55}) {
			return false
		}
	}
	return slices.Equal(l.Holds[len(l.Holds):len(l.Holds)+2], []impl.Hold{hold(55, 5, 55), hold(55, 5, 55)})
}
