package tests

import (
	"slices"
	"strings"
	"testing"

	"loop.example/stopover/impl"
)

// checkNoLeg checks the one answer of each function at a leg that is not ok.
func checkNoLeg(t *testing.T, l impl.Leg) {
	t.Helper()
	if impl.LegOk(l) || impl.LegBid(l) != 0 || impl.LegWrite(l) != "" {
		t.Errorf("%v is ok", l)
	}
	for _, class := range append([]int{-1, 0, 1, 2, 3}, ends...) {
		if impl.LegRoom(l, class) != 0 {
			t.Errorf("%v has room", l)
		}
	}
	for _, h := range []impl.Hold{{}, hold(1, 0, 1), hold(3, 0, 1), hold(9, 0, -1), hold(99, 2, 1)} {
		if got, ok := impl.LegHold(l, h, impl.RuleMaxNum); ok || !isNoLeg(got) {
			t.Errorf("%v holds %v: %v", l, h, got)
		}
	}
	for _, txn := range append([]int{0, 1, 3, 99}, ends...) {
		if !isNoLeg(impl.LegKeep(l, txn)) || !isNoLeg(impl.LegDrop(l, txn)) {
			t.Errorf("%v is kept or dropped", l)
		}
	}
}

// checkHold holds, and checks what comes of it.
func checkHold(t *testing.T, l impl.Leg, h impl.Hold, share int) {
	t.Helper()
	want, wantOk := holdIn(l, h, share)
	got, ok := impl.LegHold(l, h, share)
	if ok != wantOk || !sameLeg(got, want) {
		t.Errorf("%v, %v for %d: %v %v, not %v", l, h, share, got, ok, want)
		return
	}
	if !ok {
		return
	}
	less := impl.LegRoom(l, h.Class) - impl.LegRoom(got, h.Class)
	if !impl.LegOk(got) || less > max(h.Seats, 0) || less < 0 || h.Seats > impl.LegRoom(l, h.Class) || !sameLeg(impl.LegDrop(got, h.Txn), l) {
		t.Errorf("%v, %v: %v, %d less", l, h, got, less)
	}
}

// holdsFor are holds for a leg: of each class, few seats and many, for transactions at the ends, and such as are there.
func holdsFor(r *numbers, l impl.Leg) []impl.Hold {
	txns := []int{0, 1, 2, 10, 50, 98, 99, 99, 100, -1, ends[0], ends[5]}
	for _, h := range l.Holds {
		txns = append(txns, h.Txn, h.Txn+1, h.Txn-1)
	}
	var list []impl.Hold
	for class := -1; class <= 3; class++ {
		for seats := -l.Cap - 1; seats <= l.Cap+1; seats++ {
			list = append(list, hold(anyOf(r, txns...), class, seats), hold(3+r.below(97), class, seats))
		}
		for _, n := range ends {
			list = append(list, hold(30, class, n), hold(30, n, class+1))
		}
	}
	return list
}

func TestLegLimits(t *testing.T) {
	if impl.LegClasses != 3 || impl.LegMaxSeats != 9 || impl.LegMaxHolds != 6 || impl.LegMaxBids != 4 || impl.TxnMax != 99 {
		t.Error("limits")
	}
}

func TestP24Hold(t *testing.T) {
	r := numbers{240}
	for _, l := range legList() {
		for _, h := range holdsFor(&r, l) {
			checkHold(t, l, h, impl.RuleMaxNum)
			checkHold(t, l, h, anyOf(&r, 0, -1, bidOf(l), bidOf(l)-1, ends[0], ends[5]))
		}
	}
}

func TestP24KnownHolds(t *testing.T) {
	l := worth(sold(flight("la", "ams", "bru", 1, 3, 6, 3, 1), 1, 1, 0), 500, 300, 100)
	l = holding(l, hold(10, 1, 1), hold(20, 0, -1), hold(30, 0, 1))
	for i, c := range []struct {
		h  impl.Hold
		ok bool
	}{
		{hold(5, 0, 2), true}, {hold(5, 0, 3), false}, {hold(5, 1, 1), true}, {hold(5, 1, 2), false}, {hold(5, 2, 1), true}, {hold(5, 2, 2), false}, {hold(1, 0, 1), true}, {hold(99, 0, 1), true}, {hold(15, 0, 1), true},
		{hold(10, 0, 1), false}, {hold(20, 0, 1), false}, {hold(30, 0, 1), false}, {hold(10, 1, -1), false}, {hold(0, 0, 1), false}, {hold(100, 0, 1), false}, {hold(5, 3, 1), false}, {hold(5, -1, 1), false}, {hold(5, 0, 0), false}, {hold(5, 0, 7), false},
		{hold(5, 0, -1), false}, {hold(5, 1, -1), true}, {hold(5, 1, -2), false}, {hold(5, 2, -1), false}, {hold(5, 1, -7), false},
	} {
		got, ok := impl.LegHold(l, c.h, 300)
		if ok != c.ok {
			t.Errorf("case %d: %v", i, ok)
		}
		if !ok && !sameLeg(got, l) || ok && (len(got.Holds) != 4 || !slices.Contains(got.Holds, c.h)) {
			t.Errorf("case %d: %v", i, got)
		}
		checkHold(t, l, c.h, 300)
	}
}

func TestP24AscendingByTxn(t *testing.T) {
	l := flight("la", "ams", "bru", 1, 3, 9, 9, 9)
	for _, txn := range []int{50, 99, 1, 60, 2, 98} {
		l, _ = impl.LegHold(l, hold(txn, txn%3, 1), 0)
	}
	want := []impl.Hold{hold(1, 1, 1), hold(2, 2, 1), hold(50, 2, 1), hold(60, 0, 1), hold(98, 2, 1), hold(99, 0, 1)}
	if !slices.Equal(l.Holds, want) {
		t.Error(l.Holds)
	}
	// Six are held; there is no room for a seventh one.
	for _, h := range []impl.Hold{hold(3, 0, 1), hold(97, 2, 1), hold(70, 1, -1)} {
		if got, ok := impl.LegHold(sold(l, 0, 1, 0), h, 0); ok || !slices.Equal(got.Holds, want) {
			t.Errorf("%v is held", h)
		}
	}
	for _, txn := range []int{1, 50, 99} {
		if _, ok := impl.LegHold(impl.LegDrop(l, txn), hold(3, 0, 1), 0); !ok {
			t.Errorf("there is room without %d", txn)
		}
	}
}

func TestP24AllSmallLegs(t *testing.T) {
	for seats := 1; seats <= 2; seats++ {
		row := seats + 3
		for i := range row * row * row * row * row {
			at := func(place int) int {
				n := i
				for range place {
					n /= row
				}
				return n%row - 1
			}
			l := sold(flight("a", "b", "c", 0, 1, seats, at(0), at(1)), at(2), at(3), at(4))
			if !fineLeg(l) {
				if impl.LegOk(l) || impl.LegWrite(l) != "" || impl.LegRoom(l, 0) != 0 {
					t.Errorf("%v is ok", l)
				}
				continue
			}
			if !impl.LegOk(l) {
				t.Errorf("%v is not ok", l)
			}
			for class := range 3 {
				for more := -seats; more <= seats; more++ {
					checkHold(t, l, hold(1, class, more), 0)
				}
			}
		}
	}
}

func TestP24NoLegs(t *testing.T) {
	for i, l := range notLegs() {
		if fineLeg(l) {
			t.Fatalf("leg %d is ok", i)
		}
		checkNoLeg(t, l)
	}
	checkNoLeg(t, impl.Leg{})
}

func TestP24SpoiledLegs(t *testing.T) {
	r := numbers{241}
	list, bad := legList(), 0
	for range 20000 {
		l := spoiledLeg(&r, legCopy(anyOf(&r, list...)))
		if fineLeg(l) != impl.LegOk(l) {
			t.Errorf("%v: %v", l, impl.LegOk(l))
		}
		if !fineLeg(l) {
			bad++
			checkNoLeg(t, l)
		}
	}
	if bad < 5000 || bad > 19000 {
		t.Errorf("%d are not ok", bad)
	}
}

// spoiledLeg is a leg in which one part is another one, which may be ok too.
func spoiledLeg(r *numbers, l impl.Leg) impl.Leg {
	n := anyOf(r, -1, 0, 1, 2, 3, 9, 10, 99, 100, 9999, 10000, ends[0], ends[5])
	switch r.below(12) {
	case 0:
		l.Name = anyOf(r, "", "b", "A", "abcdefghi", l.From)
	case 1:
		l.From = anyOf(r, "", "b", "A", "abcdefghi", l.To)
	case 2:
		l.Dep = n
	case 3:
		l.Arr = n
	case 4:
		l.Cap = n
	case 5:
		l.Limits[r.below(3)] = n
	case 6:
		l.Sold[r.below(3)] = n
	case 7:
		l.Bids[r.below(len(l.Bids))] = n
	case 8:
		l.Bids = append(l.Bids, n)
	case 9:
		l.Holds = append(l.Holds, hold(n, r.below(3), 1))
	case 10:
		l.Holds = append(l.Holds, hold(99, r.below(4), n))
	case 11:
		l.Limits, l.Sold = l.Sold, l.Limits
	}
	return l
}

func TestP24EmptyListsAreNone(t *testing.T) {
	l := flight("la", "ams", "bru", 1, 3, 4, 3, 1)
	l.Holds = []impl.Hold{}
	checkHold(t, l, hold(1, 1, 1), 0)
	if !impl.LegOk(l) || impl.LegWrite(l) != "la ams bru 1 3 4,3,1 0,0,0 0" || !sameLeg(impl.LegKeep(l, 1), l) {
		t.Error("an empty list of holds")
	}
}

// legActs are all that answers a leg, with what changes it, and what does not.
func legActs() map[string]func(l impl.Leg) impl.Leg {
	return map[string]func(l impl.Leg) impl.Leg{
		"hold":      func(l impl.Leg) impl.Leg { got, _ := impl.LegHold(l, hold(50, 0, 1), impl.RuleMaxNum); return got },
		"back":      func(l impl.Leg) impl.Leg { got, _ := impl.LegHold(l, hold(50, 0, -1), 0); return got },
		"no hold":   func(l impl.Leg) impl.Leg { got, _ := impl.LegHold(l, hold(0, 0, 1), 0); return got },
		"keep":      func(l impl.Leg) impl.Leg { return impl.LegKeep(l, 7) },
		"keep none": func(l impl.Leg) impl.Leg { return impl.LegKeep(l, 8) },
		"drop":      func(l impl.Leg) impl.Leg { return impl.LegDrop(l, 7) },
		"drop none": func(l impl.Leg) impl.Leg { return impl.LegDrop(l, 8) },
	}
}

func TestP24NewMemory(t *testing.T) {
	leg := holding(sold(worth(flight("la", "ams", "bru", 1, 3, 9, 9, 9), 3, 2, 1), 2, 1, 0), hold(7, 1, 1), hold(9, 2, 1))
	for what, act := range legActs() {
		given := roomyLeg(leg)
		got := act(given)
		want := legCopy(got)
		if !sameLeg(given, leg) || !legStays(given) {
			t.Errorf("%s writes into what it was given", what)
		}
		spoilLeg(given)
		if !sameLeg(got, want) {
			t.Errorf("%s shares what it was given", what)
		}
		given = roomyLeg(leg)
		got = act(given)
		spoilLeg(got)
		if !sameLeg(given, leg) || !legStays(given) {
			t.Errorf("%s answers what it was given", what)
		}
		for i := range 3 {
			got, want := act(leg), act(leg)
			spoilNumbers([][]int{got.Limits, got.Sold, got.Bids}[i])
			spoilNumbers([][]int{want.Limits, want.Sold, want.Bids}[i])
			if !sameLeg(got, want) {
				t.Errorf("%s: list %d shares", what, i)
			}
		}
	}
}

func TestP24NothingIsWrittenIntoArguments(t *testing.T) {
	r := numbers{242}
	for _, l := range legList() {
		given := roomyLeg(l)
		impl.LegOk(given)
		impl.LegRoom(given, 2)
		impl.LegBid(given)
		impl.LegWrite(given)
		for _, h := range holdsFor(&r, l) {
			impl.LegHold(given, h, impl.RuleMaxNum)
			impl.LegKeep(given, h.Txn)
			impl.LegDrop(given, h.Txn)
		}
		if !sameLeg(given, l) || !legStays(given) {
			t.Errorf("%v is changed", l)
		}
	}
}

// txnsFor are transactions for which something is held, and others.
func txnsFor(l impl.Leg) []int {
	txns := append([]int{-1, 0, 1, 2, 40, 99, 100}, ends...)
	for _, h := range l.Holds {
		txns = append(txns, h.Txn)
	}
	return txns
}

func seatsFor(l impl.Leg, txn int) impl.Hold {
	for _, h := range l.Holds {
		if h.Txn == txn {
			return h
		}
	}
	return impl.Hold{}
}

func TestP25Keep(t *testing.T) {
	for _, l := range legList() {
		for _, txn := range txnsFor(l) {
			got := impl.LegKeep(l, txn)
			if !sameLeg(got, keepIn(l, txn)) || !impl.LegOk(got) || seatsFor(got, txn) != (impl.Hold{}) {
				t.Errorf("%v keeps %d: %v", l, txn, got)
			}
			h := seatsFor(l, txn)
			if got.Sold[h.Class] != l.Sold[h.Class]+h.Seats {
				t.Errorf("%v keeps %d: %v", l, txn, got.Sold)
			}
			if !sameLeg(impl.LegKeep(got, txn), got) {
				t.Errorf("%v keeps %d twice", l, txn)
			}
		}
	}
}

func TestP25KeptOneByOne(t *testing.T) {
	l := holding(sold(flight("la", "ams", "bru", 1, 3, 6, 4, 2), 1, 1, 1), hold(3, 0, 2), hold(5, 1, -1), hold(8, 2, 1))
	for i, c := range []struct {
		txn   int
		sold  []int
		holds []impl.Hold
	}{
		{4, []int{1, 1, 1}, []impl.Hold{hold(3, 0, 2), hold(5, 1, -1), hold(8, 2, 1)}}, {5, []int{1, 0, 1}, []impl.Hold{hold(3, 0, 2), hold(8, 2, 1)}},
		{8, []int{1, 0, 2}, []impl.Hold{hold(3, 0, 2)}}, {8, []int{1, 0, 2}, []impl.Hold{hold(3, 0, 2)}}, {3, []int{3, 0, 2}, nil}, {3, []int{3, 0, 2}, nil}, {0, []int{3, 0, 2}, nil},
	} {
		l = impl.LegKeep(l, c.txn)
		if !slices.Equal(l.Sold, c.sold) || !slices.Equal(l.Holds, c.holds) {
			t.Errorf("case %d: %v", i, l)
		}
	}
}

// What is given back can be had again, when that is kept, and not ahead of it.
func TestP25GivenBack(t *testing.T) {
	full := sold(flight("la", "ams", "bru", 1, 3, 3, 2, 1), 1, 1, 1)
	for class := range 3 {
		back, ok := impl.LegHold(full, hold(9, class, -1), 0)
		if _, early := impl.LegHold(back, hold(10, class, 1), 0); !ok || early || impl.LegRoom(back, class) != 0 {
			t.Errorf("class %d: %v, %v", class, back, early)
		}
		if again, twice := impl.LegHold(back, hold(11, class, -1), 0); twice {
			t.Errorf("class %d is given back twice: %v", class, again)
		}
		kept := impl.LegKeep(back, 9)
		held, late := impl.LegHold(kept, hold(10, class, 1), 0)
		if !late || impl.LegRoom(kept, class) != 1 || !sameLeg(impl.LegKeep(held, 10), full) {
			t.Errorf("class %d: %v", class, held)
		}
	}
}

func TestP26Drop(t *testing.T) {
	for _, l := range legList() {
		for _, txn := range txnsFor(l) {
			want, _ := withoutIn(l, txn)
			got := impl.LegDrop(l, txn)
			if !sameLeg(got, want) || !impl.LegOk(got) || !slices.Equal(got.Sold, l.Sold) || seatsFor(got, txn) != (impl.Hold{}) {
				t.Errorf("%v drops %d: %v", l, txn, got)
			}
			if !sameLeg(impl.LegDrop(got, txn), got) || !sameLeg(impl.LegKeep(got, txn), got) {
				t.Errorf("%v drops %d twice", l, txn)
			}
		}
	}
}

func TestP26DroppedOneByOne(t *testing.T) {
	l := holding(sold(flight("la", "ams", "bru", 1, 3, 6, 4, 2), 1, 1, 1), hold(3, 0, 2), hold(5, 1, -1), hold(8, 2, 1))
	for i, c := range []struct {
		txn  int
		left []int
	}{{4, []int{3, 5, 8}}, {5, []int{3, 8}}, {5, []int{3, 8}}, {3, []int{8}}, {99, []int{8}}, {8, nil}, {8, nil}} {
		l = impl.LegDrop(l, c.txn)
		var left []int
		for _, h := range l.Holds {
			left = append(left, h.Txn)
		}
		if !slices.Equal(left, c.left) || !slices.Equal(l.Sold, []int{1, 1, 1}) {
			t.Errorf("case %d: %v", i, l)
		}
	}
}

func TestP27Room(t *testing.T) {
	for _, l := range legList() {
		ahead := l.Cap
		for class := range 3 {
			room := impl.LegRoom(l, class)
			if room != roomOf(l, class) || room < 0 || room > l.Limits[class] || room > ahead {
				t.Errorf("%v: %d of %d", l, room, class)
			}
			ahead = room
		}
		for _, class := range append([]int{-2, -1, 3, 4}, ends...) {
			if room := impl.LegRoom(l, class); room != 0 {
				t.Errorf("%v: %d of %d", l, room, class)
			}
		}
	}
}

// Lower classes are within better ones: what a lower one uses a better one has no more.
func TestP27Nested(t *testing.T) {
	base := flight("la", "ams", "bru", 1, 3, 4, 3, 1)
	for i, c := range []struct {
		l    impl.Leg
		room []int
	}{
		{base, []int{4, 3, 1}}, {sold(base, 1, 0, 0), []int{3, 3, 1}}, {sold(base, 2, 0, 0), []int{2, 2, 1}}, {sold(base, 3, 0, 0), []int{1, 1, 1}}, {sold(base, 4, 0, 0), []int{0, 0, 0}},
		{sold(base, 0, 1, 0), []int{3, 2, 1}}, {sold(base, 0, 3, 0), []int{1, 0, 0}}, {sold(base, 0, 0, 1), []int{3, 2, 0}}, {sold(base, 1, 2, 1), []int{0, 0, 0}}, {sold(base, 1, 1, 0), []int{2, 2, 1}},
		{holding(base, hold(1, 2, 1)), []int{3, 2, 0}}, {holding(base, hold(1, 1, 2)), []int{2, 1, 1}}, {holding(base, hold(1, 0, 2), hold(2, 1, 1)), []int{1, 1, 1}}, {holding(sold(base, 1, 1, 0), hold(1, 0, -1), hold(2, 1, -1)), []int{2, 2, 1}}, {holding(sold(base, 1, 1, 0), hold(1, 0, -1), hold(2, 2, 1)), []int{1, 1, 0}},
		{flight("la", "ams", "bru", 1, 3, 5, 5, 5), []int{5, 5, 5}}, {flight("la", "ams", "bru", 1, 3, 5, 0, 0), []int{5, 0, 0}}, {sold(flight("la", "ams", "bru", 1, 3, 5, 2, 2), 0, 0, 1), []int{4, 1, 1}},
	} {
		for class, room := range c.room {
			if got := impl.LegRoom(c.l, class); got != room {
				t.Errorf("case %d: %d of class %d, not %d", i, got, class, room)
			}
		}
	}
}

func TestP28Bid(t *testing.T) {
	for _, l := range legList() {
		bid := impl.LegBid(l)
		if bid != bidOf(l) || !slices.Contains(l.Bids, bid) {
			t.Errorf("%v: %d", l, bid)
		}
		if held, ok := impl.LegHold(l, hold(60, 0, 1), impl.RuleMaxNum); ok && impl.LegBid(held) < bid {
			t.Errorf("%v: %d, and then %d", l, bid, impl.LegBid(held))
		}
	}
}

func TestP28KnownBids(t *testing.T) {
	base := flight("la", "ams", "bru", 1, 3, 5, 5, 5)
	for seats, want := range []int{20, 20, 20, 30, 40, 50} {
		if got := impl.LegBid(worth(sold(base, seats, 0, 0), 50, 40, 30, 20)); got != want {
			t.Errorf("%d sold: %d, not %d", seats, got, want)
		}
	}
	bids := []int{50, 40, 30}
	for i, c := range []struct {
		l    impl.Leg
		want int
	}{
		{base, 30}, {sold(base, 0, 0, 2), 30}, {sold(base, 1, 1, 1), 30}, {sold(base, 2, 1, 1), 40}, {sold(base, 0, 4, 0), 40}, {sold(base, 5, 0, 0), 50}, {sold(base, 0, 0, 5), 50},
		{holding(sold(base, 2, 0, 0), hold(1, 2, 2)), 40}, {holding(sold(base, 4, 0, 0), hold(1, 0, -4)), 40}, {holding(base, hold(1, 0, 5)), 50},
		{flight("la", "ams", "bru", 1, 3, 1, 0, 0), 40}, {flight("la", "ams", "bru", 1, 3, 2, 0, 0), 30}, {sold(flight("la", "ams", "bru", 1, 3, 5, 1, 0), 0, 1, 0), 30},
	} {
		if got := impl.LegBid(worth(c.l, bids...)); got != c.want {
			t.Errorf("case %d: %d, not %d", i, got, c.want)
		}
	}
	if one := impl.LegBid(worth(base, 7)); one != 7 {
		t.Errorf("one worth: %d", one)
	}
}

func TestP29NotBelowItsWorth(t *testing.T) {
	r := numbers{29}
	for _, l := range legList() {
		bid := impl.LegBid(l)
		for _, h := range holdsFor(&r, l) {
			with, ok := impl.LegHold(l, h, impl.RuleMaxNum)
			if got, just := impl.LegHold(l, h, bid); just != ok || !sameLeg(got, with) {
				t.Errorf("%v, %v for %d: %v", l, h, bid, just)
			}
			for _, share := range []int{bid - 1, -1, ends[0]} {
				if got, less := impl.LegHold(l, h, share); less != (ok && h.Seats < 0) || less && !sameLeg(got, with) || !less && !sameLeg(got, l) {
					t.Errorf("%v, %v for %d: %v", l, h, share, less)
				}
			}
		}
	}
}

func TestP29Shares(t *testing.T) {
	l := worth(sold(flight("la", "ams", "bru", 1, 3, 4, 4, 4), 2, 0, 0), 500, 300, 100)
	for i, c := range []struct {
		h     impl.Hold
		share int
		ok    bool
	}{
		{hold(1, 0, 1), 100, true}, {hold(1, 0, 1), 99, false}, {hold(1, 0, 2), 100, true}, {hold(1, 2, 2), 100, true}, {hold(1, 2, 1), 99, false}, {hold(1, 0, 1), ends[5], true}, {hold(1, 0, 1), ends[0], false}, {hold(1, 0, 1), -100, false},
		{hold(1, 0, -1), 0, true}, {hold(1, 0, -2), ends[0], true}, {hold(1, 0, -1), -1, true}, {hold(1, 0, -3), ends[5], false},
	} {
		if _, ok := impl.LegHold(l, c.h, c.share); ok != c.ok {
			t.Errorf("case %d: %v", i, ok)
		}
	}
	nothing := worth(l, 0)
	if _, ok := impl.LegHold(nothing, hold(1, 0, 1), 0); !ok {
		t.Error("a seat that is worth nothing")
	}
	if _, ok := impl.LegHold(nothing, hold(1, 0, 1), -1); ok {
		t.Error("a seat for less than nothing")
	}
}

func TestP30WriteAndRead(t *testing.T) {
	for _, l := range legList() {
		text := impl.LegWrite(l)
		if !impl.LegOk(l) || text != legText(l) {
			t.Errorf("%v: %q", l, text)
		}
		if got, ok := impl.LegRead(text); !ok || !sameLeg(got, holding(l)) || impl.LegWrite(got) != text {
			t.Errorf("%q is read as %v", text, got)
		}
	}
}

func TestP30AsWritten(t *testing.T) {
	for text, l := range map[string]impl.Leg{
		"la ams bru 1 3 4,3,1 1,0,0 500,300,100":                 worth(sold(flight("la", "ams", "bru", 1, 3, 4, 3, 1), 1, 0, 0), 500, 300, 100),
		"a a b 0 1 1,0,0 0,0,0 0":                                flight("a", "a", "b", 0, 1, 1, 0, 0),
		"abcdefgh zz y 9998 9999 9,9,9 2,3,4 1000000000,0,0,0":   worth(sold(flight("abcdefgh", "zz", "y", 9998, 9999, 9, 9, 9), 2, 3, 4), 1000000000, 0, 0, 0),
		"x y z 0 9999 2,1,1 0,0,1 1000000000,1000000000,5,4":     worth(sold(flight("x", "y", "z", 0, 9999, 2, 1, 1), 0, 0, 1), 1000000000, 1000000000, 5, 4),
		"leg leg place 10 200 9,0,0 9,0,0 7,6":                   worth(sold(flight("leg", "leg", "place", 10, 200, 9, 0, 0), 9, 0, 0), 7, 6),
		"zzzzzzzz zzzzzzzz zzzzzzzy 999 1000 9,8,7 0,8,0 10,9,8": worth(sold(flight("zzzzzzzz", "zzzzzzzz", "zzzzzzzy", 999, 1000, 9, 8, 7), 0, 8, 0), 10, 9, 8),
	} {
		if got, ok := impl.LegRead(text); !ok || !sameLeg(got, l) || impl.LegWrite(l) != text {
			t.Errorf("%q: %v, %q", text, got, impl.LegWrite(l))
		}
		l = holding(l, hold(9, 0, -1))
		if l.Sold[0] > 0 && impl.LegWrite(l) != text {
			t.Errorf("%q: what is held is written: %q", text, impl.LegWrite(l))
		}
	}
}

func checkNoLegText(t *testing.T, text string) {
	t.Helper()
	if got, ok := impl.LegRead(text); ok || !isNoLeg(got) {
		t.Errorf("%q is read: %v", text, got)
	}
}

func TestP30NoTexts(t *testing.T) {
	for _, l := range notLegs() {
		if len(l.Holds) > 0 {
			l.Holds = nil
		}
		if len(l.Limits) > 0 && l.Cap == l.Limits[0] && !fineLeg(l) {
			checkNoLegText(t, legText(l))
		}
	}
	for _, text := range []string{
		"", " ", "la", "la ams bru 1 3 4,3,1 1,0,0", "la ams bru 1 3 4,3,1 1,0,0 ", "la ams bru 1 3 4,3,1 1,0,0 5 ", " la ams bru 1 3 4,3,1 1,0,0 5", "la ams bru 1 3 4,3,1 1,0,0 5\n", "la ams bru 1 3 4,3,1 1,0,0 5 held 0", "la ams bru 1 3 4,3,1 1,0,0 5 5", "la  ams bru 1 3 4,3,1 1,0,0 5", "la\tams bru 1 3 4,3,1 1,0,0 5",
		"la ams bru 01 3 4,3,1 1,0,0 5", "la ams bru 1 03 4,3,1 1,0,0 5", "la ams bru +1 3 4,3,1 1,0,0 5", "la ams bru -0 3 4,3,1 1,0,0 5", "la ams bru -1 3 4,3,1 1,0,0 5", "la ams bru 3 3 4,3,1 1,0,0 5", "la ams bru 3 1 4,3,1 1,0,0 5", "la ams bru 1 10000 4,3,1 1,0,0 5", "la ams bru 9999 10000 4,3,1 1,0,0 5", "la ams bru 1 18446744073709551619 4,3,1 1,0,0 5", "la ams bru 1 x 4,3,1 1,0,0 5", "la ams bru 1 3.0 4,3,1 1,0,0 5",
		"la ams bru 1 3 04,3,1 1,0,0 5", "la ams bru 1 3 4,3,1, 1,0,0 5", "la ams bru 1 3 ,4,3,1 1,0,0 5", "la ams bru 1 3 4,,1 1,0,0 5", "la ams bru 1 3 4;3;1 1,0,0 5", "la ams bru 1 3 4, 3,1 1,0,0 5", "la ams bru 1 3 4,3 1,0,0 5", "la ams bru 1 3 4,3,1,1 1,0,0 5", "la ams bru 1 3 4 1,0,0 5", "la ams bru 1 3  1,0,0 5", "la ams bru 1 3 4,5,1 1,0,0 5", "la ams bru 1 3 4,3,-1 1,0,0 5", "la ams bru 1 3 10,3,1 1,0,0 5", "la ams bru 1 3 0,0,0 0,0,0 5",
		"la ams bru 1 3 4,3,1 1,0 5", "la ams bru 1 3 4,3,1 1,0,0,0 5", "la ams bru 1 3 4,3,1 01,0,0 5", "la ams bru 1 3 4,3,1 1,0,-1 5", "la ams bru 1 3 4,3,1 2,0,3 5", "la ams bru 1 3 4,3,1 2,2,1 5", "la ams bru 1 3 4,3,1 0,3,1 5", "la ams bru 1 3 4,3,1 5,0,0 5", "la ams bru 1 3 4,3,1 1,0,0 5,6", "la ams bru 1 3 4,3,1 1,0,0 5,4,3,2,1", "la ams bru 1 3 4,3,1 1,0,0 1000000001", "la ams bru 1 3 4,3,1 1,0,0 -1", "la ams bru 1 3 4,3,1 1,0,0 5,", "la ams bru 1 3 4,3,1 1,0,0 05", "la ams bru 1 3 4,3,1 1,0,0 5,-0",
		"la ams ams 1 3 4,3,1 1,0,0 5", "LA ams bru 1 3 4,3,1 1,0,0 5", "abcdefghi ams bru 1 3 4,3,1 1,0,0 5", "la abcdefghi bru 1 3 4,3,1 1,0,0 5", "la ams abcdefghi 1 3 4,3,1 1,0,0 5", "l1 ams bru 1 3 4,3,1 1,0,0 5", "é ams bru 1 3 4,3,1 1,0,0 5", "la ams 1 3 4,3,1 1,0,0 5", "la\x00 ams bru 1 3 4,3,1 1,0,0 5", "la ams bru １ 3 4,3,1 1,0,0 5",
		"la ams bru 1 3 " + strings.Repeat("4,", 100000) + "4 1,0,0 5", "la ams bru 1 3 4,3,1 1,0,0 " + strings.Repeat("9", 100000), strings.Repeat("a", 100000), strings.Repeat(" ", 100000), filled(100000), allBytes(),
	} {
		checkNoLegText(t, text)
	}
}

func TestP30WhatIsReadIsWritten(t *testing.T) {
	for _, text := range []string{"la ams bru 1 3 4,3,1 1,0,0 500,300,100", "abcdefgh a b 0 9999 9,9,0 0,8,0 1000000000"} {
		read := 0
		for _, changed := range changesOf(text) {
			want, wantOk := plainLeg(changed)
			got, ok := impl.LegRead(changed)
			if ok != wantOk || !sameLeg(got, want) || ok && impl.LegWrite(got) != changed {
				t.Errorf("%q: %v %v, not %v %v", changed, got, ok, want, wantOk)
			}
			if ok {
				read++
			}
		}
		if read < 100 {
			t.Errorf("%q: only %d changes are read", text, read)
		}
	}
}

func TestP30NewMemory(t *testing.T) {
	text := "la ams bru 1 3 4,3,1 1,1,1 4,3,1"
	want, _ := plainLeg(text)
	for i := range 3 {
		first, _ := impl.LegRead(text)
		spoilNumbers([][]int{first.Limits, first.Sold, first.Bids}[i])
		second, _ := impl.LegRead(text)
		if !sameLeg(second, want) {
			t.Errorf("read again: %v", second)
		}
		for j, list := range [][]int{first.Limits, first.Sold, first.Bids} {
			if j != i && !slices.Equal(list, [][]int{want.Limits, want.Sold, want.Bids}[j]) {
				t.Errorf("lists %d and %d share", i, j)
			}
		}
	}
}

func TestP31WhoHoldsFirst(t *testing.T) {
	r, both := numbers{31}, 0
	for _, l := range legList() {
		for range 60 {
			a := hold(1+r.below(99), r.below(3), anyOf(&r, -2, -1, 1, 1, 2, 3))
			b := hold(1+r.below(99), r.below(3), anyOf(&r, -2, -1, 1, 1, 2, 3))
			first, ok := impl.LegHold(l, a, impl.RuleMaxNum)
			if !ok {
				continue
			}
			first, ok = impl.LegHold(first, b, impl.RuleMaxNum)
			if !ok {
				continue
			}
			both++
			second, okB := impl.LegHold(l, b, impl.RuleMaxNum)
			second, okA := impl.LegHold(second, a, impl.RuleMaxNum)
			if !okA || !okB || !sameLeg(first, second) {
				t.Errorf("%v, %v and %v: %v, %v", l, a, b, first, second)
			}
		}
	}
	if both < 1000 {
		t.Errorf("only %d times both can", both)
	}
}

func TestP31EachOrder(t *testing.T) {
	base := sold(flight("la", "ams", "bru", 1, 3, 6, 5, 3), 0, 1, 1)
	holds := []impl.Hold{hold(20, 2, 1), hold(5, 1, -1), hold(90, 0, 1), hold(40, 2, -1), hold(1, 1, 1)}
	want := []impl.Hold{hold(1, 1, 1), hold(5, 1, -1), hold(20, 2, 1), hold(40, 2, -1), hold(90, 0, 1)}
	var each func(l impl.Leg, left []impl.Hold)
	each = func(l impl.Leg, left []impl.Hold) {
		if len(left) == 0 && !slices.Equal(l.Holds, want) {
			t.Errorf("%v", l.Holds)
		}
		for i, h := range left {
			next, ok := impl.LegHold(l, h, impl.RuleMaxNum)
			if !ok {
				t.Fatalf("%v cannot hold %v", l, h)
			}
			each(next, slices.Delete(slices.Clone(left), i, i+1))
		}
	}
	each(base, holds)
}
