package tests

import (
	"regexp"
	"slices"
	"strconv"
	"strings"

	"loop.example/stopover/impl"
)

// The words of chapters 7 and 8 a second time, to hold the program's answers against.

func fare(name string, class int, rule string) impl.Fare {
	return impl.Fare{Name: name, Class: class, Rule: rule}
}

// fareRuleOf is the rule of a fare that is ok, and true.
func fareRuleOf(f impl.Fare) (impl.Rule, bool) {
	rule, ok := fineText(f.Rule)
	if !ok || !nameForm.MatchString(f.Name) || f.Class < 0 || f.Class > 2 {
		return impl.Rule{}, false
	}
	for _, text := range namesOf(rule) {
		if text != "legs" && text != "seats" && text != "time" {
			return impl.Rule{}, false
		}
	}
	return rule, true
}

func fineFares(list []impl.Fare) bool {
	seen := map[string]bool{}
	for _, f := range list {
		if _, ok := fareRuleOf(f); !ok || seen[f.Name] {
			return false
		}
		seen[f.Name] = true
	}
	return len(list) <= 4
}

// priceOf is what a seat costs by a fare, or a code.
func priceOf(f impl.Fare, legs int, seats int, time int) (int, int) {
	rule, ok := fareRuleOf(f)
	if !ok {
		return 0, 4
	}
	n, code, _ := ruleOf(rule, []impl.Pair{{Name: "time", Num: time}, {Name: "seats", Num: seats}, {Name: "legs", Num: legs}}, 1000)
	if code == 0 && n < 0 {
		return 0, 2
	}
	return n, code
}

// leastOf is the name of the cheapest fare that may be had.
func leastOf(list []impl.Fare, class int, legs int, seats int, time int) string {
	if !fineFares(list) {
		return ""
	}
	list = slices.DeleteFunc(slices.Clone(list), func(f impl.Fare) bool {
		_, code := priceOf(f, legs, seats, time)
		return code != 0 || f.Class > class
	})
	slices.SortStableFunc(list, func(a impl.Fare, b impl.Fare) int {
		x, _ := priceOf(a, legs, seats, time)
		y, _ := priceOf(b, legs, seats, time)
		return x - y
	})
	if len(list) == 0 {
		return ""
	}
	return list[0].Name
}

// fareText writes fares, whether they are ok or not.
func fareText(list []impl.Fare) string {
	lines := make([]string, len(list))
	for i, f := range list {
		lines[i] = f.Name + " " + strconv.Itoa(f.Class) + " " + f.Rule + "\n"
	}
	return strings.Join(lines, "")
}

var fareForm = regexp.MustCompile(`^([a-z]{1,8}) ([0-2]) ([^ \n]+)$`)

// plainFares says which fares a text is, and whether it is some.
func plainFares(text string) ([]impl.Fare, bool) {
	var list []impl.Fare
	for text != "" {
		line, rest, ended := strings.Cut(text, "\n")
		words := fareForm.FindStringSubmatch(line)
		if words == nil || !ended {
			return nil, false
		}
		list = append(list, fare(words[1], int(words[2][0]-'0'), words[3]))
		text = rest
	}
	if !fineFares(list) {
		return nil, false
	}
	return list, true
}

// fareNamed is a rule in which all names are such as fares know.
func (r *numbers) fareNamed(rule impl.Rule) impl.Rule {
	rule = copied(rule)
	if rule.Op == 2 {
		rule.Name = anyOf(r, "legs", "seats", "time")
	}
	for i, kid := range rule.Kids {
		rule.Kids[i] = r.fareNamed(kid)
	}
	return rule
}

// fareLists are fares that are ok: known ones, those at limits, and any others.
func fareLists() [][]impl.Fare {
	lists := [][]impl.Fare{
		nil, {}, {fare("full", 0, "mul(legs,500)")}, {fare("full", 0, "mul(legs,500)"), fare("low", 1, "tiers(time;0:30,5:10)")}, {fare("a", 2, "0"), fare("b", 2, "0"), fare("c", 1, "0"), fare("d", 0, "0")}, {fare("abcdefgh", 2, "seats"), fare("zzzzzzzz", 0, "time"), fare("legs", 1, "legs"), fare("add", 2, "-1")},
		{fare("x", 1, textOf(fareBytesRule(300)))}, {fare("x", 0, "mul(1000000000,1000)"), fare("y", 0, "add(mul(1000000000,1000),legs)"), fare("z", 2, "part(1,2,sub(legs,1))"), fare("w", 1, "sub(2,legs)")}, {fare("b", 0, "if(time,5,100,20)"), fare("a", 0, "if(5,time,20,100)"), fare("c", 2, "max(time,seats)")},
		{fare("x", 0, "max(legs,time)"), fare("xx", 0, "max(legs,time)"), fare("xxx", 0, "max(legs,time)"), fare("xxxx", 0, "max(legs,time)")}, {fare("x", 2, "-1000000000"), fare("y", 0, "1000000000")},
	}
	r := numbers{32}
	for len(lists) < 250 {
		var list []impl.Fare
		for i := range 1 + r.below(4) {
			rule := r.fareNamed(r.rule(2 + r.below(4)))
			list = append(list, fare(string(rune('a'+i)), r.below(3), textOf(rule)))
		}
		if fineFares(list) {
			lists = append(lists, list)
		}
	}
	return lists
}

// fareBytesRule is a rule of a fare of 290 to 310 bytes.
func fareBytesRule(bytes int) impl.Rule {
	long := []impl.Mark{{Price: impl.PartMax}}
	for i := 3; i >= 0; i-- {
		long = append(long, impl.Mark{From: impl.RuleMaxNum - i, Price: impl.PartMax})
	}
	kids := []impl.Rule{num(1), num(1), num(1)}
	for i := 0; ; i++ {
		rule := with(3, tiers(kids[0], long...), with(3, tiers(kids[1], long...), tiers(kids[2], long...)))
		if len(textOf(rule)) == bytes {
			return rule
		}
		kids[i%3].Num *= 10
	}
}

// notFares are fares that are not ok, each for one reason.
func notFares() [][]impl.Fare {
	four := []impl.Fare{fare("a", 0, "1"), fare("b", 1, "legs"), fare("c", 2, "seats"), fare("d", 0, "time")}
	lists := [][]impl.Fare{
		append(slices.Clone(four), fare("e", 0, "1")), {fare("a", 0, "1"), fare("a", 1, "2")}, {fare("a", 0, "1"), fare("b", 0, "1"), fare("a", 0, "1")}, {fare("a", 0, "1"), fare("b", 0, "1"), fare("c", 0, "1"), fare("c", 0, "1")}, {{}}, make([]impl.Fare, 100000),
	}
	but := func(f impl.Fare) {
		lists = append(lists, []impl.Fare{f})
		for i := range four {
			list := slices.Clone(four)
			list[i] = f
			lists = append(lists, list)
		}
	}
	for _, text := range []string{"", "A", "a1", "a b", "abcdefghi", "é", "\x00", "\xff", "a\n", allBytes(), filled(100000)} {
		but(fare(text, 0, "1"))
	}
	for _, class := range append([]int{-1, 3, 4}, ends...) {
		but(fare("x", class, "1"))
	}
	for _, rule := range []string{
		"", "-0", "01", " 1", "1 ", "1\n", "\n", "use", "leg", "seat", "times", "Legs", "legs ", "add(legs,price)", "if(1,2,legs,zz)", "if(1,2,zz,legs)", "tiers(a;0:1)", "add(1)", "add(1,2", "mul(legs,500)\n", "legs,seats", "tiers(time;1:1)", "1000000001", "push 1\n", textOf(levelRule(7)), textOf(partsRule(31)), textOf(fareBytesRule(301)), filled(300), filled(100000), allBytes(),
	} {
		but(fare("x", 0, rule))
	}
	return lists
}

// tripNumbers are legs, seats and times: usual ones, and such as are no amounts.
func tripNumbers() [][3]int {
	list := [][3]int{{1, 1, 1}, {2, 1, 6}, {3, 4, 29997}, {1, 4, 5}, {2, 2, 4}, {0, 0, 0}, {-1, -2, -3}, {impl.MoneyMax, impl.MoneyMax, impl.MoneyMax}, {-impl.MoneyMax, 1, impl.MoneyMax}, {impl.MoneyMax + 1, 1, 1}, {1, -impl.MoneyMax - 1, 1}}
	for _, n := range ends {
		list = append(list, [3]int{n, 1, 1}, [3]int{1, n, 1}, [3]int{1, 1, n}, [3]int{n, n, n})
	}
	return list
}

func journey(fare string, seats int, legs ...string) impl.Trip {
	return impl.Trip{Legs: legs, Fare: fare, Seats: seats}
}

func sameTrip(a impl.Trip, b impl.Trip) bool {
	return a.Fare == b.Fare && a.Seats == b.Seats && slices.Equal(a.Legs, b.Legs)
}

var tripForm = regexp.MustCompile(`^([a-z]{1,8}(?:-[a-z]{1,8}){0,2})/([a-z]{1,8})/([1-4])$`)

// namesTwin says whether one of a list is there twice.
func namesTwin(list []string) bool {
	seen := map[string]bool{}
	for _, text := range list {
		seen[text] = true
	}
	return len(seen) < len(list)
}

// plainTrip says which trip a text is, and whether it is one.
func plainTrip(text string) (impl.Trip, bool) {
	words := tripForm.FindStringSubmatch(text)
	if words == nil || namesTwin(strings.Split(words[1], "-")) {
		return impl.Trip{}, false
	}
	return journey(words[2], int(words[3][0]-'0'), strings.Split(words[1], "-")...), true
}

// tripText writes a trip, whether it has its form or not.
func tripText(t impl.Trip) string {
	return strings.Join(t.Legs, "-") + "/" + t.Fare + "/" + strconv.Itoa(t.Seats)
}

func hasForm(t impl.Trip) bool {
	_, ok := plainTrip(tripText(t))
	// A name with a hyphen in it would be read as two.
	return ok && !slices.ContainsFunc(t.Legs, func(text string) bool { return !nameForm.MatchString(text) })
}

func fineNet(net []impl.Leg) bool {
	var list []string
	for _, l := range net {
		list = append(list, l.Name)
	}
	return len(net) <= 6 && !namesTwin(list) && !slices.ContainsFunc(net, func(l impl.Leg) bool { return !fineLeg(l) })
}

// wayOf is the legs of a trip that can be made.
func wayOf(net []impl.Leg, t impl.Trip) ([]impl.Leg, bool) {
	if !fineNet(net) || !hasForm(t) {
		return nil, false
	}
	there := map[string]impl.Leg{}
	for _, l := range net {
		there[l.Name] = l
	}
	var way []impl.Leg
	for _, text := range t.Legs {
		way = append(way, there[text])
	}
	return way, fineWay(way)
}

// fineWay says whether legs are there, and go on one behind the other.
func fineWay(way []impl.Leg) bool {
	for i, l := range way {
		if l.Name == "" || i > 0 && (way[i-1].To != l.From || way[i-1].Arr >= l.Dep) {
			return false
		}
	}
	return true
}

// waysOf is all ways: of all rows of one leg to three, in the order of their places, those that fit.
func waysOf(net []impl.Leg, from string, to string, at int) []string {
	if !fineNet(net) {
		return nil
	}
	var list []string
	var longer func(way []impl.Leg, names []string)
	longer = func(way []impl.Leg, names []string) {
		last := len(way) - 1
		if last >= 0 && (!fineWay(way) || way[0].From != from || way[0].Dep < at) {
			return
		}
		if last >= 0 && way[last].To == to {
			list = append(list, strings.Join(names, "-"))
			return
		}
		for _, l := range net {
			if len(way) < 3 {
				longer(append(slices.Clone(way), l), append(slices.Clone(names), l.Name))
			}
		}
	}
	longer(nil, nil)
	return list
}

// opsOf is what a trip needs, what a seat costs, and a code.
func opsOf(net []impl.Leg, fares []impl.Fare, t impl.Trip) ([]impl.Op, int, int) {
	way, ok := wayOf(net, t)
	place := slices.IndexFunc(fares, func(f impl.Fare) bool { return f.Name == t.Fare })
	if !ok || !fineFares(fares) || place < 0 {
		return nil, 0, 11
	}
	var times []int
	all := 0
	for _, l := range way {
		times = append(times, l.Arr-l.Dep)
		all += l.Arr - l.Dep
	}
	price, code := priceOf(fares[place], len(way), t.Seats, all)
	if code != 0 {
		return nil, 0, 12
	}
	var ops []impl.Op
	for i, share := range sharesOf(price, times) {
		ops = append(ops, impl.Op{Leg: way[i].Name, Class: fares[place].Class, Seats: t.Seats, Share: share})
	}
	return ops, price, 0
}

// net is a net of so many legs between few places.
func (r *numbers) net(legs int) []impl.Leg {
	var net []impl.Leg
	for len(net) < legs {
		l := r.leg()
		l.Name = "l" + string(rune('a'+len(net)))
		l.From, l.To = anyOf(r, "ams", "bru", "cdg", "dub"), anyOf(r, "ams", "bru", "cdg", "dub")
		l.Dep = r.below(14)
		l.Arr = l.Dep + 1 + r.below(4)
		if fineLeg(l) {
			net = append(net, l)
		}
	}
	return net
}

// knownNet is a net in which a way comes by its end, goes round, and comes back.
func knownNet() []impl.Leg {
	return []impl.Leg{
		flight("la", "ams", "bru", 1, 3, 2, 2, 1), flight("lb", "bru", "cdg", 5, 9, 3, 2, 0), flight("lc", "ams", "cdg", 2, 4, 1, 1, 1), flight("ld", "cdg", "ams", 5, 6, 9, 9, 9), flight("le", "cdg", "dub", 10, 12, 1, 1, 1), flight("lf", "ams", "cdg", 7, 8, 1, 1, 1),
	}
}

// nets are nets that are ok: none, those at limits, and any others.
func nets() [][]impl.Leg {
	long := []impl.Leg{flight("abcdefgh", "aaaaaaaa", "bbbbbbbb", 0, 1, 1, 1, 1), flight("hgfedcba", "bbbbbbbb", "cccccccc", 2, 9998, 9, 9, 9)}
	list := [][]impl.Leg{nil, {}, knownNet(), knownNet()[:1], long}
	// All six legs are there twice over between the same places, and one behind the other.
	var twin, row []impl.Leg
	for i := range 6 {
		name := "l" + string(rune('a'+i))
		twin = append(twin, flight(name, []string{"ams", "bru", "cdg"}[i%3], []string{"bru", "cdg", "dub"}[i%3], 1+i%3*4, 3+i%3*4, 9, 9, 9))
		row = append(row, flight(name, string(rune('a'+i)), string(rune('b'+i)), 2*i, 2*i+1, 2, 1, 0))
	}
	list = append(list, twin, row)
	r := numbers{37}
	for range 80 {
		list = append(list, r.net(1+r.below(6)))
	}
	return list
}

// notNets are nets that are not ok, each for one reason.
func notNets() [][]impl.Leg {
	lists := [][]impl.Leg{append(knownNet(), flight("lg", "ams", "dub", 1, 2, 1, 1, 1)), make([]impl.Leg, 100000), {{}}, {knownNet()[0], knownNet()[0]}}
	for i := range 6 {
		for j := range i {
			net := knownNet()
			net[i].Name = net[j].Name
			lists = append(lists, net)
		}
		for _, l := range append(notSeats()[:20], notHolds()[:4]...) {
			net := knownNet()
			l.Name = net[i].Name
			net[i] = l
			lists = append(lists, net)
		}
	}
	return lists
}

// tripsIn are trips over all rows of one leg to three of a net, and a name that is none of it.
func tripsIn(net []impl.Leg, fare string, seats int) []impl.Trip {
	list := []string{"zz"}
	for _, l := range net {
		list = append(list, l.Name)
	}
	var trips []impl.Trip
	for _, a := range list {
		trips = append(trips, journey(fare, seats, a))
		for _, b := range list {
			trips = append(trips, journey(fare, seats, a, b))
			for _, c := range list {
				trips = append(trips, journey(fare, seats, a, b, c))
			}
		}
	}
	return trips
}

// notTrips are trips that have not their form, each for one reason.
func notTrips() []impl.Trip {
	list := []impl.Trip{
		{}, journey("low", 1), {Legs: []string{}, Fare: "low", Seats: 1}, journey("low", 1, "la", "lb", "ld", "lf"), journey("low", 1, "la", "la"), journey("low", 1, "la", "lb", "la"), journey("low", 1, "la", "lb", "lb"), journey("low", 1, "la-lb"), journey("low", 1, "la/low/1"), journey("", 1, "la"), {Legs: make([]string, 100000), Fare: "low", Seats: 1},
	}
	for _, text := range []string{"", "A", "a1", "a b", "a-b", "abcdefghi", "é", "\x00", "\xff", "a\n", "a/b", "a/1", allBytes(), filled(100000)} {
		list = append(list, journey("low", 1, text), journey("low", 1, "la", text), journey("low", 1, text, "lb"), journey("low", 1, "la", "lb", text), journey(text, 1, "la"))
	}
	for _, n := range append([]int{-1, 0, 5, 10, 255, 257, 1<<32 + 1}, ends...) {
		list = append(list, journey("low", n, "la"), journey("low", n, "la", "lb"))
	}
	return list
}
