package tests

import (
	"regexp"
	"slices"
	"strconv"
	"sync"

	"loop.example/stopover/impl"
)

// The words of chapter 12 a second time, to hold the program's answers against.

func sameCoTxn(a impl.CoTxn, b impl.CoTxn) bool {
	plain := a.Txn == b.Txn && a.Req == b.Req && a.Back == b.Back && a.Price == b.Price && a.Stands == b.Stands && a.Age == b.Age
	return plain && sameTrip(a.Trip, b.Trip) && slices.Equal(a.Shards, b.Shards) && slices.Equal(a.Yes, b.Yes) && slices.Equal(a.Acks, b.Acks)
}

func sameCoord(a impl.Coord, b impl.Coord) bool {
	plain := a.Log == b.Log && a.Up == b.Up && a.Next == b.Next && slices.Equal(a.Where, b.Where) && slices.Equal(a.Fares, b.Fares)
	return plain && slices.EqualFunc(a.Net, b.Net, sameLeg) && slices.EqualFunc(a.Txns, b.Txns, sameCoTxn)
}

func isNoCoord(c impl.Coord) bool {
	return sameCoord(c, impl.Coord{})
}

// coordCopy is one who decides whose transactions may be changed.
func coordCopy(c impl.Coord) impl.Coord {
	c.Net, c.Where, c.Fares, c.Txns = netCopy(c.Net), slices.Clone(c.Where), slices.Clone(c.Fares), slices.Clone(c.Txns)
	for i, x := range c.Txns {
		c.Txns[i].Trip.Legs, c.Txns[i].Shards = slices.Clone(x.Trip.Legs), slices.Clone(x.Shards)
		c.Txns[i].Yes, c.Txns[i].Acks = slices.Clone(x.Yes), slices.Clone(x.Acks)
	}
	return c
}

// needs is all ops of a transaction, its price, the shards that it needs, and whether its trip has no code.
func needs(c impl.Coord, trip impl.Trip, back int) ([]impl.Op, int, []int, bool) {
	ops, price, code := opsOf(c.Net, c.Fares, trip)
	var shards []int
	for shard := 1; shard <= 2; shard++ {
		if len(opsIn(c, ops, shard)) > 0 {
			shards = append(shards, shard)
		}
	}
	if back != 0 {
		for i := range ops {
			ops[i].Seats = -ops[i].Seats
		}
	}
	return ops, price, shards, code == 0
}

// opsIn is those ops whose legs are kept in a shard.
func opsIn(c impl.Coord, ops []impl.Op, shard int) []impl.Op {
	return slices.DeleteFunc(slices.Clone(ops), func(o impl.Op) bool { return c.Where[legAt(c.Net, o.Leg)] != shard })
}

// coAt is the place of the transaction of a number, -1 if there is none.
func coAt(c impl.Coord, txn int) int {
	return slices.IndexFunc(c.Txns, func(x impl.CoTxn) bool { return x.Txn == txn })
}

var (
	beginForm = regexp.MustCompile(`^S ([1-9]\d?)$`)
	endForm   = regexp.MustCompile(`^([DN]) ([1-9]\d?) ([1-9]\d?) (0|[1-9]\d?) ([^ ]+)$`)
)

// coDoneIn is one who decides behind a record, and whether that can be.
func coDoneIn(c impl.Coord, record string) (impl.Coord, bool) {
	if words := beginForm.FindStringSubmatch(record); words != nil {
		n, _ := strconv.Atoi(words[1])
		if n != c.Next {
			return c, false
		}
		c.Next++
		return c, true
	}
	words := endForm.FindStringSubmatch(record)
	if words == nil {
		return c, false
	}
	x := impl.CoTxn{Stands: map[string]int{"D": 2, "N": 3}[words[1]]}
	x.Txn, _ = strconv.Atoi(words[2])
	x.Req, _ = strconv.Atoi(words[3])
	x.Back, _ = strconv.Atoi(words[4])
	var reads, can bool
	x.Trip, reads = plainTrip(words[5])
	_, x.Price, x.Shards, can = needs(c, x.Trip, x.Back)
	if !reads || !can || x.Txn >= c.Next || coAt(c, x.Txn) >= 0 {
		return c, false
	}
	if x.Stands == 2 {
		x.Yes = slices.Clone(x.Shards)
	}
	c.Txns = append(slices.Clone(c.Txns), x)
	return c, true
}

// coReplayed is one who decides as the log says, Up, and whether that can be.
func coReplayed(c impl.Coord) (impl.Coord, bool) {
	records, size := recordsIn(c.Log)
	c = impl.Coord{Net: c.Net, Where: c.Where, Fares: c.Fares, Log: c.Log[:size], Up: true, Next: 1}
	for _, record := range records {
		var ok bool
		if c, ok = coDoneIn(c, record); !ok {
			return c, false
		}
	}
	return c, true
}

// fineCoord says whether one who decides is ok.
func fineCoord(c impl.Coord) bool {
	if len(c.Log) > 9000 || !fineNet(c.Net) || !holdsNone(c.Net) || !fineFares(c.Fares) || len(c.Where) != len(c.Net) {
		return false
	}
	for _, shard := range c.Where {
		if shard != 1 && shard != 2 {
			return false
		}
	}
	now, ok := coReplayed(c)
	if !ok || !c.Up {
		return ok && c.Next == 0 && len(c.Txns) == 0
	}
	return now.Log == c.Log && now.Next == c.Next && fineTxns(c, now)
}

// fineTxns says whether transactions may be known beside what the log says.
func fineTxns(c impl.Coord, now impl.Coord) bool {
	ended := 0
	for i, x := range c.Txns {
		_, price, shards, can := needs(c, x.Trip, x.Back)
		if !can || x.Price != price || !slices.Equal(x.Shards, shards) || coAt(c, x.Txn) != i || !someIn(x.Yes, shards) || !someIn(x.Acks, shards) {
			return false
		}
		if x.Txn < 1 || x.Txn >= c.Next || x.Req < 1 || x.Req > 99 || x.Back < 0 || x.Back > 99 || x.Age < 0 || x.Age > 4 {
			return false
		}
		place := coAt(now, x.Txn)
		if place < 0 {
			if x.Stands != 1 || len(x.Acks) > 0 || len(x.Yes) == len(shards) {
				return false
			}
			continue
		}
		ended++
		if y := now.Txns[place]; x.Stands != y.Stands || x.Req != y.Req || x.Back != y.Back || !sameTrip(x.Trip, y.Trip) {
			return false
		}
	}
	return ended == len(now.Txns)
}

// someIn says whether numbers are some of a list, each once.
func someIn(some []int, list []int) bool {
	seen := map[int]bool{}
	for _, n := range some {
		if seen[n] || !slices.Contains(list, n) {
			return false
		}
		seen[n] = true
	}
	return true
}

// coWrote is a log with a record more, and whether there is room for it.
func coWrote(log string, record string) (string, bool) {
	records, _ := recordsIn(log)
	longer := logOf(append(records, record))
	return longer, len(longer) <= 9000
}

// toldOf is what a request is told of a transaction.
func toldOf(x impl.CoTxn) string {
	if x.Stands != 2 {
		return map[int]string{1: "", 3: "no"}[x.Stands]
	}
	if x.Back > 0 {
		return "back " + strconv.Itoa(x.Back)
	}
	return "sold " + strconv.Itoa(x.Txn) + " at " + centsText(x.Price)
}

// endText is the record by which a transaction ends.
func endText(x impl.CoTxn, stands int) string {
	return map[int]string{2: "D", 3: "N"}[stands] + " " + strconv.Itoa(x.Txn) + " " + strconv.Itoa(x.Req) + " " + strconv.Itoa(x.Back) + " " + tripText(x.Trip)
}

// asksIn is what shards are asked that did not say yes yet.
func asksIn(c impl.Coord, x impl.CoTxn) []impl.Msg {
	ops, _, shards, _ := needs(c, x.Trip, x.Back)
	var list []impl.Msg
	for _, shard := range shards {
		if !slices.Contains(x.Yes, shard) {
			list = append(list, impl.Msg{Kind: 1, To: shard, Txn: x.Txn, Ops: opsIn(c, ops, shard)})
		}
	}
	return list
}

// tellsIn is what shards are told that do not know it yet.
func tellsIn(x impl.CoTxn) []impl.Msg {
	var list []impl.Msg
	for _, shard := range x.Shards {
		if !slices.Contains(x.Acks, shard) {
			list = append(list, impl.Msg{Kind: 3, To: shard, Txn: x.Txn, Yes: x.Stands == 2})
		}
	}
	return list
}

// coBegun is one who decides that began a transaction, if that can be.
func coBegun(c impl.Coord, x impl.CoTxn) (impl.Coord, []impl.Msg) {
	log, ok := coWrote(c.Log, "S "+strconv.Itoa(c.Next))
	if !ok || c.Next > 99 {
		return c, nil
	}
	_, x.Price, x.Shards, _ = needs(c, x.Trip, x.Back)
	x.Txn, x.Stands = c.Next, 1
	c.Log, c.Next, c.Txns = log, c.Next+1, append(slices.Clone(c.Txns), x)
	return c, asksIn(c, x)
}

// coEnded is one who decides that ended the transaction at a place, if there is room for that.
func coEnded(c impl.Coord, place int, stands int) (impl.Coord, []impl.Msg, []impl.Reply) {
	x := c.Txns[place]
	log, ok := coWrote(c.Log, endText(x, stands))
	if !ok {
		return c, nil, nil
	}
	x.Stands, x.Age = stands, 0
	if stands == 2 {
		for _, shard := range x.Shards {
			if !slices.Contains(x.Yes, shard) {
				x.Yes = append(slices.Clone(x.Yes), shard)
			}
		}
	}
	c.Log, c.Txns = log, slices.Clone(c.Txns)
	c.Txns[place] = x
	return c, tellsIn(x), []impl.Reply{{Req: x.Req, Text: toldOf(x)}}
}

// lastOf is the last transaction of a request, and whether there is one.
func lastOf(c impl.Coord, req int) (impl.CoTxn, bool) {
	list := slices.Clone(c.Txns)
	slices.Reverse(list)
	place := slices.IndexFunc(list, func(x impl.CoTxn) bool { return x.Req == req })
	if place < 0 {
		return impl.CoTxn{}, false
	}
	return list[place], true
}

func coSellIn(c impl.Coord, req int, trip impl.Trip) (impl.Coord, []impl.Msg, string) {
	if !fineCoord(c) {
		return impl.Coord{}, nil, ""
	}
	if !c.Up || req < 1 || req > 99 {
		return c, nil, ""
	}
	if x, known := lastOf(c, req); known {
		return c, nil, toldOf(x)
	}
	if _, _, code := opsOf(c.Net, c.Fares, trip); code != 0 {
		return c, nil, "bad " + strconv.Itoa(code)
	}
	c, said := coBegun(c, impl.CoTxn{Req: req, Trip: trip})
	return c, said, ""
}

func coBackIn(c impl.Coord, req int, sale int) (impl.Coord, []impl.Msg, string) {
	if !fineCoord(c) {
		return impl.Coord{}, nil, ""
	}
	if !c.Up || req < 1 || req > 99 {
		return c, nil, ""
	}
	if x, known := lastOf(c, req); known {
		return c, nil, toldOf(x)
	}
	var begun []impl.CoTxn
	for _, x := range c.Txns {
		if x.Stands == 2 && x.Back == 0 && x.Req == sale {
			begun = append(begun, impl.CoTxn{Req: req, Back: sale, Trip: x.Trip})
		}
	}
	for _, x := range c.Txns {
		if x.Stands != 3 && x.Back == sale {
			begun = nil
		}
	}
	if len(begun) == 0 {
		return c, nil, ""
	}
	c, said := coBegun(c, begun[0])
	return c, said, ""
}

func coHearIn(c impl.Coord, m impl.Msg) (impl.Coord, []impl.Msg, []impl.Reply) {
	if !fineCoord(c) {
		return impl.Coord{}, nil, nil
	}
	if !c.Up || m.To != 0 || m.From < 1 || m.From > 2 {
		return c, nil, nil
	}
	place := coAt(c, m.Txn)
	if m.Kind == 5 && m.Txn >= 1 && m.Txn <= 99 && (place < 0 || c.Txns[place].Stands != 1) {
		return c, []impl.Msg{{Kind: 3, To: m.From, Txn: m.Txn, Yes: place >= 0 && c.Txns[place].Stands == 2}}, nil
	}
	if place < 0 {
		return c, nil, nil
	}
	x := c.Txns[place]
	if m.Kind == 2 && x.Stands == 1 && !m.Yes {
		return coEnded(c, place, 3)
	}
	if !slices.Contains(x.Shards, m.From) {
		return c, nil, nil
	}
	after := coordCopy(c)
	if m.Kind == 2 && x.Stands == 1 && !slices.Contains(x.Yes, m.From) {
		if len(x.Yes)+1 == len(x.Shards) {
			return coEnded(c, place, 2)
		}
		after.Txns[place].Yes = append(after.Txns[place].Yes, m.From)
	}
	if m.Kind == 4 && x.Stands == map[bool]int{true: 2, false: 3}[m.Yes] && !slices.Contains(x.Acks, m.From) {
		after.Txns[place].Acks = append(after.Txns[place].Acks, m.From)
	}
	return after, nil, nil
}

func coTickIn(c impl.Coord) (impl.Coord, []impl.Msg, []impl.Reply) {
	if !fineCoord(c) {
		return impl.Coord{}, nil, nil
	}
	var said []impl.Msg
	var told []impl.Reply
	c = coordCopy(c)
	for i, x := range c.Txns {
		if x.Stands == 1 && x.Age == 4 {
			after, msgs, replies := coEnded(c, i, 3)
			c, said, told = after, append(said, msgs...), append(told, replies...)
		} else if x.Stands == 1 {
			c.Txns[i].Age++
			said = append(said, asksIn(c, x)...)
		} else if x.Stands == 2 {
			said = append(said, tellsIn(x)...)
		}
	}
	return c, said, told
}

// coFallen is one who decides that is not Up, with a log.
func coFallen(c impl.Coord, log string) impl.Coord {
	return impl.Coord{Net: c.Net, Where: c.Where, Fares: c.Fares, Log: log}
}

func coCrashIn(c impl.Coord, m impl.Msg, bytes int) impl.Coord {
	if !fineCoord(c) {
		return impl.Coord{}
	}
	after, _, _ := coHearIn(c, m)
	added := after.Log[len(c.Log):]
	return coFallen(c, c.Log+added[:min(max(bytes, 0), len(added))])
}

func coRiseIn(c impl.Coord) impl.Coord {
	if !fineCoord(c) {
		return impl.Coord{}
	}
	if c.Up {
		return c
	}
	now, _ := coReplayed(c)
	return now
}

// exampleNet is the legs of the example of chapter 13.
func exampleNet() []impl.Leg {
	return []impl.Leg{worth(flight("la", "ams", "bru", 1, 3, 2, 2, 1), 500, 100), flight("lb", "bru", "cdg", 5, 9, 3, 2, 0), flight("lc", "ams", "cdg", 2, 6, 1, 1, 1)}
}

// exampleFares is its fares, and one that no trip of two legs has.
func exampleFares() []impl.Fare {
	return []impl.Fare{fare("full", 0, "mul(legs,500)"), fare("low", 1, "tiers(time;0:30,5:10)"), fare("none", 2, "sub(1,legs)")}
}

// coordOf is one who decides that is Up, over the example's legs, with a log of records that can be done.
func coordOf(records ...string) impl.Coord {
	c, ok := coReplayed(impl.Coord{Net: exampleNet(), Where: []int{1, 2, 1}, Fares: exampleFares(), Log: logOf(records)})
	if !ok {
		panic(records)
	}
	return c
}

// asking puts a transaction that asks behind all; a number must be given for it.
func asking(c impl.Coord, txn int, req int, back int, text string, age int, yes ...int) impl.Coord {
	trip, _ := plainTrip(text)
	x := impl.CoTxn{Txn: txn, Req: req, Back: back, Trip: trip, Stands: 1, Age: age, Yes: yes}
	_, x.Price, x.Shards, _ = needs(c, trip, back)
	c.Txns = append(slices.Clone(c.Txns), x)
	return c
}

// acked is one who decides that knows which shards have heard of the end of a transaction.
func acked(c impl.Coord, txn int, acks ...int) impl.Coord {
	c = coordCopy(c)
	c.Txns[coAt(c, txn)].Acks = acks
	return c
}

// knownCoord knows transactions of all sorts: 1 and 6 are done, 3 is not, 2 gives 1 back and asks still, 4 and 5 ask, 7 is lost.
func knownCoord() impl.Coord {
	c := coordOf("S 1", "S 2", "S 3", "S 4", "D 1 3 0 la-lb/full/1", "S 5", "N 3 40 0 la/low/1", "S 6", "S 7", "D 6 99 0 lb/low/1")
	c = asking(c, 2, 9, 3, "la-lb/full/1", 1, 2)
	c = asking(c, 5, 12, 0, "la-lb/full/1", 4, 1)
	c = asking(c, 4, 50, 0, "lc/none/1", 0)
	return acked(acked(c, 1, 2), 3, 1)
}

// coordGiven is one who decides that is Up, over the example's legs, and gave so many numbers, of which nothing came.
func coordGiven(numbers int) impl.Coord {
	var records []string
	for n := 1; n <= numbers; n++ {
		records = append(records, "S "+strconv.Itoa(n))
	}
	return coordOf(records...)
}

// coordLongest is one who decides over three legs whose names are as long as may be, and gave all numbers but `free`.
// Each of these transactions ended, and was written in as many bytes as may be.
func coordLongest(free int) impl.Coord {
	c := impl.Coord{Where: []int{1, 2, 1}, Fares: []impl.Fare{fare("abcdefgh", 0, "1")}}
	for i, text := range []string{"aaaaaaaa", "bbbbbbbb", "cccccccc"} {
		c.Net = append(c.Net, flight(text, string(rune('a'+i)), string(rune('b'+i)), 10*i, 10*i+1, 9, 9, 9))
	}
	var records []string
	for txn := 1; txn <= 99-free; txn++ {
		records = append(records, "S "+strconv.Itoa(txn))
	}
	for txn := 1; txn <= 99-free; txn++ {
		records = append(records, []string{"N ", "D "}[txn%2]+strconv.Itoa(txn)+" "+strconv.Itoa(99-txn/2)+" 99 aaaaaaaa-bbbbbbbb-cccccccc/abcdefgh/4")
	}
	c.Log = logOf(records)
	c, ok := coReplayed(c)
	if !ok {
		panic(free)
	}
	return c
}

// coMsg is a message for one who decides, mostly one that is listened to.
func (r *numbers) coMsg(c impl.Coord) impl.Msg {
	m := impl.Msg{Kind: anyOf(r, 2, 2, 2, 4, 4, 5, 5, 1, 3), From: 1 + r.below(2), Txn: 1 + r.below(12), Yes: r.below(5) > 0}
	if len(c.Txns) > 0 && r.below(6) > 0 {
		x := c.Txns[max(r.below(len(c.Txns)), r.below(len(c.Txns)))]
		m.Txn = x.Txn
		if r.below(4) > 0 {
			m.From = x.Shards[r.below(len(x.Shards))]
		}
		if r.below(3) > 0 {
			m.Kind = map[int]int{1: 2, 2: 4, 3: 4}[x.Stands]
			m.Yes = x.Stands == 2 || x.Stands == 1 && r.below(4) > 0
		}
	}
	if r.below(40) == 0 {
		m.Txn = anyOf(r, -1, 0, 99, 100)
	}
	if r.below(30) == 0 {
		m.From, m.To = r.below(4), r.below(3)
	}
	if r.below(20) == 0 {
		m.Ops = []impl.Op{op("la", 0, 1, 1)}
	}
	return m
}

// coTrip is a trip over a way of one who decides, or over any legs.
func (r *numbers) coTrip(c impl.Coord) impl.Trip {
	if len(c.Net) == 0 {
		return journey("full", 1, "la")
	}
	trip := r.trip(impl.Serial{Net: c.Net, Fares: c.Fares})
	if r.below(3) > 0 {
		trip.Seats = 1
	}
	return trip
}

// coActs lets some things happen to one who decides: requests, messages, ticks, falls.
func (r *numbers) coActs(c impl.Coord, count int) impl.Coord {
	for range count {
		switch r.below(12) {
		case 0, 1, 2:
			c, _, _ = coSellIn(c, 1+r.below(30), r.coTrip(c))
		case 3:
			c, _, _ = coBackIn(c, 1+r.below(30), 1+r.below(30))
		case 4:
			c, _, _ = coTickIn(c)
		case 5:
			if r.below(4) == 0 {
				c = coRiseIn(coCrashIn(c, r.coMsg(c), r.below(70)))
			}
		default:
			c, _, _ = coHearIn(c, r.coMsg(c))
		}
	}
	return c
}

// coord is any new one who decides.
func (r *numbers) coord() impl.Coord {
	c := impl.Coord{Net: exampleNet(), Fares: exampleFares()}
	if r.below(3) > 0 {
		s := r.trader(someFares())
		c = impl.Coord{Net: s.Net, Fares: s.Fares}
	}
	for range c.Net {
		c.Where = append(c.Where, 1+r.below(2))
	}
	c, _ = coReplayed(c)
	return c
}

// coords are those who decide that are ok, Up or not: new ones, those at limits, and any others. They are made once, and stay.
var coords = sync.OnceValue(func() []impl.Coord {
	list := []impl.Coord{{}, {Up: true, Next: 1}, {Fares: exampleFares(), Up: true, Next: 1}, coordOf(), knownCoord(), coordGiven(98), coordGiven(99)}
	r := numbers{57}
	for range 60 {
		list = append(list, r.coActs(r.coord(), 10+r.below(40)))
	}
	for _, c := range list[1:] {
		size := len(c.Log)
		list = append(list, coFallen(c, c.Log[:r.below(size+1)]+anyOf(&r, "", "x", "0:3:S 1")))
	}
	return list
})

// someFares are lists of fares that are ok; they are made once, and stay.
var someFares = sync.OnceValue(func() [][]impl.Fare {
	return append([][]impl.Fare{exampleFares(), exampleFares()}, fareLists()[6:40]...)
})
