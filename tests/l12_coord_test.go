package tests

import (
	"math"
	"slices"
	"strconv"
	"strings"
	"testing"

	"loop.example/stopover/impl"
)

func TestCoordLimits(t *testing.T) {
	if impl.CoordAge != 4 || impl.CoAsks != 1 || impl.CoDone != 2 || impl.CoNot != 3 {
		t.Error("limits")
	}
}

// checkCoHear lets one who decides hear a message, and checks what comes of it.
func checkCoHear(t *testing.T, c impl.Coord, m impl.Msg) (impl.Coord, []impl.Msg, []impl.Reply) {
	t.Helper()
	want, wantSaid, wantTold := coHearIn(c, m)
	got, said, told := impl.CoordHear(c, m)
	if !sameCoord(got, want) || !sameMsgs(said, wantSaid) || !slices.Equal(told, wantTold) {
		t.Errorf("%v hears %v: %v says %v, %v; not %v, %v, %v", c, m, got, said, told, want, wantSaid, wantTold)
	}
	if !impl.CoordOk(got) || !strings.HasPrefix(got.Log, c.Log) {
		t.Errorf("%v hears %v: %v is not ok", c, m, got)
	}
	for i, x := range c.Txns {
		if y := got.Txns[i]; x.Stands != 1 && (y.Stands != x.Stands || y.Txn != x.Txn) {
			t.Errorf("%v hears %v: %d was %d, and is %d", c, m, x.Txn, x.Stands, y.Stands)
		}
	}
	return got, said, told
}

func TestP57Hear(t *testing.T) {
	r, seen := numbers{570}, map[string]int{}
	for _, c := range coords() {
		if !impl.CoordOk(c) || !fineCoord(c) {
			t.Fatalf("%v is not ok", c)
		}
		for range 15 {
			got, said, told := checkCoHear(t, c, r.coMsg(c))
			for _, m := range said {
				seen["decides "+strconv.FormatBool(m.Yes)]++
			}
			for _, reply := range told {
				seen[reply.Text[:2]]++
			}
			if !sameCoord(got, c) && len(said) == 0 {
				seen["keeps"]++
			}
		}
	}
	if len(seen) != 6 || seen["so"] < 30 || seen["ba"] < 3 || seen["no"] < 30 || seen["keeps"] < 100 {
		t.Error(seen)
	}
}

// coMsgs are messages for one who decides: of each kind, from each, about each transaction, and such as nobody sends.
func coMsgs() []impl.Msg {
	var list []impl.Msg
	for _, kind := range append([]int{-1, 0, 1, 2, 3, 4, 5, 6, 258}, ends...) {
		for _, txn := range []int{-1, 0, 1, 2, 3, 4, 5, 6, 7, 8, 99, 100} {
			for _, from := range []int{1, 2} {
				list = append(list, impl.Msg{Kind: kind, From: from, Txn: txn, Yes: true}, impl.Msg{Kind: kind, From: from, Txn: txn}, impl.Msg{Kind: kind, From: from, Txn: txn, Yes: true, Ops: []impl.Op{op("la", 0, 1, 1)}})
			}
		}
	}
	for _, n := range append([]int{-1, 0, 3, 1<<32 + 1}, ends...) {
		for _, kind := range []int{2, 4, 5} {
			for _, txn := range []int{1, 2, 4, 5, 8} {
				list = append(list, impl.Msg{Kind: kind, From: n, Txn: txn, Yes: true}, impl.Msg{Kind: kind, From: n, Txn: txn}, impl.Msg{Kind: kind, From: 1, To: n, Txn: txn, Yes: txn%2 > 0}, impl.Msg{Kind: kind, From: 1, Txn: n})
			}
		}
	}
	for _, to := range []int{1, 2} {
		list = append(list, impl.Msg{Kind: 2, From: 1, To: to, Txn: 2, Yes: true}, impl.Msg{Kind: 2, To: to, Txn: 2}, impl.Msg{Kind: 5, From: 3 - to, To: to, Txn: 8}, impl.Msg{Kind: 4, From: 1, To: to, Txn: 1, Yes: true})
	}
	return list
}

func TestP57EachMessage(t *testing.T) {
	c := knownCoord()
	for _, one := range []impl.Coord{c, coFallen(c, c.Log), coFallen(c, c.Log+"10:"), coordOf()} {
		for _, m := range coMsgs() {
			checkCoHear(t, one, m)
		}
	}
}

// One who decides hears requests, messages and ticks, falls now and then, and rises; the log says all that was decided.
func TestP57LongPlay(t *testing.T) {
	r := numbers{571}
	for range 12 {
		c := r.coord()
		for range 60 {
			c = r.checkedAct(t, c)
			now, ok := coReplayed(coFallen(c, c.Log))
			for _, x := range c.Txns {
				if place := coAt(now, x.Txn); (place >= 0) != (x.Stands != 1) || place >= 0 && now.Txns[place].Stands != x.Stands {
					t.Fatalf("%v: %d", c, x.Txn)
				}
			}
			if !ok || now.Next != c.Next || !impl.CoordOk(c) {
				t.Fatalf("%v is not what the log says: %v", c, now)
			}
		}
	}
}

// checkedAct lets one thing happen to one who decides, and checks what comes of it.
func (r *numbers) checkedAct(t *testing.T, c impl.Coord) impl.Coord {
	t.Helper()
	req, sale, m, bytes := 1+r.below(25), 1+r.below(25), r.coMsg(c), r.below(70)
	trip := r.coTrip(c)
	switch r.below(10) {
	case 0, 1, 2:
		return checkCoSell(t, c, req, trip)
	case 3:
		return checkCoBack(t, c, req, sale)
	case 4:
		return checkCoTick(t, c)
	case 5:
		down := impl.CoordCrash(c, m, bytes)
		if want := coCrashIn(c, m, bytes); !sameCoord(down, want) {
			t.Errorf("%v falls: %v, not %v", c, down, want)
		}
		risen := impl.CoordRise(down)
		if want := coRiseIn(down); !sameCoord(risen, want) {
			t.Errorf("%v rises: %v, not %v", down, risen, want)
		}
		return risen
	}
	got, _, _ := checkCoHear(t, c, m)
	return got
}

func checkCoSell(t *testing.T, c impl.Coord, req int, trip impl.Trip) impl.Coord {
	t.Helper()
	want, wantSaid, wantText := coSellIn(c, req, trip)
	got, said, text := impl.CoordSell(c, req, trip)
	if !sameCoord(got, want) || !sameMsgs(said, wantSaid) || text != wantText {
		t.Errorf("%v sells %v to %d: %v says %v, %q; not %v, %v, %q", c, trip, req, got, said, text, want, wantSaid, wantText)
	}
	return got
}

func checkCoBack(t *testing.T, c impl.Coord, req int, sale int) impl.Coord {
	t.Helper()
	want, wantSaid, wantText := coBackIn(c, req, sale)
	got, said, text := impl.CoordBack(c, req, sale)
	if !sameCoord(got, want) || !sameMsgs(said, wantSaid) || text != wantText {
		t.Errorf("%v gives %d back to %d: %v says %v, %q; not %v, %v, %q", c, sale, req, got, said, text, want, wantSaid, wantText)
	}
	return got
}

func checkCoTick(t *testing.T, c impl.Coord) impl.Coord {
	t.Helper()
	want, wantSaid, wantTold := coTickIn(c)
	got, said, told := impl.CoordTick(c)
	if !sameCoord(got, want) || !sameMsgs(said, wantSaid) || !slices.Equal(told, wantTold) {
		t.Errorf("a tick of %v: %v says %v, %v; not %v, %v, %v", c, got, said, told, want, wantSaid, wantTold)
	}
	return got
}

func vote(from int, txn int, yes bool) impl.Msg {
	return impl.Msg{Kind: 2, From: from, Txn: txn, Yes: yes}
}

func ack(from int, txn int, yes bool) impl.Msg {
	return impl.Msg{Kind: 4, From: from, Txn: txn, Yes: yes}
}

func how(from int, txn int) impl.Msg {
	return impl.Msg{Kind: 5, From: from, Txn: txn}
}

func decision(to int, txn int, yes bool) impl.Msg {
	return impl.Msg{Kind: 3, To: to, Txn: txn, Yes: yes}
}

func reply(req int, text string) []impl.Reply {
	return []impl.Reply{{Req: req, Text: text}}
}

// What is heard by an example, and what is said and written, each by name.
func TestP57KnownLog(t *testing.T) {
	trip, _ := impl.TripRead("la-lb/full/2")
	c, said, text := impl.CoordSell(coordOf(), 31, trip)
	if text != "" || c.Log != logOf([]string{"S 1"}) || !sameMsgs(said, []impl.Msg{prepare(1, op("la", 0, 2, 333)), {Kind: 1, To: 2, Txn: 1, Ops: []impl.Op{op("lb", 0, 2, 667)}}}) {
		t.Errorf("%v says %v, %q", c, said, text)
	}
	for i, step := range []struct {
		m    impl.Msg
		said []impl.Msg
		told []impl.Reply
		log  []string
	}{
		{how(1, 1), nil, nil, []string{"S 1"}}, {vote(2, 1, true), nil, nil, []string{"S 1"}}, {vote(2, 1, true), nil, nil, []string{"S 1"}}, {ack(1, 1, true), nil, nil, []string{"S 1"}},
		{vote(1, 1, true), []impl.Msg{decision(1, 1, true), decision(2, 1, true)}, reply(31, "sold 1 at 10.00"), []string{"S 1", "D 1 31 0 la-lb/full/2"}},
		{vote(1, 1, false), nil, nil, []string{"S 1", "D 1 31 0 la-lb/full/2"}}, {vote(2, 1, true), nil, nil, []string{"S 1", "D 1 31 0 la-lb/full/2"}}, {how(2, 1), []impl.Msg{decision(2, 1, true)}, nil, []string{"S 1", "D 1 31 0 la-lb/full/2"}}, {ack(2, 1, false), nil, nil, []string{"S 1", "D 1 31 0 la-lb/full/2"}},
		{ack(2, 1, true), nil, nil, []string{"S 1", "D 1 31 0 la-lb/full/2"}}, {how(2, 1), []impl.Msg{decision(2, 1, true)}, nil, []string{"S 1", "D 1 31 0 la-lb/full/2"}},
	} {
		var told []impl.Reply
		c, said, told = impl.CoordHear(c, step.m)
		if !sameMsgs(said, step.said) || !slices.Equal(told, step.told) || c.Log != logOf(step.log) {
			t.Errorf("step %d: %v, %v, %q", i, said, told, c.Log)
		}
	}
	want := impl.CoTxn{Txn: 1, Req: 31, Trip: trip, Price: 1000, Stands: 2, Shards: []int{1, 2}, Yes: []int{2, 1}, Acks: []int{2}}
	if len(c.Txns) != 1 || !sameCoTxn(c.Txns[0], want) || c.Next != 2 {
		t.Errorf("%v", c)
	}
	c, said, text = impl.CoordBack(c, 32, 31)
	if text != "" || c.Log != logOf([]string{"S 1", "D 1 31 0 la-lb/full/2", "S 2"}) || !sameMsgs(said, []impl.Msg{prepare(2, op("la", 0, -2, 333)), {Kind: 1, To: 2, Txn: 2, Ops: []impl.Op{op("lb", 0, -2, 667)}}}) {
		t.Errorf("%v says %v, %q", c, said, text)
	}
	c, _, _ = impl.CoordHear(c, vote(1, 2, true))
	c, said, told := impl.CoordHear(c, vote(2, 2, true))
	if !sameMsgs(said, []impl.Msg{decision(1, 2, true), decision(2, 2, true)}) || !slices.Equal(told, reply(32, "back 31")) || c.Log != logOf([]string{"S 1", "D 1 31 0 la-lb/full/2", "S 2", "D 2 32 31 la-lb/full/2"}) {
		t.Errorf("%v says %v, %v", c, said, told)
	}
}

// Nothing is done that was not asked of all, and told to all.
func TestP58AllYes(t *testing.T) {
	r, done := numbers{58}, 0
	for _, c := range coords() {
		list := []impl.Msg{r.coMsg(c), r.coMsg(c), r.coMsg(c)}
		for _, x := range c.Txns {
			list = append(list, vote(1, x.Txn, true), vote(2, x.Txn, true), ack(1, x.Txn, true))
		}
		for _, m := range list {
			got, said, told := impl.CoordHear(c, m)
			for i, x := range c.Txns {
				y := got.Txns[i]
				if x.Stands == 2 || y.Stands != 2 {
					continue
				}
				done++
				if m.Kind != 2 || !m.Yes || m.Txn != x.Txn || !slices.Contains(x.Shards, m.From) {
					t.Errorf("%v: done by %v", x, m)
				}
				for _, shard := range y.Shards {
					if shard != m.From && !slices.Contains(x.Yes, shard) || !slices.Contains(y.Yes, shard) {
						t.Errorf("%v: done without %d", x, shard)
					}
				}
				if !sameMsgs(said, tellsIn(y)) || len(said) != len(y.Shards) || !slices.Equal(told, reply(x.Req, toldOf(y))) {
					t.Errorf("%v: %v, %v", x, said, told)
				}
			}
		}
	}
	if done < 50 {
		t.Errorf("only %d are done", done)
	}
}

// A shard that says yes twice is one, and one that has nothing to do with it is none.
func TestP58NotEnough(t *testing.T) {
	for _, first := range []int{1, 2} {
		c := asking(coordOf("S 1"), 1, 7, 0, "la-lb/full/1", 3)
		c, said, told := checkCoHear(t, c, vote(first, 1, true))
		if len(said)+len(told) != 0 || !slices.Equal(c.Txns[0].Yes, []int{first}) || c.Txns[0].Age != 3 {
			t.Errorf("%v: %v", c, said)
		}
		again, said, told := checkCoHear(t, c, vote(first, 1, true))
		if len(said)+len(told) != 0 || !sameCoord(again, c) {
			t.Errorf("%v: %v", again, said)
		}
		c, said, told = checkCoHear(t, c, vote(3-first, 1, true))
		if len(said) != 2 || len(told) != 1 || c.Txns[0].Stands != 2 || c.Txns[0].Age != 0 || !slices.Equal(c.Txns[0].Yes, []int{first, 3 - first}) {
			t.Errorf("%v: %v", c, said)
		}
	}
	for text, shard := range map[string]int{"la/full/1": 1, "lb/full/1": 2, "lc/full/1": 1} {
		c := asking(coordOf("S 1"), 1, 7, 0, text, 0)
		if got, said, told := checkCoHear(t, c, vote(3-shard, 1, true)); len(said)+len(told) != 0 || !sameCoord(got, c) {
			t.Errorf("%s: %v", text, said)
		}
		if got, said, _ := checkCoHear(t, c, vote(shard, 1, true)); !sameMsgs(said, []impl.Msg{decision(shard, 1, true)}) || got.Txns[0].Stands != 2 {
			t.Errorf("%s: %v", text, said)
		}
	}
}

func TestP59OneNo(t *testing.T) {
	refused := 0
	for _, c := range coords() {
		for i, x := range c.Txns[:min(len(c.Txns), 12)] {
			for _, from := range []int{1, 2} {
				got, said, told := checkCoHear(t, c, vote(from, x.Txn, false))
				if x.Stands != 1 {
					if !sameCoord(got, c) || len(said)+len(told) != 0 {
						t.Errorf("%v: %v, %v", x, said, told)
					}
					continue
				}
				refused++
				var want []impl.Msg
				for _, shard := range x.Shards {
					want = append(want, decision(shard, x.Txn, false))
				}
				y := got.Txns[i]
				if !slices.Equal(told, reply(x.Req, "no")) || !sameMsgs(said, want) || y.Stands != 3 || y.Age != 0 || !slices.Equal(y.Yes, x.Yes) || len(y.Acks) > 0 {
					t.Errorf("%v: %v, %v, %v", x, said, told, y)
				}
				if records, _ := recordsIn(got.Log); records[len(records)-1] != endText(x, 3) {
					t.Errorf("%v: %q", x, records)
				}
				// A late yes of all changes nothing.
				for _, late := range []int{1, 2} {
					if again, said, told := impl.CoordHear(got, vote(late, x.Txn, true)); !sameCoord(again, got) || len(said)+len(told) != 0 {
						t.Errorf("%v: a late vote: %v, %v", x, said, told)
					}
				}
			}
		}
	}
	if refused < 60 {
		t.Errorf("only %d are refused", refused)
	}
}

func TestP60How(t *testing.T) {
	for _, c := range coords() {
		for i, txn := range append([]int{-1, 0, 1, 2, 3, 4, 5, 6, 7, 8, 50, 98, 99, 100}, ends...) {
			m := how(1+i%2, txn)
			m.Yes = i%3 == 0
			place := coAt(c, txn)
			var want []impl.Msg
			if c.Up && txn >= 1 && txn <= 99 && (place < 0 || c.Txns[place].Stands != 1) {
				want = []impl.Msg{decision(m.From, txn, place >= 0 && c.Txns[place].Stands == 2)}
			}
			if got, said, told := impl.CoordHear(c, m); !sameCoord(got, c) || !sameMsgs(said, want) || len(told) > 0 {
				t.Errorf("%v: %v says %v, %v", m, c, said, told)
			}
		}
	}
}

// Who knows that a transaction ended is remembered once each, if it knows it rightly.
func TestP60Acks(t *testing.T) {
	c := coordOf("S 1", "S 2", "S 3", "S 4", "D 1 3 0 la-lb/full/1", "N 2 4 0 la-lb/full/1", "D 3 5 0 lb/full/1")
	c = asking(c, 4, 6, 0, "la-lb/full/1", 0)
	for _, x := range c.Txns {
		for _, from := range []int{1, 2} {
			for _, yes := range []bool{true, false} {
				got, said, told := checkCoHear(t, c, ack(from, x.Txn, yes))
				heard := x.Stands != 1 && yes == (x.Stands == 2) && slices.Contains(x.Shards, from)
				if len(said)+len(told) != 0 || sameCoord(got, c) == heard {
					t.Errorf("%v hears %v of %d: %v", x, yes, from, got)
				}
				if heard && !slices.Equal(got.Txns[coAt(got, x.Txn)].Acks, []int{from}) {
					t.Errorf("%v hears %v of %d: %v", x, yes, from, got)
				}
				if again, _, _ := checkCoHear(t, got, ack(from, x.Txn, yes)); !sameCoord(again, got) {
					t.Errorf("%v hears %v of %d twice: %v", x, yes, from, again)
				}
			}
		}
	}
	for _, order := range [][]int{{1, 2}, {2, 1}} {
		got := c
		for _, from := range order {
			got, _, _ = checkCoHear(t, got, ack(from, 1, true))
		}
		if !slices.Equal(got.Txns[0].Acks, order) {
			t.Errorf("%v", got.Txns[0])
		}
	}
}

func TestP61Sell(t *testing.T) {
	r, seen := numbers{61}, map[string]int{}
	for _, c := range coords() {
		reqs := []int{1 + r.below(30), 31 + r.below(60), 99}
		for _, x := range c.Txns {
			reqs = append(reqs, x.Req)
		}
		for _, req := range reqs[:min(len(reqs), 15)] {
			trip := r.coTrip(c)
			got := checkCoSell(t, c, req, trip)
			_, said, text := impl.CoordSell(c, req, trip)
			again, saidAgain, textAgain := impl.CoordSell(got, req, trip)
			if len(said) > 0 {
				seen["begins"]++
				checkBegun(t, c, got, req, 0, trip, said)
				if !sameCoord(again, got) || len(saidAgain) > 0 || textAgain != "" {
					t.Errorf("%v again for %d: %v, %v", trip, req, saidAgain, textAgain)
				}
				continue
			}
			seen[text[:min(2, len(text))]]++
			if !sameCoord(got, c) || textAgain != text || len(saidAgain) > 0 {
				t.Errorf("%v for %d: %v, %q, %q", trip, req, got, text, textAgain)
			}
		}
	}
	if seen["begins"] < 100 || seen["so"] < 20 || seen["no"] < 20 || seen["ba"] < 50 || seen[""] < 20 {
		t.Error(seen)
	}
}

// checkBegun checks that a transaction was begun, and that what was said has all its ops, each for the shard of its leg.
func checkBegun(t *testing.T, ahead impl.Coord, got impl.Coord, req int, back int, trip impl.Trip, said []impl.Msg) {
	t.Helper()
	ops, price, code := impl.TripOps(ahead.Net, ahead.Fares, trip)
	var all []impl.Op
	var shards []int
	for _, m := range said {
		if m.Kind != 1 || m.From != 0 || m.Txn != ahead.Next || m.Yes || !fineOps(m.Ops) {
			t.Errorf("%v is said", m)
		}
		shards = append(shards, m.To)
		for _, o := range m.Ops {
			if ahead.Where[legAt(ahead.Net, o.Leg)] != m.To {
				t.Errorf("%v is said, though it is kept elsewhere", m)
			}
			if back != 0 {
				o.Seats = -o.Seats
			}
			all = append(all, o)
		}
	}
	for _, o := range ops {
		if !slices.Contains(all, o) {
			t.Errorf("%v is not asked for", o)
		}
	}
	want := impl.CoTxn{Txn: ahead.Next, Req: req, Back: back, Trip: trip, Price: price, Stands: 1, Shards: shards}
	if last := got.Txns[len(got.Txns)-1]; code != 0 || len(all) != len(ops) || !sameCoTxn(last, want) || len(got.Txns) != len(ahead.Txns)+1 || got.Next != ahead.Next+1 || !slices.IsSorted(shards) {
		t.Errorf("%v begins %v, not %v", ahead, last, want)
	}
	if records, _ := recordsIn(got.Log); records[len(records)-1] != "S "+strconv.Itoa(ahead.Next) || !impl.CoordOk(got) {
		t.Errorf("%v begins, and writes %q", ahead, records)
	}
}

// What a request is told again is what it is told of the last transaction of it.
func TestP61ToldAgain(t *testing.T) {
	c := knownCoord()
	trip, _ := plainTrip("la-lb/full/1")
	bad, _ := plainTrip("lb-la/full/1")
	for req, want := range map[int]string{3: "sold 1 at 10.00", 40: "no", 99: "sold 6 at 1.20", 9: "", 12: "", 50: ""} {
		for _, asked := range []impl.Trip{trip, bad, {}} {
			if got, said, text := impl.CoordSell(c, req, asked); !sameCoord(got, c) || len(said) > 0 || text != want {
				t.Errorf("%d is told %q, %v", req, text, said)
			}
		}
		for _, sale := range []int{3, 40, 99, 0, 77, req} {
			if got, said, text := impl.CoordBack(c, req, sale); !sameCoord(got, c) || len(said) > 0 || text != want {
				t.Errorf("%d is told %q, %v", req, text, said)
			}
		}
	}
	two := coordOf("S 1", "S 2", "S 3", "D 1 3 0 la/full/1", "N 3 3 0 la/full/1", "D 2 3 8 la/full/1")
	for i, want := range []string{"back 8", "no", "sold 1 at 5.00"} {
		if _, _, text := impl.CoordSell(two, 3, trip); text != want {
			t.Errorf("the last but %d: %q", i, text)
		}
		two.Txns = append(two.Txns[2:3:3], two.Txns[:2]...)
	}
}

func TestP61Bad(t *testing.T) {
	c := knownCoord()
	for text, want := range map[string]string{"lb-la/full/1": "bad 11", "la-lb/zz/1": "bad 11", "zz/full/1": "bad 11", "la-lb/none/1": "bad 12", "": "bad 11"} {
		trip, _ := plainTrip(text)
		if got, said, told := impl.CoordSell(c, 77, trip); !sameCoord(got, c) || len(said) > 0 || told != want {
			t.Errorf("%q: %q, %v", text, told, said)
		}
	}
	for _, trip := range notTrips() {
		if got, said, told := impl.CoordSell(c, 77, trip); !sameCoord(got, c) || len(said) > 0 || told != "bad 11" {
			t.Errorf("%v: %q, %v", trip, told, said)
		}
	}
	// A request that may be none is not heard, nor one that comes while nobody is there.
	trip, _ := plainTrip("la/full/1")
	for _, req := range append([]int{-1, -99, 0, 100, 1<<32 + 1}, ends...) {
		for _, asked := range []impl.Trip{trip, {}} {
			if got, said, told := impl.CoordSell(c, req, asked); !sameCoord(got, c) || len(said) > 0 || told != "" {
				t.Errorf("%d: %q, %v", req, told, said)
			}
		}
	}
	down := coFallen(c, c.Log+"10:")
	for _, asked := range []impl.Trip{trip, {}} {
		for _, req := range []int{3, 40, 77} {
			if got, said, told := impl.CoordSell(down, req, asked); !sameCoord(got, down) || len(said) > 0 || told != "" {
				t.Errorf("down: %q, %v", told, said)
			}
		}
	}
}

// Numbers come to an end: the last one is given, and no more.
func TestP61Numbers(t *testing.T) {
	trip, _ := plainTrip("la/full/1")
	c := coordOf()
	for n := 1; n <= 100; n++ {
		got, said, text := impl.CoordSell(c, n, trip)
		if n < 100 && (len(said) != 1 || said[0].Txn != n || got.Next != n+1) || n == 100 && (len(said) > 0 || !sameCoord(got, c)) || text != "" {
			t.Fatalf("%d: %v, %q", n, said, text)
		}
		c = got
	}
	for free := range 3 {
		c := coordGiven(99 - free)
		for i := range 3 {
			got, said, text := impl.CoordSell(c, 11+i, trip)
			if begins := i < free; (len(said) == 1) != begins || sameCoord(got, c) == begins || text != "" {
				t.Errorf("%d numbers are left: %d: %v, %q", free, i, said, text)
			}
			c = got
		}
		// What cannot be is told all the same.
		if _, _, text := impl.CoordSell(c, 15, journey("none", 1, "la", "lb")); text != "bad 12" {
			t.Errorf("%q", text)
		}
	}
	// Written in as many bytes as may be, all transactions have room in the log.
	for _, c := range []impl.Coord{coordLongest(0), coordLongest(1)} {
		if !impl.CoordOk(c) || !impl.CoordOk(coFallen(c, c.Log)) || len(c.Log) > 9000 || len(c.Log) < 8700 {
			t.Errorf("%d bytes", len(c.Log))
		}
		if got, said, _ := impl.CoordBack(c, 1, 99); len(said) > 0 || !sameCoord(got, c) {
			t.Errorf("%v", said)
		}
	}
}

func TestP62Back(t *testing.T) {
	r, begun := numbers{62}, 0
	for _, c := range coords() {
		pairs := [][2]int{{1 + r.below(99), 1 + r.below(99)}, {77, 0}, {77, -1}, {77, 100}, {0, 3}, {100, 3}, {-1, 3}, {3, 3}}
		for _, x := range c.Txns[:min(len(c.Txns), 10)] {
			pairs = append(pairs, [2]int{31 + r.below(60), x.Req}, [2]int{31 + r.below(60), x.Back})
		}
		for _, pair := range pairs {
			req, sale := pair[0], pair[1]
			got := checkCoBack(t, c, req, sale)
			_, said, text := impl.CoordBack(c, req, sale)
			if len(said) == 0 {
				if !sameCoord(got, c) {
					t.Errorf("%v: %v", c, got)
				}
				continue
			}
			begun++
			last := got.Txns[len(got.Txns)-1]
			checkBegun(t, c, got, req, sale, last.Trip, said)
			sold := false
			for _, x := range c.Txns {
				sold = sold || x.Stands == 2 && x.Back == 0 && x.Req == sale && sameTrip(x.Trip, last.Trip)
				if x.Back == sale && x.Stands != 3 {
					t.Errorf("%v: %d is given back twice", c, sale)
				}
			}
			if !sold || text != "" {
				t.Errorf("%v: nothing was sold for %d", c, sale)
			}
			for _, m := range said {
				for _, o := range m.Ops {
					if o.Seats >= 0 {
						t.Errorf("%v", m)
					}
				}
			}
			for _, other := range []int{req, 31, 91} {
				if after, said, _ := impl.CoordBack(got, other, sale); len(said) > 0 || !sameCoord(after, got) {
					t.Errorf("%d again for %d: %v", sale, other, said)
				}
			}
		}
	}
	if begun < 40 {
		t.Errorf("only %d are given back", begun)
	}
}

// What is given back, may be again when that was refused; and of two that were sold the first is.
func TestP62KnownBack(t *testing.T) {
	for i, c := range []struct {
		c    impl.Coord
		sale int
		said string
	}{
		{coordOf("S 1", "D 1 3 0 la/full/1"), 3, "la:0:-1:500"}, {coordOf("S 1", "N 1 3 0 la/full/1"), 3, ""}, {asking(coordOf("S 1"), 1, 3, 0, "la/full/1", 0), 3, ""}, {coordOf("S 1", "D 1 3 0 la/full/1"), 1, ""}, {coordOf("S 1", "D 1 3 0 la/full/1"), 0, ""},
		{coordOf("S 1", "S 2", "D 1 3 0 la/full/1", "D 2 4 3 la/full/1"), 3, ""}, {coordOf("S 1", "S 2", "D 1 3 0 la/full/1", "N 2 4 3 la/full/1"), 3, "la:0:-1:500"}, {asking(coordOf("S 1", "S 2", "D 1 3 0 la/full/1"), 2, 4, 3, "la/full/1", 0), 3, ""},
		// What gave something back cannot be given back.
		{coordOf("S 1", "S 2", "D 1 3 0 la/full/1", "D 2 4 3 la/full/1"), 4, ""}, {coordOf("S 1", "D 1 3 8 la/full/1"), 3, ""},
		{coordOf("S 1", "S 2", "N 1 3 0 lb/full/1", "D 2 3 0 la/full/1"), 3, "la:0:-1:500"}, {coordOf("S 1", "S 2", "D 2 3 0 la/full/1", "D 1 3 0 lb/full/1"), 3, "la:0:-1:500"}, {coordOf("S 1", "S 2", "D 2 3 8 la/full/1", "D 1 3 0 lb/low/2"), 3, "lb:1:-2:120"},
	} {
		got, said, text := impl.CoordBack(c.c, 50, c.sale)
		ops := ""
		for _, m := range said {
			ops += opsText(m.Ops)
		}
		if ops != c.said || text != "" || sameCoord(got, c.c) != (c.said == "") {
			t.Errorf("case %d: %q, %q", i, ops, text)
		}
	}
	for free := range 2 {
		c := coordGiven(99 - free)
		c.Log = logOf(coRecords(c, "D 1 3 0 la/full/1"))
		c = coRiseIn(coFallen(c, c.Log))
		if got, said, _ := impl.CoordBack(c, 50, 3); len(said) != free || sameCoord(got, c) != (free == 0) {
			t.Errorf("%d numbers are left: %v", free, said)
		}
	}
}

// coRecords are the records of one who decides, and one more.
func coRecords(c impl.Coord, more string) []string {
	records, _ := recordsIn(c.Log)
	return append(records, more)
}

func TestP63FallsAtEachByte(t *testing.T) {
	r, wrote := numbers{63}, 0
	for _, c := range coords() {
		list := []impl.Msg{r.coMsg(c), {}}
		for _, x := range c.Txns {
			if x.Stands == 1 && len(list) < 6 {
				list = append(list, vote(x.Shards[0], x.Txn, true), vote(2, x.Txn, false))
			}
		}
		for _, m := range list {
			after, _, _ := coHearIn(c, m)
			added := after.Log[len(c.Log):]
			ahead, behind := coRiseIn(coFallen(c, c.Log)), coRiseIn(coFallen(c, after.Log))
			if len(added) > 0 {
				wrote++
			}
			for bytes := -2; bytes <= len(added)+2; bytes++ {
				down := impl.CoordCrash(c, m, bytes)
				if want := coFallen(c, c.Log+added[:min(max(bytes, 0), len(added))]); !sameCoord(down, want) || !impl.CoordOk(down) {
					t.Fatalf("%v falls at %d: %v", c, bytes, down)
				}
				want := ahead
				if bytes >= len(added) {
					want = behind
				}
				if risen := impl.CoordRise(down); !sameCoord(risen, want) {
					t.Fatalf("%v fell at %d: %v", c, bytes, risen)
				}
			}
		}
	}
	if wrote < 30 {
		t.Errorf("only %d write", wrote)
	}
}

func TestP63Ends(t *testing.T) {
	c, m := knownCoord(), vote(2, 5, true)
	whole := logOf(coRecords(c, "D 5 12 0 la-lb/full/1"))
	for _, bytes := range []int{0, -1, math.MinInt, math.MinInt + 1, -len(c.Log)} {
		if down := impl.CoordCrash(c, m, bytes); !sameCoord(down, coFallen(c, c.Log)) {
			t.Errorf("%d bytes: %v", bytes, down)
		}
	}
	for _, bytes := range []int{len(whole) - len(c.Log), 1000, 1 << 32, math.MaxInt - len(c.Log), math.MaxInt - 1, math.MaxInt} {
		if down := impl.CoordCrash(c, m, bytes); !sameCoord(down, coFallen(c, whole)) {
			t.Errorf("%d bytes: %v", bytes, down)
		}
	}
	if down := impl.CoordCrash(c, m, 3); !sameCoord(down, coFallen(c, c.Log+"10:")) {
		t.Errorf("three bytes: %v", down)
	}
	// What writes nothing leaves nothing, and what is not up stays as it is.
	for _, m := range []impl.Msg{{}, how(1, 1), ack(1, 1, true), vote(1, 2, true), vote(1, 1, false), vote(1, 7, true)} {
		torn := coFallen(c, c.Log+"10:21:D 5 1")
		if down := impl.CoordCrash(torn, m, math.MaxInt); !sameCoord(down, torn) {
			t.Errorf("%v: %v", m, down)
		}
		if m.Txn == 2 {
			continue
		}
		if down := impl.CoordCrash(c, m, math.MaxInt); !sameCoord(down, coFallen(c, c.Log)) {
			t.Errorf("%v: %v", m, down)
		}
	}
}

func TestP64Rise(t *testing.T) {
	for _, c := range coords() {
		risen := impl.CoordRise(c)
		if want := coRiseIn(c); !sameCoord(risen, want) || !risen.Up || !impl.CoordOk(risen) || !impl.LogOk(risen.Log) {
			t.Errorf("%v rises as %v", c, risen)
		}
		if again := impl.CoordRise(risen); !sameCoord(again, risen) {
			t.Errorf("%v rises twice", c)
		}
		if !c.Up {
			continue
		}
		// What ended stands, what asked is forgotten, and its number is not given again.
		risen = impl.CoordRise(coFallen(c, c.Log))
		if risen.Next != c.Next {
			t.Errorf("%v rises as %v", c, risen)
		}
		for _, x := range c.Txns {
			place := coAt(risen, x.Txn)
			if (place >= 0) != (x.Stands != 1) || place >= 0 && (risen.Txns[place].Stands != x.Stands || risen.Txns[place].Req != x.Req || toldOf(risen.Txns[place]) != toldOf(x)) {
				t.Errorf("%v rises as %v", x, risen)
			}
		}
	}
}

// What was begun when who decides fell: late votes are not heard, who asks is told no, and a request begins anew.
func TestP64Begun(t *testing.T) {
	trip, _ := plainTrip("la-lb/full/1")
	c, _, _ := impl.CoordSell(coordOf(), 7, trip)
	c, _, _ = impl.CoordHear(c, vote(1, 1, true))
	c = impl.CoordRise(impl.CoordCrash(c, vote(2, 1, true), 20))
	if len(c.Txns) != 0 || c.Next != 2 || c.Log != logOf([]string{"S 1"}) {
		t.Errorf("%v", c)
	}
	for _, m := range []impl.Msg{vote(1, 1, true), vote(2, 1, true), vote(1, 1, false), ack(1, 1, true), ack(2, 1, false)} {
		if got, said, told := impl.CoordHear(c, m); !sameCoord(got, c) || len(said)+len(told) > 0 {
			t.Errorf("%v: %v, %v", m, said, told)
		}
	}
	if _, said, _ := impl.CoordHear(c, how(2, 1)); !sameMsgs(said, []impl.Msg{decision(2, 1, false)}) {
		t.Errorf("%v", said)
	}
	got, said, text := impl.CoordSell(c, 7, trip)
	if len(said) != 2 || said[0].Txn != 2 || got.Next != 3 || text != "" {
		t.Errorf("%v, %v, %q", got, said, text)
	}
}

// A log that is cut off at each byte has its first records; and so it has with anything behind them.
func TestP64CutAnywhere(t *testing.T) {
	c := knownCoord()
	records, _ := recordsIn(c.Log)
	place := 0
	for size := 0; size <= len(c.Log); size++ {
		for place < len(records) && size >= len(logOf(records[:place+1])) {
			place++
		}
		want := coordOf(records[:place]...)
		for _, behind := range []string{"", "x", "\x00\xff", "10:3:S 8", "10:3:S 8000000000000;"} {
			down := coFallen(c, c.Log[:size]+behind)
			if risen := impl.CoordRise(down); !impl.CoordOk(down) || !sameCoord(risen, want) {
				t.Fatalf("cut at %d, and %q: %v", size, behind, risen)
			}
		}
		up := want
		up.Log = c.Log[:size]
		if impl.CoordOk(up) != (size == len(logOf(records[:place]))) {
			t.Errorf("up, cut at %d", size)
		}
	}
}

func TestP65Tick(t *testing.T) {
	seen := map[string]int{}
	for _, c := range coords() {
		for range 6 {
			got := checkCoTick(t, c)
			_, said, told := impl.CoordTick(c)
			for _, m := range said {
				seen[strconv.Itoa(m.Kind)+strconv.FormatBool(m.Yes)]++
			}
			seen["told"] += len(told)
			if !impl.CoordOk(got) {
				t.Errorf("%v behind a tick: %v", c, got)
			}
			c = got
		}
		for _, x := range c.Txns {
			if x.Stands == 1 {
				t.Errorf("%v asks still", x)
			}
		}
	}
	if seen["1false"] < 100 || seen["3true"] < 100 || seen["3false"] < 30 || seen["told"] < 30 || len(seen) != 4 {
		t.Error(seen)
	}
}

func TestP65Age(t *testing.T) {
	c := knownCoord()
	all := []impl.Msg{prepare(2, op("la", 0, -1, 333)), {Kind: 1, To: 2, Txn: 5, Ops: []impl.Op{op("lb", 0, 1, 667)}}, prepare(4, op("lc", 2, 1, 0))}
	done := []impl.Msg{decision(1, 1, true), decision(2, 6, true)}
	refused := []impl.Msg{decision(1, 5, false), decision(2, 5, false)}
	for i, want := range []struct {
		said []impl.Msg
		told []impl.Reply
		ages string
	}{
		{slices.Concat(done, all[:1], refused, all[2:]), reply(12, "no"), "0,0,0,2,0,1"}, {slices.Concat(done, all[:1], all[2:]), nil, "0,0,0,3,0,2"}, {slices.Concat(done, all[:1], all[2:]), nil, "0,0,0,4,0,3"},
		{slices.Concat(done, []impl.Msg{decision(1, 2, false), decision(2, 2, false)}, all[2:]), reply(9, "no"), "0,0,0,0,0,4"}, {slices.Concat(done, []impl.Msg{decision(1, 4, false)}), reply(50, "no"), "0,0,0,0,0,0"}, {done, nil, "0,0,0,0,0,0"},
	} {
		got, said, told := impl.CoordTick(c)
		var ages []int
		for _, x := range got.Txns {
			ages = append(ages, x.Age)
		}
		// 6 comes behind 1 and 3, and ahead of what asks.
		if !sameMsgs(said, want.said) || !slices.Equal(told, want.told) || commas(ages) != want.ages {
			t.Errorf("tick %d: %v, %v, %v", i, said, told, ages)
		}
		c = got
	}
	if records, _ := recordsIn(c.Log); !slices.Equal(records[10:], []string{"N 5 12 0 la-lb/full/1", "N 2 9 3 la-lb/full/1", "N 4 50 0 lc/none/1"}) {
		t.Errorf("%q", records)
	}
	down := coFallen(c, c.Log+"x")
	if got, said, told := impl.CoordTick(down); !sameCoord(got, down) || len(said)+len(told) > 0 {
		t.Errorf("down: %v, %v", said, told)
	}
}

func TestP66New(t *testing.T) {
	lists := [][]impl.Fare{nil, exampleFares()}
	for i, net := range nets() {
		where := make([]int, len(net))
		for j := range where {
			where[j] = 1 + (i+j)%2
		}
		fares := lists[i%2]
		c := impl.CoordNew(net, where, fares)
		if !holdsNone(net) {
			if !isNoCoord(c) {
				t.Errorf("%v: %v", net, c)
			}
			continue
		}
		if !sameCoord(c, impl.Coord{Net: net, Where: where, Fares: fares, Up: true, Next: 1}) || !impl.CoordOk(c) {
			t.Errorf("%v: %v", net, c)
		}
		for _, txn := range []int{1, 50, 99} {
			if _, said, _ := impl.CoordHear(c, how(2, txn)); !sameMsgs(said, []impl.Msg{decision(2, txn, false)}) {
				t.Errorf("%v", said)
			}
		}
		if legs, ok := impl.WorldLegs(c); !ok || !slices.EqualFunc(legs, net, sameLeg) {
			t.Errorf("%v: %v", net, legs)
		}
		for j := range where {
			for _, n := range append([]int{-1, 0, 3, 1<<32 + 1}, ends...) {
				bad := slices.Clone(where)
				bad[j] = n
				if c := impl.CoordNew(net, bad, fares); !isNoCoord(c) {
					t.Errorf("kept in %d: %v", n, c)
				}
			}
		}
		for _, bad := range [][]int{append(slices.Clone(where), 1), append([]int{2}, where...), make([]int, 100000)} {
			if c := impl.CoordNew(net, bad, fares); !isNoCoord(c) {
				t.Errorf("%v: %v", bad, c)
			}
		}
		if len(net) > 0 && (!isNoCoord(impl.CoordNew(net, where[1:], fares)) || !isNoCoord(impl.CoordNew(net, nil, fares))) {
			t.Errorf("%v without a place", net)
		}
	}
	for i, net := range notNets() {
		if c := impl.CoordNew(net, slices.Repeat([]int{1}, len(net)), exampleFares()); !isNoCoord(c) {
			t.Errorf("of net %d: %v", i, c)
		}
	}
	for i, fares := range notFares() {
		if c := impl.CoordNew(exampleNet(), []int{1, 2, 1}, fares); !isNoCoord(c) {
			t.Errorf("of fares %d: %v", i, c)
		}
	}
	if c := impl.CoordNew(nil, nil, nil); !sameCoord(c, impl.Coord{Up: true, Next: 1}) || !impl.CoordOk(c) {
		t.Errorf("of nothing: %v", c)
	}
}

// notCoRecords are records that the known one who decides does not write.
func notCoRecords() []string {
	return []string{
		"", " ", "S", "D", "N", "S ", "D ", "N ", "s 8", "S 7", "S 9", "S 0", "S -1", "S 100", "S 08", "S +8", "S  8", " S 8", "S 8 ", "S 8\n", "S8", "SS 8", "S 8 1", "S x", "S 18446744073709551624", "T 8", "P 8 lb:0:1:1", "C 7", "A 7", "\x00", "\xff",
		"D 2", "D 2 9", "D 2 9 3", "D 2 9 3 ", "D 2 9 la-lb/full/1", "d 2 9 3 la-lb/full/1", "n 2 9 3 la-lb/full/1", "DN 2 9 3 la/full/1", "D  2 9 3 la/full/1", "D 2  9 3 la/full/1", "D 2 9  3 la/full/1", "D 2 9 3  la/full/1", " D 2 9 3 la/full/1", "D 2 9 3 la/full/1 ", "D 2 9 3 la/full/1\n", "D2 9 3 la/full/1", "D 2 9 3la/full/1", "D,2,9,3,la/full/1",
		"D 8 9 3 la/full/1", "D 0 9 3 la/full/1", "D -1 9 3 la/full/1", "D 100 9 3 la/full/1", "D 02 9 3 la/full/1", "D +2 9 3 la/full/1", "D 1 9 3 la/full/1", "D 3 9 3 la/full/1", "D 6 9 3 la/full/1", "N 8 9 3 la/full/1", "N 0 9 3 la/full/1", "N 1 9 3 la/full/1", "N 3 9 3 la/full/1", "N 6 9 3 la/full/1", "D 18446744073709551618 9 3 la/full/1",
		"D 2 0 3 la/full/1", "D 2 -1 3 la/full/1", "D 2 100 3 la/full/1", "D 2 09 3 la/full/1", "D 2 9 -1 la/full/1", "D 2 9 100 la/full/1", "D 2 9 03 la/full/1", "D 2 9 -0 la/full/1", "D 2 9 00 la/full/1", "N 2 0 3 la/full/1", "N 2 9 100 la/full/1", "D 2 18446744073709551625 3 la/full/1",
		"D 2 9 3 lb-la/full/1", "D 2 9 3 zz/full/1", "D 2 9 3 la/zz/1", "D 2 9 3 la-lb/none/1", "D 2 9 3 la/full/0", "D 2 9 3 la/full/5", "D 2 9 3 la/full/01", "D 2 9 3 la/full", "D 2 9 3 la-la/full/1", "D 2 9 3 /full/1", "D 2 9 3 LA/full/1", "N 2 9 3 lb-la/full/1", "N 2 9 3 la-lb/none/1", "D 2 9 3 la/full/1 D 4 9 3 la/full/1", filled(1000), allBytes(),
	}
}

// notCoords are those who decide that are not ok, each for one reason.
func notCoords() []impl.Coord {
	var list []impl.Coord
	// Up, or not, they are none.
	both := func(change func(c *impl.Coord)) {
		up := coordCopy(knownCoord())
		change(&up)
		list = append(list, up, coFallen(up, up.Log))
	}
	for _, record := range notCoRecords() {
		both(func(c *impl.Coord) { c.Log = logOf(coRecords(*c, record)) })
		list = append(list, coFallen(knownCoord(), logOf([]string{record})))
	}
	for _, net := range notNets()[:40] {
		list = append(list, impl.Coord{Net: net, Where: slices.Repeat([]int{1}, len(net)), Up: true, Next: 1}, impl.Coord{Net: net, Where: slices.Repeat([]int{1}, len(net))})
	}
	for _, fares := range notFares()[:40] {
		both(func(c *impl.Coord) { c.Fares = fares })
		list = append(list, impl.Coord{Fares: fares}, impl.Coord{Fares: fares, Up: true, Next: 1})
	}
	for i := range 3 {
		both(func(c *impl.Coord) { c.Net[i].Holds = []impl.Hold{hold(5, 0, 1)} })
		for _, n := range append([]int{-1, 0, 3, 1<<32 + 1}, ends...) {
			both(func(c *impl.Coord) { c.Where[i] = n })
		}
	}
	for _, where := range [][]int{nil, {}, {1}, {1, 2}, {1, 2, 1, 1}, {1, 2, 1, 2, 1, 2}, make([]int, 100000)} {
		both(func(c *impl.Coord) { c.Where = where })
	}
	both(func(c *impl.Coord) { c.Net, c.Where = c.Net[:2], c.Where[:2]; c.Fares = c.Fares[:1] })
	for i := range 2 {
		both(func(c *impl.Coord) { c.Fares = slices.Delete(c.Fares, i, i+1) })
	}
	list = append(list, coFallen(knownCoord(), knownCoord().Log+filled(9001-len(knownCoord().Log))), coFallen(coordOf(), filled(100000)))
	// All numbers are given, and one more.
	over := coordGiven(99)
	over.Log, over.Next = logOf(coRecords(over, "S 100")), 101
	list = append(list, over, coFallen(over, over.Log))
	for _, c := range []impl.Coord{knownCoord(), coordOf("S 1"), coordOf()} {
		down := coFallen(c, c.Log)
		down.Next = 1
		list = append(list, down)
		down.Next = c.Next
		list = append(list, down)
		down.Next, down.Txns = 0, make([]impl.CoTxn, 1)
		list = append(list, down)
		c.Up = false
		list = append(list, c)
	}
	return append(list, notStandingsOfCo()...)
}

// notStandingsOfCo are those who decide that are Up, and do not stand by their log.
func notStandingsOfCo() []impl.Coord {
	var list []impl.Coord
	but := func(change func(c *impl.Coord)) {
		c := coordCopy(knownCoord())
		change(&c)
		list = append(list, c)
	}
	for _, behind := range []string{"x", "\x00", "10:3:S 8", "10:3:S 8000000000000;", filled(50)} {
		but(func(c *impl.Coord) { c.Log += behind })
	}
	for _, n := range append([]int{-1, 0, 1, 7, 9, 100}, ends...) {
		but(func(c *impl.Coord) { c.Next = n })
	}
	records, _ := recordsIn(knownCoord().Log)
	for i := range records {
		if i > 3 {
			but(func(c *impl.Coord) { c.Log = logOf(slices.Delete(slices.Clone(records), i, i+1)) })
		}
	}
	for _, more := range []string{"S 8", "N 2 9 3 la-lb/full/1", "D 7 9 3 la-lb/full/1", "D 4 50 0 lc/none/1"} {
		but(func(c *impl.Coord) { c.Log = logOf(append(slices.Clone(records), more)) })
	}
	for i := range 6 {
		txn := func(change func(x *impl.CoTxn)) {
			but(func(c *impl.Coord) { change(&c.Txns[i]) })
		}
		for _, n := range append([]int{-1, 0, 1, 2, 3, 4, 5, 6, 7, 8, 9, 99, 100}, ends...) {
			// Those that ask may be of a number that was given, and of any request.
			txn(func(x *impl.CoTxn) {
				if x.Txn = n; i > 2 && n == 7 || x.Txn == []int{1, 3, 6, 2, 5, 4}[i] {
					x.Txn = 8
				}
			})
			txn(func(x *impl.CoTxn) {
				if x.Req = n; i > 2 && n >= 1 && n <= 99 || x.Req == []int{3, 40, 99, 0, 0, 0}[i] {
					x.Req = 0
				}
			})
			txn(func(x *impl.CoTxn) {
				if x.Back = n; i > 2 && n >= 0 && n <= 99 || n == 0 {
					x.Back = -1
				}
			})
			txn(func(x *impl.CoTxn) {
				if x.Price == n {
					n = -1
				}
				x.Price = n
			})
			txn(func(x *impl.CoTxn) {
				if x.Stands == n {
					n = 0
				}
				x.Stands = n
			})
			txn(func(x *impl.CoTxn) {
				if n >= 0 && n <= 4 {
					n = 5
				}
				x.Age = n
			})
			txn(func(x *impl.CoTxn) { x.Yes = []int{3} })
		}
		for _, other := range [][]int{nil, {}, {0}, {2, 1}, {1, 1}, {1, 2, 3}, {1, 2, 2}, {3}, {-1}, {1, 2, 1}, make([]int, 100000)} {
			txn(func(x *impl.CoTxn) { x.Shards = other })
			if len(other) == 0 {
				continue
			}
			if other[0] < 1 || other[0] > 2 || len(other) != 2 || other[0] == other[1] {
				txn(func(x *impl.CoTxn) { x.Yes = other })
				txn(func(x *impl.CoTxn) { x.Acks = other })
			}
		}
		for _, text := range []string{"", "la/full/2", "lb-la/full/1", "la-lb/none/1", "lc/full/1"} {
			txn(func(x *impl.CoTxn) { x.Trip, _ = plainTrip(text) })
		}
		for _, trip := range notTrips()[:12] {
			txn(func(x *impl.CoTxn) { x.Trip = trip })
		}
		if i < 3 {
			but(func(c *impl.Coord) { c.Txns = slices.Delete(c.Txns, i, i+1) })
		} else {
			txn(func(x *impl.CoTxn) { x.Yes = slices.Clone(x.Shards) })
			txn(func(x *impl.CoTxn) { x.Acks = slices.Clone(x.Shards[:1]) })
		}
		but(func(c *impl.Coord) { c.Txns = append(c.Txns, c.Txns[i]) })
	}
	but(func(c *impl.Coord) { c.Txns = append(c.Txns, impl.CoTxn{}) })
	but(func(c *impl.Coord) { c.Txns = nil })
	but(func(c *impl.Coord) { c.Txns = make([]impl.CoTxn, 100000) })
	// A trip of the same price and shards that is not the one of the record.
	but(func(c *impl.Coord) { c.Txns[0].Trip.Seats = 2 })
	but(func(c *impl.Coord) { c.Txns[2].Trip.Seats = 2 })
	return list
}

func TestP57NoCoords(t *testing.T) {
	trip, _ := plainTrip("la/full/1")
	for i, c := range notCoords() {
		if fineCoord(c) {
			t.Fatalf("coord %d is ok: %v", i, c)
		}
		if impl.CoordOk(c) {
			t.Errorf("coord %d is ok: %v", i, c)
		}
		for _, req := range []int{0, 3, 77} {
			if got, said, text := impl.CoordSell(c, req, trip); !isNoCoord(got) || len(said) > 0 || text != "" {
				t.Errorf("coord %d sells: %v, %q", i, said, text)
			}
			if got, said, text := impl.CoordBack(c, req, 3); !isNoCoord(got) || len(said) > 0 || text != "" {
				t.Errorf("coord %d gives back: %v, %q", i, said, text)
			}
		}
		for _, m := range []impl.Msg{{}, how(1, 1), vote(1, 2, true), vote(1, 5, false)} {
			if got, said, told := impl.CoordHear(c, m); !isNoCoord(got) || len(said)+len(told) > 0 {
				t.Errorf("coord %d hears %v: %v", i, m, said)
			}
			if got := impl.CoordCrash(c, m, 10); !isNoCoord(got) {
				t.Errorf("coord %d falls: %v", i, got)
			}
		}
		if got, said, told := impl.CoordTick(c); !isNoCoord(got) || len(said)+len(told) > 0 {
			t.Errorf("coord %d: a tick: %v", i, said)
		}
		if legs, ok := impl.WorldLegs(c); !isNoCoord(impl.CoordRise(c)) || ok || len(legs) > 0 {
			t.Errorf("coord %d rises, or has legs", i)
		}
	}
}

// What one who decides may be, beside what comes about of itself.
func TestP57OtherCoords(t *testing.T) {
	for i, change := range []func(c *impl.Coord){
		func(c *impl.Coord) {}, func(c *impl.Coord) { slices.Reverse(c.Txns) }, func(c *impl.Coord) { c.Txns[0].Yes = []int{2, 1} }, func(c *impl.Coord) { c.Txns[0].Yes = nil }, func(c *impl.Coord) { c.Txns[0].Acks = []int{2, 1} }, func(c *impl.Coord) { c.Txns[1].Yes = []int{1} },
		func(c *impl.Coord) { c.Txns[0].Age = 4 }, func(c *impl.Coord) { c.Txns[1].Age = 4 }, func(c *impl.Coord) { c.Txns[3].Age = 4 }, func(c *impl.Coord) { c.Txns[3].Req = 3 }, func(c *impl.Coord) { c.Txns[3].Back = 99 }, func(c *impl.Coord) { c.Txns[3].Back = 9 }, func(c *impl.Coord) { c.Txns[3].Txn = 7 }, func(c *impl.Coord) { c.Txns = c.Txns[:3] },
		func(c *impl.Coord) { c.Txns[5].Yes, c.Txns[5].Acks = []int{}, []int{} },
		func(c *impl.Coord) { *c = coFallen(*c, c.Log+filled(9000-len(c.Log))) }, func(c *impl.Coord) {
			*c = impl.Coord{Net: []impl.Leg{}, Where: []int{}, Fares: []impl.Fare{}, Txns: []impl.CoTxn{}}
		},
		// More may be written than one machine can do.
		func(c *impl.Coord) {
			*c = coordOf("S 1", "S 2", "D 1 3 0 lc/full/1", "D 2 3 0 lc/full/1")
		}, func(c *impl.Coord) { *c = coordOf("S 1", "D 1 3 99 lc/full/4") },
	} {
		c := coordCopy(knownCoord())
		change(&c)
		if !impl.CoordOk(c) || !fineCoord(c) {
			t.Errorf("case %d: %v", i, c)
		}
	}
}

func TestP57Memory(t *testing.T) {
	known := knownCoord()
	for i, c := range []impl.Coord{known, coFallen(known, known.Log), coFallen(known, known.Log+"x")} {
		given, trip, msg := withRoom(c), withRoom(journey("low", 1, "lb")), withRoom(vote(2, 5, true))
		net, where, fares := withRoom(c.Net), withRoom(c.Where), withRoom(c.Fares)
		givenAhead, tripAhead, msgAhead, netAhead, whereAhead, faresAhead := whole(given), whole(trip), whole(msg), whole(net), whole(where), whole(fares)
		type answer struct {
			Coord impl.Coord
			Said  []impl.Msg
			Told  []impl.Reply
		}
		answers := map[string]answer{
			"new": {Coord: impl.CoordNew(net, where, fares)}, "crash": {Coord: impl.CoordCrash(given, msg, 10)}, "rise": {Coord: impl.CoordRise(given)},
		}
		hears := func(what string, got impl.Coord, said []impl.Msg, told []impl.Reply) {
			answers[what] = answer{got, said, told}
		}
		asks := func(what string, got impl.Coord, said []impl.Msg, _ string) {
			answers[what] = answer{got, said, nil}
		}
		for j, m := range []impl.Msg{msg, vote(1, 2, true), vote(1, 4, false), how(1, 1), ack(1, 1, true), {}} {
			got, said, told := impl.CoordHear(given, m)
			hears("hear "+strconv.Itoa(j), got, said, told)
		}
		got, said, told := impl.CoordTick(given)
		hears("tick", got, said, told)
		got, said, text := impl.CoordSell(given, 77, trip)
		asks("sell", got, said, text)
		got, said, text = impl.CoordSell(given, 3, trip)
		asks("sell again", got, said, text)
		got, said, text = impl.CoordBack(given, 78, 99)
		asks("back", got, said, text)
		got, said, text = impl.CoordBack(given, 78, 4)
		asks("back none", got, said, text)
		legs, _ := impl.WorldLegs(given)
		impl.CoordOk(given)
		checkStays(t, "coord", given, givenAhead)
		checkStays(t, "trip", trip, tripAhead)
		checkStays(t, "message", msg, msgAhead)
		checkStays(t, "net", net, netAhead)
		checkStays(t, "where", where, whereAhead)
		checkStays(t, "fares", fares, faresAhead)
		checkApart(t, "legs", legs, given)
		for what, one := range answers {
			checkApart(t, strconv.Itoa(i)+" "+what, one, given, trip, msg, net, where, fares)
		}
	}
}
