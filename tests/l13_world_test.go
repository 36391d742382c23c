package tests

import (
	"math"
	"slices"
	"strconv"
	"strings"
	"testing"

	"loop.example/stopover/impl"
)

func TestWorldLimits(t *testing.T) {
	if impl.WorldMaxRadio != 60 || impl.WorldMaxPlay != 120 {
		t.Error("limits")
	}
	if impl.WorldSell != 1 || impl.WorldBack != 2 || impl.WorldBring != 3 || impl.WorldLose != 4 || impl.WorldTick != 5 || impl.WorldCrash != 6 || impl.WorldRise != 7 {
		t.Error("events")
	}
}

// checkSafe checks that a world is ok and safe.
func checkSafe(t *testing.T, what string, w impl.World) {
	t.Helper()
	if !impl.WorldOk(w) || !impl.WorldSafe(w) {
		t.Errorf("%s: not safe: %v", what, w)
	}
}

// checkCalm checks that all comes to an end in a calm, and that all legs are as one machine has them.
func checkCalm(t *testing.T, what string, w impl.World) impl.World {
	t.Helper()
	calm := impl.WorldCalm(w, 8)
	legs, ok := impl.WorldLegs(calm.Coord)
	if !ok || !impl.WorldStill(calm) || !impl.WorldSafe(calm) || len(calm.Radio) > 0 {
		t.Errorf("%s: %v in a calm: %q", what, w, impl.WorldBoard(calm))
		return calm
	}
	for _, s := range calm.Shards {
		if !slices.EqualFunc(s.Legs, keptIn(legs, calm.Coord.Where, s.Id), sameLeg) {
			t.Errorf("%s: shard %d has %v, not %v", what, s.Id, s.Legs, legs)
		}
	}
	return calm
}

// From a new world on, all that may happen leaves it safe, at each step.
func TestP67Plays(t *testing.T) {
	r, told := numbers{67}, map[string]int{}
	for range 40 {
		w := worldOf(r.coord())
		for range 80 {
			next, _ := impl.WorldDo(w, r.event(w))
			if !impl.WorldSafe(next) {
				t.Fatalf("%v is not safe behind %v", next, w)
			}
			w = next
		}
		if !safeIn(w) {
			t.Errorf("%v is not safe", w)
		}
		for _, one := range w.Told {
			told[one.Text[:2]]++
		}
	}
	if told["so"] < 20 || told["no"] < 20 || told["ba"] < 20 {
		t.Error(told)
	}
}

// fallsAtEachByte calls for a world in which a sale, and what gives it back, went on for some steps, and then one fell.
func fallsAtEachByte(check func(what string, w impl.World)) {
	w := exampleWorld()
	for _, first := range []impl.Event{sells(1, "la-lb/full/2"), sells(2, "la/full/1"), backs(3, 1)} {
		w, _ = stepIn(w, first)
		for step := 0; len(w.Radio) > 0; step++ {
			for at := range 3 {
				size := -1
				for bytes := 0; bytes < 100; bytes++ {
					down, _ := stepIn(w, falls(at, bytes))
					log := down.Coord.Log + down.Shards[0].Log + down.Shards[1].Log
					if len(log) == size {
						break
					}
					size = len(log)
					check("a fall of "+strconv.Itoa(at)+" at "+strconv.Itoa(step)+", "+strconv.Itoa(bytes), down)
				}
			}
			w, _ = stepIn(w, brings(0))
		}
	}
}

func TestP67FallsAtEachByte(t *testing.T) {
	count := 0
	fallsAtEachByte(func(what string, w impl.World) {
		count++
		checkSafe(t, what, w)
		if count%3 == 0 {
			checkCalm(t, what, w)
		}
	})
	if count < 300 {
		t.Errorf("only %d falls", count)
	}
}

// safeWorld is a still world in which la-lb was sold to 1, lc refused to 2, and lb sold to 3.
func safeWorld() impl.World {
	c := coordOf("S 1", "S 2", "S 3", "D 1 1 0 la-lb/full/1", "N 2 2 0 lc/full/1", "D 3 3 0 lb/low/2")
	c = acked(acked(c, 1, 1, 2), 3, 2)
	w := worldOf(c)
	w = withShardLog(w, 1, "P 1 la:0:1:500", "P 2 lc:0:1:500", "C 1", "A 2")
	w = withShardLog(w, 2, "P 3 lb:1:2:120", "P 1 lb:0:1:500", "C 3", "C 1")
	w.Told = []impl.Reply{{Req: 1, Text: "sold 1 at 10.00"}, {Req: 2, Text: "no"}, {Req: 1, Text: "sold 1 at 10.00"}, {Req: 4, Text: "bad 11"}, {Req: 1, Text: "bad 12"}}
	return w
}

func withShardLog(w impl.World, id int, records ...string) impl.World {
	return withShard(w, shardOf(id, w.Shards[id-1].Base, records...))
}

// withCoLog is a world whose one who decides has a log, and has heard of all that are done.
func withCoLog(w impl.World, records ...string) impl.World {
	w.Coord = coordOf(records...)
	for i, x := range w.Coord.Txns {
		w.Coord.Txns[i].Acks = slices.Clone(x.Yes)
	}
	return w
}

// unsafeWorlds are worlds that are ok, but not safe, each for one reason, by name.
func unsafeWorlds() map[string]impl.World {
	list := map[string]impl.World{}
	but := func(what string, change func(w impl.World) impl.World) {
		list[what] = change(worldCopy(safeWorld()))
	}
	told := func(req int, text string) {
		but(strconv.Itoa(req)+" is told "+text, func(w impl.World) impl.World {
			w.Told = append(w.Told, impl.Reply{Req: req, Text: text})
			return w
		})
	}
	for _, text := range []string{"no", "sold 1 at 10.01", "sold 2 at 10.00", "sold 1 at 10.0", "sold 1", "back 1", "", "bad", "bad11", "Bad 11", " bad 11", "sold 1 at 10.00\n", "asks", allBytes()} {
		told(1, text)
	}
	for _, text := range []string{"sold 2 at 5.00", "sold 1 at 10.00", "back 2", "", "No", "no "} {
		told(2, text)
		told(77, text)
		told(0, text)
		told(math.MinInt, text)
	}
	told(3, "no")
	two := func(what string, first []string, second []string) {
		but(what, func(w impl.World) impl.World {
			return withShardLog(withShardLog(w, 1, first...), 2, second...)
		})
	}
	one, other := []string{"P 1 la:0:1:500", "P 2 lc:0:1:500", "C 1", "A 2"}, []string{"P 3 lb:1:2:120", "P 1 lb:0:1:500", "C 3", "C 1"}
	two("kept, and refused", append(one[:3:3], "C 2"), other)
	two("kept, and unknown", append(one[:4:4], "P 9 la:0:1:500", "C 9"), other)
	two("gone, and done", append(one[:2:2], "A 1", "A 2"), other)
	two("gone at the other one, and done", one, append(other[:2:2], "A 3", "C 1"))
	two("done, and not known", one[1:2], other)
	two("done, and not known at the other one", one, []string{"P 1 lb:0:1:500", "C 1"})
	two("done, and asked elsewhere", append(one[:4:4], "P 3 la:0:1:500"), other)
	two("done, and kept elsewhere", append(one[:4:4], "P 3 la:0:1:500", "C 3"), other)
	two("other seats", append(one[:4:4], "P 5 la:0:1:500", "A 5"), []string{"P 3 lb:1:1:120", "P 1 lb:0:1:500", "C 3", "C 1"})
	two("another class", one, []string{"P 3 lb:0:2:120", "P 1 lb:0:1:500", "C 3", "C 1"})
	two("another leg", []string{"P 1 lc:0:1:500", "C 1"}, other)
	but("more than one machine can do", func(w impl.World) impl.World {
		w = withCoLog(w, "S 1", "S 2", "S 3", "D 1 1 0 la-lb/full/1", "D 3 3 0 lb/low/2", "D 2 2 0 lb/full/1")
		w.Told = nil
		return withShardLog(w, 2, "P 3 lb:1:2:120", "P 1 lb:0:1:500", "C 3", "C 1", "P 2 lb:1:-1:0", "C 2")
	})
	but("more than one machine can do, and something is open", func(w impl.World) impl.World {
		w = withCoLog(w, "S 1", "S 2", "D 1 1 0 lc/full/1", "D 2 1 0 lc/full/1")
		w.Coord.Txns[1].Acks, w.Told = nil, nil
		return withShardLog(withShardLog(w, 1, "P 1 lc:0:1:500", "C 1", "P 2 la:0:1:500"), 2)
	})
	but("given back ahead of the sale", func(w impl.World) impl.World {
		w = withCoLog(w, "S 1", "S 2", "D 2 2 1 la/full/1", "D 1 1 0 la/full/1")
		w.Told = nil
		return withShardLog(withShardLog(w, 1, "P 1 la:0:1:500", "C 1", "P 2 la:0:-1:500", "C 2"), 2)
	})
	but("down, and kept", func(w impl.World) impl.World {
		s := shardOf(1, w.Shards[0].Base, "P 1 la:0:1:500", "P 2 lc:0:1:500", "C 1", "C 2")
		return withShard(w, fallen(s, s.Log+"4:"))
	})
	but("down, and gone", func(w impl.World) impl.World {
		s := shardOf(1, w.Shards[0].Base, "P 1 la:0:1:500", "A 1")
		return withShard(w, fallen(s, s.Log))
	})
	but("who decides is down, and kept", func(w impl.World) impl.World {
		w.Coord = coFallen(w.Coord, logOf([]string{"S 1", "S 2", "S 3", "D 1 1 0 la-lb/full/1", "N 2 2 0 lc/full/1"}))
		return w
	})
	return list
}

func TestP67NotSafe(t *testing.T) {
	w := safeWorld()
	checkSafe(t, "a safe one", w)
	if !impl.WorldStill(w) || !safeIn(w) || !stillIn(w) {
		t.Errorf("%v", w)
	}
	for what, w := range unsafeWorlds() {
		if !fineWorld(w) || safeIn(w) {
			t.Fatalf("%s: %v", what, w)
		}
		if !impl.WorldOk(w) || impl.WorldSafe(w) {
			t.Errorf("%s: %v", what, w)
		}
	}
}

// What is safe, beside what comes about of itself: as long as something is open, legs may be otherwise.
func TestP67Safe(t *testing.T) {
	for i, change := range []func(w impl.World) impl.World{
		func(w impl.World) impl.World { w.Told = nil; return w },
		func(w impl.World) impl.World {
			w.Told = append(w.Told, impl.Reply{Req: 3, Text: "sold 3 at 1.20"}, impl.Reply{Text: "no"}, impl.Reply{Req: 100, Text: "bad "}, impl.Reply{Req: -1, Text: "bad luck\n"})
			return w
		},
		func(w impl.World) impl.World { w.Coord.Txns[2].Acks = nil; return withShardLog(w, 2, other()...) },
		func(w impl.World) impl.World {
			return withShard(withShardLog(w, 2, other()...), fallen(w.Shards[0], w.Shards[0].Log))
		},
		func(w impl.World) impl.World {
			w.Coord = coFallen(w.Coord, w.Coord.Log+"6:")
			return withShardLog(w, 2, other()...)
		},
		func(w impl.World) impl.World {
			w.Coord.Next, w.Coord.Log = 5, logOf(coRecords(w.Coord, "S 4"))
			w.Coord = asking(w.Coord, 4, 9, 0, "la/full/1", 0)
			return withShardLog(w, 2, other()...)
		},
		func(w impl.World) impl.World { return withShardLog(w, 2, append(other(), "P 50 lb:0:1:1")...) },
		// Of a request what was decided last is told.
		func(w impl.World) impl.World {
			w = withCoLog(w, "S 1", "S 2", "S 3", "D 1 1 0 la-lb/full/1", "D 3 1 0 lb/low/2", "N 2 1 0 lc/full/1")
			w.Told = []impl.Reply{{Req: 1, Text: "sold 3 at 1.20"}}
			return w
		},
		func(w impl.World) impl.World {
			w = withCoLog(w, "S 1", "S 2", "S 3", "D 1 1 0 la-lb/full/1", "D 3 1 1 la-lb/full/1", "N 2 1 0 lc/full/1")
			w.Told = []impl.Reply{{Req: 1, Text: "back 1"}}
			w = withShardLog(w, 1, "P 1 la:0:1:500", "C 1", "P 3 la:0:-1:500", "C 3")
			return withShardLog(w, 2, "P 1 lb:0:1:500", "C 1", "P 3 lb:0:-1:500", "C 3")
		},
		// Nobody need know of what is not decided, and a message may be under way.
		func(w impl.World) impl.World {
			w.Radio = []impl.Msg{prepare(9, op("zz", 0, 1, 1)), decision(1, 3, true)}
			return withShardLog(w, 1, "P 1 la:0:1:500", "C 1", "P 9 la:0:1:500", "A 9")
		},
	} {
		w := change(worldCopy(safeWorld()))
		if !safeIn(w) {
			t.Fatalf("case %d: %v", i, w)
		}
		checkSafe(t, "case "+strconv.Itoa(i), w)
	}
}

// other is the records of a shard that has sold other seats than were decided.
func other() []string {
	return []string{"P 3 lb:1:1:120", "P 1 lb:0:1:500", "C 3", "C 1"}
}

func TestP68Calm(t *testing.T) {
	r, done := numbers{68}, 0
	for i := range 60 {
		first := worldOf(r.coord())
		w := first
		var list []impl.Event
		for range 120 {
			e := r.event(w)
			list = append(list, e)
			w, _ = stepIn(w, e)
			if len(w.Coord.Log) > 3000 {
				break
			}
		}
		got := impl.WorldPlay(first, list)
		if !sameWorld(got, w) {
			t.Fatalf("%v is played: %v, not %v", list, got, w)
		}
		calm := checkCalm(t, "play "+strconv.Itoa(i), got)
		for _, x := range calm.Coord.Txns {
			if x.Stands == 2 {
				done++
			}
		}
	}
	if done < 40 {
		t.Errorf("only %d are done", done)
	}
}

// Rounds are 0 to 20; fewer are none, and more are 20.
func TestP68Rounds(t *testing.T) {
	for i, w := range worlds(680, 4, 30) {
		calm := w
		for rounds := range 7 {
			got := impl.WorldCalm(w, rounds)
			if want := calmIn(w, rounds); !sameWorld(got, want) || !sameWorld(got, calm) {
				t.Errorf("world %d, %d rounds: %v, not %v", i, rounds, got, want)
			}
			calm = impl.WorldCalm(calm, 1)
		}
		for _, rounds := range append([]int{-1, -20, 0}, ends[:3]...) {
			if got := impl.WorldCalm(w, rounds); !sameWorld(got, w) {
				t.Errorf("world %d, %d rounds: %v", i, rounds, got)
			}
		}
		most := impl.WorldCalm(w, 20)
		for _, rounds := range append([]int{21, 100}, ends[3:]...) {
			if got := impl.WorldCalm(w, rounds); !sameWorld(got, most) || !impl.WorldStill(got) {
				t.Errorf("world %d, %d rounds: %v", i, rounds, got)
			}
		}
	}
}

// In a round all rise first, so that nothing that is under way is lost; then what is brought is told ahead of the ticks.
func TestP68OneRound(t *testing.T) {
	trip, _ := plainTrip("la-lb/full/1")
	c, said, _ := coSellIn(asking(coordOf("S 1"), 1, 5, 0, "lc/full/1", 4), 7, trip)
	w := worldOf(c)
	w.Radio = said
	for at := 1; at <= 2; at++ {
		w = withShard(w, fallen(w.Shards[at-1], ""))
	}
	for rounds, want := range [][]impl.Reply{nil, {{Req: 7, Text: "sold 2 at 10.00"}, {Req: 5, Text: "no"}}, {{Req: 7, Text: "sold 2 at 10.00"}, {Req: 5, Text: "no"}}} {
		got := impl.WorldCalm(w, rounds)
		if !slices.Equal(got.Told, want) || !sameWorld(got, calmIn(w, rounds)) || impl.WorldStill(got) != (rounds > 0) {
			t.Errorf("%d rounds: %v", rounds, got)
		}
	}
	// The tick of 0 comes ahead of those of shards, and all is brought behind each: 2 is kept ahead of 1, which nobody tells of itself.
	w = worldOf(coordOf("S 1", "S 2", "S 3", "D 2 7 0 la/full/1", "N 1 8 0 lc/full/1", "N 3 9 0 la-lb/full/1"))
	w = withShardLog(withShardLog(w, 1, "P 1 lc:0:1:500", "P 3 la:0:1:333", "P 2 la:0:1:500"), 2, "P 3 lb:0:1:667")
	calm := impl.WorldCalm(w, 1)
	if records, _ := recordsIn(calm.Shards[0].Log); !slices.Equal(records[3:], []string{"C 2", "A 1", "A 3"}) || !slices.Equal(calm.Coord.Txns[2].Acks, []int{1, 2}) || !impl.WorldStill(calm) {
		t.Errorf("%q: %v", records, calm)
	}
	// Who decides is down: what shards ask it is brought behind their ticks, in the first round.
	w = worldOf(coFallen(coordOf(), logOf([]string{"S 1"})))
	w = withShardLog(withShardLog(w, 1, "P 1 la:0:1:500"), 2, "P 1 lb:0:1:500")
	if got := impl.WorldCalm(w, 1); !impl.WorldStill(got) || standing(got.Shards[0], 1) != 3 || standing(got.Shards[1], 1) != 3 {
		t.Errorf("%v", got)
	}
}

// What a request was told it is told again, whatever happens.
func TestP69Told(t *testing.T) {
	r, again := numbers{69}, 0
	for range 25 {
		w := worldOf(r.coord())
		told := map[int]string{}
		for range 70 {
			w, _ = impl.WorldDo(w, r.event(w))
			for _, one := range w.Told {
				if !strings.HasPrefix(one.Text, "bad ") {
					told[one.Req] = one.Text
				}
			}
			if !w.Coord.Up {
				continue
			}
			for req, text := range told {
				again++
				trip := r.coTrip(w.Coord)
				if c, said, got := impl.CoordSell(w.Coord, req, trip); got != text || len(said) > 0 || !sameCoord(c, w.Coord) {
					t.Fatalf("%d was told %q, and is told %q", req, text, got)
				}
				if next, ok := impl.WorldDo(w, impl.Event{Kind: 1, At: req, Trip: trip}); !ok || len(next.Told) != len(w.Told)+1 || next.Told[len(w.Told)] != (impl.Reply{Req: req, Text: text}) || !sameCoord(next.Coord, w.Coord) {
					t.Fatalf("%d was told %q: %v", req, text, next.Told)
				}
			}
		}
	}
	if again < 1000 {
		t.Errorf("only %d times", again)
	}
}

func TestP70LegsOk(t *testing.T) {
	legs := 0
	for _, w := range worlds(70, 40, 100) {
		for _, s := range w.Shards {
			for _, l := range s.Legs {
				legs++
				if !impl.LegOk(l) {
					t.Errorf("%v", l)
				}
			}
		}
	}
	// More requests than seats, all at once and in any order.
	r := numbers{700}
	for range 20 {
		w := exampleWorld()
		var list []impl.Event
		for req := 1; req <= 10; req++ {
			list = append(list, sells(req, anyOf(&r, "la-lb/full/1", "la/full/2", "lb/full/1", "lb/low/2", "lc/full/1", "lc/low/1")))
		}
		for range 100 {
			list = append(list, impl.Event{Kind: anyOf(&r, 3, 3, 3, 5), At: r.below(3)})
		}
		w = impl.WorldPlay(w, list)
		for _, s := range w.Shards {
			for _, l := range s.Legs {
				if free := freeOf(l); !impl.LegOk(l) || slices.Min(free) < 0 {
					t.Errorf("%v", l)
				}
			}
		}
		checkCalm(t, "more requests than seats", w)
	}
	if legs < 100 {
		t.Errorf("only %d legs", legs)
	}
}

// What was decided can be done by one machine, and so can any beginning of it.
func TestP71Legs(t *testing.T) {
	sold := 0
	for _, w := range worlds(71, 40, 110) {
		records, _ := recordsIn(w.Coord.Log)
		for place := 0; place <= len(records); place++ {
			down := coFallen(w.Coord, logOf(records[:place]))
			for _, c := range []impl.Coord{down, coFallen(w.Coord, down.Log+"x")} {
				legs, ok := impl.WorldLegs(c)
				want, _ := legsIn(c)
				if !ok || !impl.NetOk(legs) || !slices.EqualFunc(legs, want, sameLeg) {
					t.Errorf("%q: %v, not %v", records[:place], legs, want)
				}
			}
		}
		if legs, ok := impl.WorldLegs(w.Coord); ok && !slices.EqualFunc(legs, w.Coord.Net, sameLeg) {
			sold++
		}
	}
	if sold < 15 {
		t.Errorf("only %d have sold", sold)
	}
}

func TestP71KnownLegs(t *testing.T) {
	for i, c := range []struct {
		c    impl.Coord
		want string
	}{
		{coordOf(), "0,0,0 0,0,0 0,0,0"}, {knownCoord(), "1,0,0 1,1,0 0,0,0"}, {coordOf("S 1", "S 2", "D 1 3 0 la-lb/full/2", "D 2 4 3 la-lb/full/2"), "0,0,0 0,0,0 0,0,0"}, {coordOf("S 1", "S 2", "D 1 3 0 la-lb/full/2", "N 2 4 3 la-lb/full/2"), "2,0,0 2,0,0 0,0,0"}, {asking(coordOf("S 1", "S 2", "D 1 3 0 la/full/2"), 2, 4, 3, "la/full/2", 0), "2,0,0 0,0,0 0,0,0"},
		// A seat that was worth more than it brought is sold, if that was decided.
		{coordOf("S 1", "S 2", "D 1 3 0 la/full/1", "D 2 4 0 la/low/1"), "1,1,0 0,0,0 0,0,0"},
		{coordOf("S 1", "S 2", "D 1 3 0 lc/full/1", "D 2 4 0 lc/full/1"), ""}, {coordOf("S 1", "D 1 3 0 la/full/3"), ""}, {coordOf("S 1", "S 2", "D 2 4 3 la/full/2", "D 1 3 0 la/full/2"), ""}, {coordOf("S 1", "D 1 3 99 la/full/1"), ""}, {coordOf("S 1", "D 1 3 0 lc/none/1"), "0,0,0 0,0,0 0,0,1"}, {coordOf("S 1", "D 1 3 0 lb/none/1"), ""},
	} {
		for _, one := range []impl.Coord{c.c, coFallen(c.c, c.c.Log)} {
			legs, ok := impl.WorldLegs(one)
			var words []string
			for _, l := range legs {
				words = append(words, commas(l.Sold))
			}
			if strings.Join(words, " ") != c.want || ok != (c.want != "") {
				t.Errorf("case %d: %v %v", i, words, ok)
			}
		}
	}
}

// checkDo lets something happen, and checks what comes of it.
func checkDo(t *testing.T, w impl.World, e impl.Event) (impl.World, bool) {
	t.Helper()
	want, wantOk := happenIn(w, e)
	got, ok := impl.WorldDo(w, e)
	if ok != wantOk || !sameWorld(got, want) {
		t.Errorf("%v behind %v: %v %v, not %v %v", w, e, got, ok, want, wantOk)
	}
	changed := 0
	if !sameCoord(got.Coord, w.Coord) {
		changed++
	}
	for i, s := range got.Shards {
		if !sameShard(s, w.Shards[i]) {
			changed++
		}
	}
	if changed > 1 || !impl.WorldOk(got) || !ok && !sameWorld(got, w) {
		t.Errorf("%v behind %v: %d are changed, in %v", w, e, changed, got)
	}
	return got, ok
}

func TestP72Do(t *testing.T) {
	r, happened := numbers{72}, map[int]int{}
	for _, w := range worlds(721, 50, 70) {
		if !impl.WorldOk(w) || !fineWorld(w) {
			t.Fatalf("%v is not ok", w)
		}
		for range 15 {
			e := r.event(w)
			if _, ok := checkDo(t, w, e); ok {
				happened[e.Kind]++
			}
		}
	}
	for kind := 1; kind <= 7; kind++ {
		if happened[kind] < 20 {
			t.Error(happened)
		}
	}
}

// Each event, with each place and number.
func TestP72EachEvent(t *testing.T) {
	trip, _ := plainTrip("la/full/1")
	for _, w := range knownWorlds() {
		for _, kind := range append([]int{-1, 0, 1, 2, 3, 4, 5, 6, 7, 8, 259}, ends[0], ends[5]) {
			for _, at := range append([]int{-1, 0, 1, 2, 3, 9, 59, 60, 99, 100, 1<<32 + 1}, ends[0], ends[5]) {
				for _, n := range []int{1, 40, -1} {
					checkDo(t, w, impl.Event{Kind: kind, At: at, N: n, Keep: n > 1, Trip: trip})
				}
			}
		}
		for _, n := range append([]int{0, 1, 2, 77, 100}, ends...) {
			checkDo(t, w, falls(0, n))
			checkDo(t, w, falls(1, n))
			checkDo(t, w, backs(50, n))
		}
		for _, trip := range notTrips()[:8] {
			checkDo(t, w, impl.Event{Kind: 1, At: 50, Trip: trip})
		}
	}
}

func TestP72CannotBe(t *testing.T) {
	w := played(sells(1, "la-lb/full/2"), falls(2, 0))
	down := played(sells(1, "la-lb/full/2"), falls(0, 0))
	for i, c := range []struct {
		w impl.World
		e impl.Event
	}{
		{w, sells(0, "la/full/1")}, {w, sells(100, "la/full/1")}, {w, backs(0, 1)}, {w, backs(100, 1)}, {w, brings(1)}, {w, brings(-1)}, {w, keeps(1)}, {w, loses(1)}, {w, loses(-1)}, {w, ticks(2)}, {w, ticks(3)}, {w, ticks(-1)}, {w, falls(2, 1)}, {w, falls(3, 1)}, {w, falls(-1, 1)}, {w, rises(0)}, {w, rises(1)}, {w, rises(3)}, {w, rises(-1)}, {w, impl.Event{}}, {w, impl.Event{Kind: 8}},
		{down, sells(1, "la-lb/full/2")}, {down, sells(7, "lb-la/full/1")}, {down, backs(2, 1)}, {down, ticks(0)}, {down, falls(0, 1)}, {exampleWorld(), brings(0)}, {exampleWorld(), loses(0)},
	} {
		if got, ok := impl.WorldDo(c.w, c.e); ok || !sameWorld(got, c.w) {
			t.Errorf("case %d: %v", i, got)
		}
	}
	for i, e := range []impl.Event{rises(2), ticks(1), ticks(0), falls(1, -5), falls(0, 5), brings(0), loses(0), sells(99, "lb-la/full/1"), backs(99, -7)} {
		if _, ok := impl.WorldDo(w, e); !ok {
			t.Errorf("case %d cannot be", i)
		}
	}
}

// A fall takes the first message to who falls, and no other one; what that would have said is not said.
func TestP72Falls(t *testing.T) {
	w := exampleWorld()
	w.Radio = []impl.Msg{how(1, 5), {Kind: 1, To: 2, Txn: 7, Ops: []impl.Op{op("lb", 0, 1, 1)}}, prepare(8, op("la", 0, 1, 500)), {Kind: 1, To: 2, Txn: 9, Ops: []impl.Op{op("lb", 0, 1, 1)}}}
	for at, place := range []int{0, 2, 1} {
		got, ok := impl.WorldDo(w, falls(at, 1000))
		if !ok || !sameMsgs(got.Radio, slices.Delete(slices.Clone(w.Radio), place, place+1)) || len(got.Told) > 0 {
			t.Errorf("a fall of %d: %v", at, got)
		}
		if at > 0 {
			want := []string{"", "P 8 la:0:1:500", "P 7 lb:0:1:1"}[at]
			if records, _ := recordsIn(got.Shards[at-1].Log); !slices.Equal(records, []string{want}) || got.Shards[at-1].Up || len(got.Shards[at-1].Legs) > 0 {
				t.Errorf("a fall of %d: %v", at, got.Shards)
			}
		}
		checkDo(t, w, falls(at, 12))
	}
	// Who is down hears nothing, and what comes to it is lost.
	for at := range 3 {
		down, _ := impl.WorldDo(w, falls(at, 0))
		for place, m := range down.Radio {
			got, ok := impl.WorldDo(down, brings(place))
			if m.To == at && (!ok || !sameMsgs(got.Radio, slices.Delete(slices.Clone(down.Radio), place, place+1))) {
				t.Errorf("%v comes to who is down: %v", m, got.Radio)
			}
		}
	}
}

// Up to sixty messages are under way; what would be one more is not sent.
func TestP72RadioLimit(t *testing.T) {
	for count := 56; count <= 61; count++ {
		w := exampleWorld()
		for i := range count {
			w.Radio = append(w.Radio, how(1+i%2, 1+i))
		}
		if impl.WorldOk(w) != (count <= 60) {
			t.Errorf("%d messages", count)
		}
		if count > 60 {
			continue
		}
		for _, e := range []impl.Event{sells(1, "la-lb/full/1"), sells(1, "la/full/1"), brings(0), keeps(0), keeps(count - 1), loses(3)} {
			got, _ := checkDo(t, w, e)
			added := map[int]int{1: 2, 3: 0, 4: -1}[e.Kind]
			if e.Keep || e.Kind == 1 && len(e.Trip.Legs) == 1 {
				added = 1
			}
			if len(got.Radio) != min(60, count+added) || e.Kind == 1 && len(got.Coord.Txns) != 1 {
				t.Errorf("%d messages behind %v: %d", count, e, len(got.Radio))
			}
		}
	}
	// Of two messages the first has room still.
	w := exampleWorld()
	w.Radio = slices.Repeat([]impl.Msg{how(1, 1)}, 59)
	if got, _ := impl.WorldDo(w, sells(1, "la-lb/full/1")); len(got.Radio) != 60 || got.Radio[59].To != 1 {
		t.Errorf("%v", got.Radio[57:])
	}
}

// notWorlds are worlds that are not ok, each for one reason.
func notWorlds() []impl.World {
	list := []impl.World{{}, {Coord: impl.Coord{Up: true, Next: 1}}, {Shards: exampleWorld().Shards}}
	but := func(change func(w *impl.World)) {
		w := worldCopy(knownWorlds()[5])
		change(&w)
		list = append(list, w)
	}
	for _, c := range notCoords()[:60] {
		but(func(w *impl.World) { w.Coord = c })
	}
	for _, s := range notShards()[:60] {
		but(func(w *impl.World) { w.Shards[0] = s })
		but(func(w *impl.World) { s.Id = 2; w.Shards[1] = s })
	}
	but(func(w *impl.World) { w.Shards = w.Shards[:1] })
	but(func(w *impl.World) { w.Shards = nil })
	but(func(w *impl.World) { w.Shards = append(w.Shards, w.Shards[1]) })
	but(func(w *impl.World) { w.Shards = make([]impl.Shard, 100000) })
	but(func(w *impl.World) { slices.Reverse(w.Shards) })
	for i := range 2 {
		but(func(w *impl.World) { w.Shards[i] = shardOf(2-i, w.Shards[i].Base) })
		but(func(w *impl.World) { w.Shards[i] = shardOf(i+1, w.Shards[1-i].Base) })
		but(func(w *impl.World) { w.Shards[i] = shardOf(i+1, nil) })
		but(func(w *impl.World) { w.Shards[i] = shardOf(i+1, exampleNet()) })
		but(func(w *impl.World) {
			base := netCopy(w.Shards[i].Base)
			base[0].Sold[0]++
			w.Shards[i] = shardOf(i+1, base)
		})
		but(func(w *impl.World) {
			base := netCopy(w.Shards[i].Base)
			slices.Reverse(base)
			base[0].Bids[0]++
			w.Shards[i] = shardOf(i+1, base)
		})
	}
	but(func(w *impl.World) {
		base := netCopy(w.Shards[0].Base)
		slices.Reverse(base)
		w.Shards[0] = shardOf(1, base)
	})
	but(func(w *impl.World) { w.Coord.Where[2] = 2 })
	for _, m := range notMsgs() {
		but(func(w *impl.World) { w.Radio = []impl.Msg{m} })
		but(func(w *impl.World) { w.Radio = append(w.Radio, how(1, 1), m) })
	}
	but(func(w *impl.World) { w.Radio = slices.Repeat([]impl.Msg{how(1, 1)}, 61) })
	but(func(w *impl.World) { w.Radio = slices.Repeat([]impl.Msg{how(1, 1)}, 100000) })
	return list
}

// notMsgs are messages that are not under way, each for one reason.
func notMsgs() []impl.Msg {
	one := []impl.Op{op("la", 0, 1, 500)}
	list := []impl.Msg{{}, {Kind: 1, To: 1, Txn: 1}, {Kind: 1, From: 1, Txn: 1, Ops: one}, {Kind: 5, Txn: 1}, {Kind: 5, From: 1, To: 2, Txn: 1}, {Kind: 3, From: 2, To: 2, Txn: 1}, {Kind: 1, From: 1, To: 1, Txn: 1, Ops: one}}
	for _, n := range append([]int{-1, 0, 6, 7, 257}, ends...) {
		list = append(list, impl.Msg{Kind: n, To: 1, Txn: 1}, impl.Msg{Kind: n, From: 1, Txn: 1}, impl.Msg{Kind: n, To: 1, Txn: 1, Ops: one})
	}
	for _, n := range append([]int{-1, 3, 1<<32 + 1}, ends...) {
		list = append(list, impl.Msg{Kind: 5, From: n, Txn: 1}, impl.Msg{Kind: 3, To: n, Txn: 1}, impl.Msg{Kind: 3, From: n, To: 1, Txn: 1}, impl.Msg{Kind: 5, From: 1, To: n, Txn: 1}, impl.Msg{Kind: 1, To: n, Txn: 1, Ops: one})
	}
	for _, n := range append([]int{-1, 0, 100}, ends...) {
		list = append(list, impl.Msg{Kind: 5, From: 1, Txn: n}, impl.Msg{Kind: 3, To: 1, Txn: n}, prepare(n, one...))
	}
	for kind := 2; kind <= 5; kind++ {
		list = append(list, impl.Msg{Kind: kind, From: 1, Txn: 1, Ops: one}, impl.Msg{Kind: kind, To: 1, Txn: 1, Ops: one})
	}
	for _, ops := range notOps()[:40] {
		list = append(list, prepare(1, ops...))
	}
	return list
}

func TestP72NoWorlds(t *testing.T) {
	for i, w := range notWorlds() {
		if fineWorld(w) {
			t.Fatalf("world %d is ok: %v", i, w)
		}
		if impl.WorldOk(w) || impl.WorldSafe(w) || impl.WorldStill(w) || impl.WorldBoard(w) != "" {
			t.Errorf("world %d is ok: %v", i, w)
		}
		for _, e := range []impl.Event{{}, sells(1, "la/full/1"), ticks(0), ticks(1), brings(0), rises(1)} {
			if got, ok := impl.WorldDo(w, e); ok || !isNoWorld(got) {
				t.Errorf("world %d behind %v: %v", i, e, got)
			}
		}
		for _, count := range []int{0, 1, 121} {
			if got := impl.WorldPlay(w, make([]impl.Event, count)); !isNoWorld(got) {
				t.Errorf("world %d is played: %v", i, got)
			}
			if got := impl.WorldCalm(w, count-1); !isNoWorld(got) {
				t.Errorf("world %d in a calm: %v", i, got)
			}
		}
	}
}

// What a world may be, beside what comes about of itself.
func TestP72OtherWorlds(t *testing.T) {
	for i, change := range []func(w *impl.World){
		func(w *impl.World) {}, func(w *impl.World) { w.Told = slices.Repeat([]impl.Reply{{Req: -1, Text: allBytes()}}, 1000) }, func(w *impl.World) { w.Radio, w.Told = []impl.Msg{}, []impl.Reply{} }, func(w *impl.World) { w.Radio = slices.Repeat([]impl.Msg{how(1, 1)}, 60) },
		// Messages that nobody says, of what nobody knows.
		func(w *impl.World) {
			w.Radio = []impl.Msg{{Kind: 2, To: 1, Txn: 99, Yes: true}, {Kind: 5, To: 2, Txn: 1, Yes: true, Ops: []impl.Op{}}, {Kind: 3, From: 1, Txn: 50, Yes: true}, {Kind: 4, To: 2, Txn: 7}, prepare(99, op("zz", 2, -4, 1000000000000), op("abcdefgh", 0, 4, 0))}
			w.Radio[4].Yes = true
		},
		func(w *impl.World) { w.Shards[0] = shardOf(1, w.Shards[0].Base, "P 99 lc:2:1:0") },
	} {
		w := worldCopy(knownWorlds()[5])
		change(&w)
		if !impl.WorldOk(w) || !fineWorld(w) {
			t.Errorf("case %d: %v", i, w)
		}
		for place := range w.Radio[:min(len(w.Radio), 5)] {
			checkDo(t, w, brings(place))
		}
	}
}

// Each message is lost, or comes twice, at each step of a sale and of what gives it back; all comes to an end.
func TestP73EachMessage(t *testing.T) {
	w := exampleWorld()
	for _, first := range []impl.Event{sells(1, "la-lb/full/2"), backs(2, 1), sells(3, "lb/low/1")} {
		w, _ = impl.WorldDo(w, first)
		for len(w.Radio) > 0 {
			for place := range w.Radio {
				got, ok := impl.WorldDo(w, loses(place))
				if !ok || !sameMsgs(got.Radio, slices.Delete(slices.Clone(w.Radio), place, place+1)) || !sameCoord(got.Coord, w.Coord) || !slices.EqualFunc(got.Shards, w.Shards, sameShard) || !slices.Equal(got.Told, w.Told) {
					t.Errorf("%v is lost: %v", w.Radio[place], got)
				}
				checkCalm(t, "lost", got)
				twice, _ := impl.WorldDo(w, keeps(place))
				checkSafe(t, "once", twice)
				again, _ := impl.WorldDo(twice, keeps(place))
				checkSafe(t, "twice", again)
				checkCalm(t, "twice", again)
			}
			w, _ = impl.WorldDo(w, brings(0))
		}
	}
	if !slices.Equal(w.Told, []impl.Reply{{Req: 1, Text: "sold 1 at 10.00"}, {Req: 2, Text: "back 1"}, {Req: 3, Text: "sold 3 at 1.20"}}) {
		t.Errorf("%v", w.Told)
	}
}

func TestP73Lose(t *testing.T) {
	lost := 0
	for _, w := range worlds(73, 25, 90) {
		for place := range w.Radio[:min(3, len(w.Radio))] {
			lost++
			got, ok := impl.WorldDo(w, loses(place))
			if !ok || len(got.Radio) != len(w.Radio)-1 || !sameCoord(got.Coord, w.Coord) {
				t.Errorf("%v is lost: %v", w.Radio[place], got)
			}
			checkCalm(t, "lost", got)
		}
		all := w
		all.Radio = nil
		checkCalm(t, "all lost", all)
	}
	if lost < 25 {
		t.Errorf("only %d are lost", lost)
	}
}

// A message that comes late, behind the end of what it is about, changes nothing but that it is answered.
func TestP73Late(t *testing.T) {
	w, list := exampleWorld(), []impl.Msg(nil)
	for _, first := range []impl.Event{sells(1, "la-lb/full/1"), backs(2, 1), sells(3, "lc/low/1"), sells(4, "lc/full/1")} {
		w, _ = impl.WorldDo(w, first)
		for len(w.Radio) > 0 {
			list = append(list, w.Radio[0])
			w, _ = impl.WorldDo(w, brings(0))
		}
	}
	for i, m := range list {
		late := w
		late.Radio = []impl.Msg{m}
		got, _ := checkDo(t, late, brings(0))
		checkSafe(t, "late", got)
		calm := checkCalm(t, "late", got)
		if !slices.Equal(calm.Told, w.Told) {
			t.Errorf("message %d: %v", i, calm.Told)
		}
		for at := range 3 {
			down, _ := impl.WorldDo(late, falls(at, 7))
			checkSafe(t, "late, and a fall", down)
			down.Radio = append(down.Radio, m)
			calm := checkCalm(t, "late, and a fall", down)
			if !slices.Equal(calm.Told, w.Told) {
				t.Errorf("message %d: %v", i, calm.Told)
			}
		}
	}
	if len(list) < 20 {
		t.Errorf("only %d messages", len(list))
	}
}

func TestP74StaysStill(t *testing.T) {
	still := 0
	for _, w := range worlds(74, 25, 60) {
		for range 2 {
			if got := impl.WorldStill(w); got != stillIn(w) {
				t.Errorf("%v is still: %v", w, got)
			}
			if impl.WorldStill(w) {
				still++
				if calm := impl.WorldCalm(w, 2); !sameWorld(calm, w) {
					t.Errorf("%v in a calm: %v", w, calm)
				}
			}
			w = impl.WorldCalm(w, 8)
		}
	}
	if still < 30 {
		t.Errorf("only %d are still", still)
	}
}

// One thing that is open, or under way, is enough.
func TestP74NotStill(t *testing.T) {
	for i, change := range []func(w impl.World) impl.World{
		func(w impl.World) impl.World { w.Radio = []impl.Msg{how(1, 1)}; return w }, func(w impl.World) impl.World { w.Coord.Txns[0].Acks = []int{2}; return w }, func(w impl.World) impl.World { w.Coord.Txns[2].Acks = nil; return w },
		func(w impl.World) impl.World { w.Coord = coFallen(w.Coord, w.Coord.Log); return w }, func(w impl.World) impl.World { return withShard(w, fallen(w.Shards[0], w.Shards[0].Log)) }, func(w impl.World) impl.World { return withShard(w, fallen(w.Shards[1], w.Shards[1].Log)) },
		func(w impl.World) impl.World { return withShardLog(w, 1, "P 1 la:0:1:500") }, func(w impl.World) impl.World { return withShardLog(w, 2, "P 9 lb:0:1:500") },
		func(w impl.World) impl.World {
			w.Coord.Next, w.Coord.Log = 5, logOf(coRecords(w.Coord, "S 4"))
			w.Coord = asking(w.Coord, 4, 9, 0, "la/full/1", 0)
			return w
		},
	} {
		w := change(worldCopy(safeWorld()))
		if !fineWorld(w) || stillIn(w) {
			t.Fatalf("case %d: %v", i, w)
		}
		if impl.WorldStill(w) {
			t.Errorf("case %d: %v", i, w)
		}
	}
	w := worldCopy(safeWorld())
	w.Coord.Txns[1].Acks, w.Told = nil, slices.Repeat([]impl.Reply{{Req: 9, Text: "sold"}}, 100)
	if !impl.WorldStill(w) || impl.WorldSafe(w) {
		t.Error("what is not done, and what was told, are no matter")
	}
}

func TestP75ToldSold(t *testing.T) {
	sold := 0
	check := func(w impl.World) {
		if !impl.WorldSafe(w) {
			return
		}
		for _, one := range w.Told {
			if !strings.HasPrefix(one.Text, "sold ") {
				continue
			}
			sold++
			if !slices.ContainsFunc(decidedIn(w.Coord), func(x impl.CoTxn) bool { return x.Req == one.Req && toldOf(x) == one.Text }) {
				t.Errorf("%v is told %q", w, one.Text)
			}
		}
	}
	for _, w := range worlds(75, 30, 90) {
		check(w)
		for _, one := range []impl.Reply{{Req: 1, Text: "sold 1 at 10.00"}, {Req: 2, Text: "sold 2 at 1.00"}, {Req: 77, Text: "sold 3 at 5.00"}} {
			with := w
			with.Told = append(slices.Clone(w.Told), one)
			if impl.WorldSafe(with) != safeIn(with) {
				t.Errorf("%v", with)
			}
			check(with)
		}
	}
	if sold < 10 {
		t.Errorf("only %d are sold", sold)
	}
}

// In a world in which nothing goes wrong, a request is told of a sale just if one machine would sell.
func TestP76Sells(t *testing.T) {
	r, sold := numbers{76}, map[bool]int{}
	for range 40 {
		first := worldOf(r.coord())
		c := first.Coord
		for range 6 {
			trip, req := r.coTrip(c), 1+r.below(99)
			trip.Seats = 1 + r.below(3)
			_, code := impl.SerialSell(impl.Serial{Net: c.Net, Fares: c.Fares}, req, trip)
			w, ok := impl.WorldDo(impl.WorldNew(c.Net, c.Where, c.Fares), impl.Event{Kind: 1, At: req, Trip: trip})
			w = checkCalm(t, "a sale", w)
			if !ok || len(w.Told) != 1 || w.Told[0].Req != req || strings.HasPrefix(w.Told[0].Text, "sold ") != (code == 0) {
				t.Errorf("%v to %d: %v, and by one machine %d", trip, req, w.Told, code)
			}
			if code > 20 && w.Told[0].Text != "no" || (code == 11 || code == 12) && w.Told[0].Text != "bad "+strconv.Itoa(code) {
				t.Errorf("%v to %d: %v, and by one machine %d", trip, req, w.Told, code)
			}
			sold[code == 0]++
		}
	}
	if sold[true] < 40 || sold[false] < 40 {
		t.Error(sold)
	}
}

func TestP77New(t *testing.T) {
	r := numbers{77}
	for range 60 {
		c := r.coord()
		w := impl.WorldNew(c.Net, c.Where, c.Fares)
		if !sameWorld(w, worldOf(c)) || !impl.WorldOk(w) || !impl.WorldSafe(w) || !impl.WorldStill(w) {
			t.Errorf("%v: %v", c, w)
		}
		var names []string
		for _, s := range w.Shards {
			for _, l := range s.Legs {
				names = append(names, l.Name)
			}
		}
		if namesTwin(names) || len(names) != len(c.Net) {
			t.Errorf("%v", names)
		}
	}
	if w := impl.WorldNew(nil, nil, nil); !impl.WorldOk(w) || !impl.WorldSafe(w) || !impl.WorldStill(w) || len(w.Shards) != 2 {
		t.Errorf("of nothing: %v", w)
	}
}

func TestP77NoWorld(t *testing.T) {
	for _, where := range [][]int{nil, {1}, {1, 2}, {1, 2, 0}, {1, 2, 3}, {1, 2, -1}, {1, 2, 1, 1}, {ends[0], 1, 1}, {1, ends[5], 1}} {
		if w := impl.WorldNew(exampleNet(), where, exampleFares()); !isNoWorld(w) {
			t.Errorf("%v: %v", where, w)
		}
	}
	for i, net := range notNets() {
		if w := impl.WorldNew(net, slices.Repeat([]int{2}, len(net)), nil); !isNoWorld(w) {
			t.Errorf("of net %d: %v", i, w)
		}
	}
	for i, fares := range notFares() {
		if w := impl.WorldNew(exampleNet(), []int{1, 1, 1}, fares); !isNoWorld(w) {
			t.Errorf("of fares %d: %v", i, w)
		}
	}
	held := exampleNet()
	held[1].Holds = []impl.Hold{hold(1, 0, 1)}
	if w := impl.WorldNew(held, []int{1, 1, 1}, nil); !isNoWorld(w) {
		t.Errorf("held: %v", w)
	}
}

func TestP78Play(t *testing.T) {
	r := numbers{78}
	for i, first := range worlds(780, 15, 30) {
		var list []impl.Event
		one := first
		for range 60 {
			e := r.event(one)
			list = append(list, e)
			one, _ = impl.WorldDo(one, e)
		}
		if got := impl.WorldPlay(first, list); !sameWorld(got, one) || !sameWorld(got, playIn(first, list)) {
			t.Errorf("world %d: %v, not %v", i, got, one)
		}
		if got := impl.WorldPlay(first, nil); !sameWorld(got, first) {
			t.Errorf("world %d by nothing: %v", i, got)
		}
	}
}

// A hundred and twenty are played, one more is not; those that cannot be count too.
func TestP78Limit(t *testing.T) {
	for _, other := range []impl.Event{ticks(0), {}, rises(0)} {
		for _, count := range []int{119, 120, 121, 1000} {
			list := slices.Repeat([]impl.Event{other}, count)
			list[count-1] = sells(1, "la/full/1")
			got := impl.WorldPlay(exampleWorld(), list)
			if played := len(got.Coord.Txns) == 1; played != (count <= 120) || !played && !sameWorld(got, exampleWorld()) {
				t.Errorf("%d: %v", count, got)
			}
		}
	}
}

func TestP79Board(t *testing.T) {
	for i, w := range worlds(79, 60, 90) {
		board := impl.WorldBoard(w)
		if want := worldBoardOf(w); board != want {
			t.Errorf("world %d: %q, not %q", i, board, want)
		}
		if strings.Count(board, "\n") <= len(w.Told)+len(w.Coord.Txns) {
			t.Errorf("world %d: %q", i, board)
		}
	}
}

func TestP79KnownBoard(t *testing.T) {
	c := asking(coordOf("S 1", "S 2", "S 3", "D 1 3 0 la-lb/full/1", "N 3 40 0 la/low/2"), 2, 9, 3, "la-lb/full/1", 1, 2)
	w := worldOf(c)
	w = withShardLog(w, 1, "P 1 la:0:1:500", "C 1", "P 2 la:0:-1:333")
	w = withShardLog(w, 2, "P 1 lb:0:1:667", "P 50 lb:1:1:0")
	w.Radio = []impl.Msg{how(1, 1), how(2, 1)}
	w.Told = []impl.Reply{{Req: 3, Text: "sold 1 at 10.00"}, {Req: -7, Text: ""}, {Text: "a\nb"}}
	first := "la ams bru 1 3 2,2,1 1,0,0 500,100 held 1\nlc ams cdg 2 6 1,1,1 0,0,0 0 held 0\n"
	second := "lb bru cdg 5 9 3,2,0 0,0,0 0 held 2\n"
	txns := "txn 1 of 3 la-lb/full/1 done\ntxn 3 of 40 la/low/2 not\ntxn 2 of 9 la-lb/full/1 asks\n"
	told := "told 3 sold 1 at 10.00\ntold -7 \ntold 0 a\nb\n"
	down, one, both := w, w, w
	down.Coord = coFallen(c, c.Log)
	one = withShard(one, fallen(w.Shards[0], w.Shards[0].Log))
	both = withShard(one, fallen(w.Shards[1], w.Shards[1].Log+"x"))
	both.Coord, both.Radio, both.Told = down.Coord, nil, nil
	for i, c := range []struct {
		w    impl.World
		want string
	}{
		{w, "2 under way, 5 open\n" + first + second + txns + told}, {down, "2 under way, 4 open\nwho decides is down\n" + first + second + told}, {one, "2 under way, 5 open\nshard 1 is down\n" + second + txns + told}, {both, "0 under way, 3 open\nwho decides is down\nshard 1 is down\nshard 2 is down\n"},
		{impl.WorldNew(nil, nil, nil), "0 under way, 0 open\n"}, {impl.World{}, ""},
	} {
		if got := impl.WorldBoard(c.w); got != c.want {
			t.Errorf("case %d: %q", i, got)
		}
	}
}

// exampleTexts are the legs, places and fares of the example of chapter 13.
func exampleTexts() ([]string, []int, string) {
	return []string{"la ams bru 1 3 2,2,1 0,0,0 500,100", "lb bru cdg 5 9 3,2,0 0,0,0 0", "lc ams cdg 2 6 1,1,1 0,0,0 0"}, []int{1, 2, 1}, "full 0 mul(legs,500)\nlow 1 tiers(time;0:30,5:10)\n"
}

func TestP80Example(t *testing.T) {
	net, where, fares := exampleTexts()
	lines := strings.Split(`sell 1 la-lb/full/2
bring 0
bring 0
bring 0
bring 0
crash 2 30
calm 2
sell 1 la-lb/full/2
sell 2 la/full/1
calm 1
back 3 1
calm 1
sell 4 lc/low/1
crash 0 0
rise 0
tick 1
sell 4 lc/low/1
calm 4
sell 5 lb-la/full/1
rise 0
what`, "\n")
	want := `no
what
0 under way, 0 open
la ams bru 1 3 2,2,1 0,0,0 500,100 held 0
lc ams cdg 2 6 1,1,1 0,0,0 0 held 0
lb bru cdg 5 9 3,2,0 0,0,0 0 held 0
txn 1 of 1 la-lb/full/2 done
txn 2 of 2 la/full/1 not
txn 3 of 3 la-lb/full/2 done
txn 5 of 4 lc/low/1 not
told 1 sold 1 at 10.00
told 1 sold 1 at 10.00
told 2 no
told 3 back 1
told 4 no
told 5 bad 11
`
	if got := impl.WorldSession(net, where, fares, lines); got != want {
		t.Errorf("%q", got)
	}
	for count := range lines {
		if got := impl.WorldSession(net, where, fares, lines[:count]); got != sessionOf(net, where, fares, lines[:count]) {
			t.Errorf("%d lines: %q", count, got)
		}
	}
}

// anyLine is a line of a session, mostly one that can be done.
func (r *numbers) anyLine() string {
	at := strconv.Itoa(r.below(3))
	switch r.below(14) {
	case 0, 1, 2:
		return "sell " + strconv.Itoa(1+r.below(12)) + " " + anyOf(r, "la-lb/full/1", "la-lb/low/1", "lc/low/1", "lb/full/2", "la/full/2", "lb-la/full/1", "la/zz/1", "la/full/5")
	case 3:
		return "back " + strconv.Itoa(20+r.below(10)) + " " + strconv.Itoa(1+r.below(12))
	case 4, 5, 6, 7:
		return "bring " + strconv.Itoa(r.below(3)) + anyOf(r, "", "", "", " keep")
	case 8:
		return "lose " + at
	case 9:
		return "tick " + at
	case 10:
		return "crash " + at + " " + strconv.Itoa(r.below(100))
	case 11, 12:
		return "rise " + at
	}
	return "calm " + anyOf(r, "0", "1", "2", "20")
}

func TestP80Sessions(t *testing.T) {
	net, where, fares := exampleTexts()
	r := numbers{80}
	for range 40 {
		var lines []string
		for range r.below(60) {
			lines = append(lines, r.anyLine())
		}
		if got, want := impl.WorldSession(net, where, fares, lines), sessionOf(net, where, fares, lines); got != want {
			t.Errorf("%q: %q, not %q", lines, got, want)
		}
	}
}

// Each line is read just as it is written.
func TestP80Lines(t *testing.T) {
	net, where, fares := exampleTexts()
	ahead := []string{"sell 1 la-lb/full/1", "bring 0", "sell 2 lc/low/1", "crash 2 0"}
	known := []string{
		"sell 3 la/full/1", "sell 99 la/full/1", "sell 0 la/full/1", "back 3 1", "back 99 99", "back 0 0", "bring 0", "bring 1 keep", "bring 99", "bring 99 keep", "lose 0", "lose 99", "tick 0", "tick 1", "tick 2", "tick 3", "crash 0 0", "crash 1 99", "crash 2 1", "crash 3 1", "rise 0", "rise 2", "rise 3", "calm 0", "calm 9", "calm 10", "calm 19", "calm 20",
		"calm 21", "calm 99", "calm 100", "calm -1", "calm 00", "calm 01", "calm", "calm ", "calm 1 ", "calm 1 1", "calm 1 keep", "sell 100 la/full/1", "sell -1 la/full/1", "sell 03 la/full/1", "sell +3 la/full/1", "sell 3", "sell 3 ", "sell 3 la", "sell 3 la/full/0", "sell 3 la/full/5", "sell 3 la/full/1 ", "sell 3  la/full/1", "sell la/full/1", "sell  3 la/full/1", " sell 3 la/full/1", "Sell 3 la/full/1", "sells 3 la/full/1", "sell 3 la/full/1 keep", "sell 3 4", "sell 3 keep", "sell\t3 la/full/1", "sell 3 la/full/1\n",
		"back 3", "back 3 100", "back 3 -1", "back 3 01", "back 3 x", "back 3 1 1", "back 3 ", "back 3 1 ", "back -3 1", "bring", "bring ", "bring 100", "bring -1", "bring 00", "bring 0 ", "bring 0 Keep", "bring 0 keep ", "bring 0 keeps", "bring keep", "bring 0 0", "bring 0  keep", "bring 0 keep keep", "lose", "lose 0 keep", "lose 100", "lose 00", "lose x", "tick", "tick 100", "tick 0 0", "tick -0", "crash", "crash 0", "crash 0 100", "crash 0 -1", "crash 0 00", "crash 0 1 1", "crash 100 0", "crash x 0", "rise", "rise 100", "rise 0 0", "rise -1", "rise １",
		"", " ", "  ", "what", "no", "1", "1 1", "keep 0", "\x00", "\xff", "sell 3 \xff/full/1", "play 1", "world 0", "WorldSell 1 la/full/1", allBytes(), filled(100000), strings.Repeat(" ", 100000), "calm 99999999999999999999", "bring 18446744073709551616", "tick 4294967296",
	}
	for _, line := range known {
		lines := append(slices.Clone(ahead), line)
		if got, want := impl.WorldSession(net, where, fares, lines), sessionOf(net, where, fares, lines); got != want {
			t.Errorf("%q: %q, not %q", line, got, want)
		}
		answer, _, _ := strings.Cut(impl.WorldSession(net, where, fares, []string{line}), "\n")
		if place := slices.Index(known, line); place >= 28 && answer != "what" || place < 28 && answer == "what" {
			t.Errorf("%q: %q", line, answer)
		}
	}
}

func TestP80ChangedLines(t *testing.T) {
	net, where, fares := exampleTexts()
	for _, line := range []string{"bring 0 keep", "crash 1 20", "calm 2"} {
		list := changesOf(line)
		for i := 0; i < len(list); i += 5 {
			lines := []string{"sell 1 la/full/1", list[i]}
			if got, want := impl.WorldSession(net, where, fares, lines), sessionOf(net, where, fares, lines); got != want {
				t.Errorf("%q: %q, not %q", list[i], got, want)
			}
		}
	}
}

func TestP80NoWorlds(t *testing.T) {
	net, where, fares := exampleTexts()
	six := []string{"la x y 1 2 1,1,1 0,0,0 0", "lb x y 1 2 1,1,1 0,0,0 0", "lc x y 1 2 1,1,1 0,0,0 0", "ld x y 1 2 1,1,1 0,0,0 0", "le x y 1 2 1,1,1 0,0,0 0", "lf x y 1 2 1,1,1 0,0,0 0"}
	seven, eight := append(six[:6:6], "lg x y 1 2 1,1,1 0,0,0 0"), append(six[:6:6], "lg x y 1 2 1,1,1 0,0,0 0", "lh")
	twelve := []int{1, 2, 1, 2, 1, 2, 1, 2, 1, 2, 1, 2}
	for i, c := range []struct {
		net   []string
		where []int
		fares string
		want  string
	}{
		{[]string{"x"}, where, fares, "no leg\n"}, {[]string{""}, where, fares, "no leg\n"}, {append(net[:2:2], "lc ams cdg 2 6 1,1,1 0,0,0 "), where, "x", "no leg\n"}, {append(six[:6:6], "lg"), twelve[:7], fares, "no leg\n"}, {append(net[:3:3], "\xff"), nil, "", "no leg\n"},
		{net, where, "x", "no fares\n"}, {net, nil, fares + "\n", "no fares\n"}, {eight, nil, "full 0 price\n", "no fares\n"}, {net, where, fares[:len(fares)-1], "no fares\n"}, {nil, nil, "x", "no fares\n"},
		{net, []int{1, 2, 3}, fares, "no world\n"}, {net, []int{1, 2}, fares, "no world\n"}, {net, []int{1, 2, 1, 1}, fares, "no world\n"}, {net, nil, fares, "no world\n"}, {append(net[:2:2], net[0]), where, fares, "no world\n"}, {seven, twelve[:7], fares, "no world\n"}, {nil, []int{1}, "", "no world\n"},
		// More legs than one too many are not read.
		{eight, twelve[:8], fares, "no world\n"}, {append(seven[:7:7], make([]string, 100000)...), twelve, "", "no world\n"},
		{six, twelve[:6], "", strings.ReplaceAll("0 under way, 0 open\nla@lc@le@lb@ld@lf@", "@", " x y 1 2 1,1,1 0,0,0 0 held 0\n")}, {nil, nil, "", "0 under way, 0 open\n"}, {[]string{}, []int{}, "", "0 under way, 0 open\n"},
	} {
		if got := impl.WorldSession(c.net, c.where, c.fares, nil); got != c.want || got != sessionOf(c.net, c.where, c.fares, nil) {
			t.Errorf("case %d: %q", i, got)
		}
		got := impl.WorldSession(c.net, c.where, c.fares, []string{"what", "rise 3"})
		if want := sessionOf(c.net, c.where, c.fares, []string{"what", "rise 3"}); got != want || got == "" {
			t.Errorf("case %d, and two lines: %q", i, got)
		}
	}
}

func TestP72Memory(t *testing.T) {
	trip, _ := plainTrip("la-lb/full/1")
	for i, w := range append(knownWorlds(), safeWorld()) {
		given, e := withRoom(w), withRoom(impl.Event{Kind: 1, At: 50, Trip: trip})
		list := withRoom([]impl.Event{{Kind: 1, At: 50, Trip: trip}, {Kind: 3}, {Kind: 3, Keep: true}, {Kind: 5}, {Kind: 6, At: 1, N: 9}, {Kind: 7, At: 1}})
		net, where, fares := withRoom(w.Coord.Net), withRoom(w.Coord.Where), withRoom(w.Coord.Fares)
		givenAhead, eAhead, listAhead, netAhead, whereAhead, faresAhead := whole(given), whole(e), whole(list), whole(net), whole(where), whole(fares)
		answers := map[string]impl.World{
			"new": impl.WorldNew(net, where, fares), "play": impl.WorldPlay(given, list), "no play": impl.WorldPlay(given, make([]impl.Event, 121)), "calm": impl.WorldCalm(given, 3), "no calm": impl.WorldCalm(given, 0),
		}
		for _, one := range []impl.Event{e, backs(51, 1), brings(0), keeps(0), loses(0), ticks(0), ticks(1), ticks(2), falls(0, 5), falls(1, 5), rises(0), rises(2), {}} {
			answers["event "+strconv.Itoa(one.Kind)+strconv.Itoa(one.At)], _ = impl.WorldDo(given, one)
		}
		impl.WorldOk(given)
		impl.WorldSafe(given)
		impl.WorldStill(given)
		impl.WorldBoard(given)
		checkStays(t, "world", given, givenAhead)
		checkStays(t, "event", e, eAhead)
		checkStays(t, "events", list, listAhead)
		checkStays(t, "net", net, netAhead)
		checkStays(t, "where", where, whereAhead)
		checkStays(t, "fares", fares, faresAhead)
		for what, one := range answers {
			checkApart(t, "world "+strconv.Itoa(i)+" "+what, one, given, e, list, net, where, fares)
		}
	}
	texts, places, fares := exampleTexts()
	texts, places = withRoom(texts), withRoom(places)
	lines := withRoom([]string{"sell 1 la/full/1", "calm 3"})
	textsAhead, placesAhead, linesAhead := whole(texts), whole(places), whole(lines)
	impl.WorldSession(texts, places, fares, lines)
	checkStays(t, "legs", texts, textsAhead)
	checkStays(t, "places", places, placesAhead)
	checkStays(t, "lines", lines, linesAhead)
}
