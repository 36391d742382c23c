package tests

import (
	"math"
	"slices"
	"strconv"
	"strings"
	"testing"

	"loop.example/stopover/impl"
)

func TestShardLimits(t *testing.T) {
	if impl.ShardMax != 2 || impl.MsgPrepare != 1 || impl.MsgVote != 2 || impl.MsgDecide != 3 || impl.MsgAck != 4 || impl.MsgHow != 5 {
		t.Error("messages")
	}
	if impl.TxnReady != 1 || impl.TxnKept != 2 || impl.TxnGone != 3 {
		t.Error("transactions")
	}
}

// opLists are ops that are ok.
func opLists() [][]impl.Op {
	lists := [][]impl.Op{{op("la", 0, 2, 500), op("lb", 1, 1, 10)}, {op("abcdefgh", 2, -4, 1000000000000), op("zzzzzzzz", 2, 4, 999999999999), op("aaaaaaaa", 0, -1, 0)}}
	for _, share := range []int{0, 1, 9, 10, 99999, 1000000000, 1000000000000} {
		for class := range 3 {
			for _, seats := range []int{-4, -3, -2, -1, 1, 2, 3, 4} {
				one := op("a", class, seats, share)
				lists = append(lists, []impl.Op{one}, []impl.Op{op("la", 1, 1, 7), one}, []impl.Op{one, op("b", 2-class, -seats, 3), op("c", 1, 1, share/2)})
			}
		}
	}
	return lists
}

// notOps are ops that are not ok, each for one reason.
func notOps() [][]impl.Op {
	three := []impl.Op{op("la", 0, 2, 500), op("lb", 1, 1, 10), op("lc", 2, -1, 0)}
	lists := [][]impl.Op{nil, {}, append(slices.Clone(three), op("ld", 0, 1, 1)), {op("la", 0, 2, 500), op("la", 0, 2, 500)}, {op("la", 0, 2, 500), op("lb", 0, 1, 1), op("la", 1, 1, 3)}, {op("la", 0, 2, 500), op("lb", 0, 1, 1), op("lb", 1, 1, 3)}, {{}}, make([]impl.Op, 100000)}
	but := func(o impl.Op) {
		lists = append(lists, []impl.Op{o})
		for i := range three {
			list := slices.Clone(three)
			list[i] = o
			lists = append(lists, list)
		}
	}
	for _, text := range []string{"", "A", "a1", "a b", "a-b", "a:0", "a,b", "abcdefghi", "é", "\x00", "\xff", "a\n", allBytes(), filled(100000)} {
		but(op(text, 0, 1, 1))
	}
	for _, n := range append([]int{-1, 3, 4, 1<<32 + 1}, ends...) {
		but(op("a", n, 1, 1))
	}
	for _, n := range append([]int{-6, -5, 0, 5, 6, 1<<32 + 1}, ends...) {
		but(op("a", 0, n, 1))
	}
	for _, n := range append([]int{-1, -1000000000000, 1000000000001}, ends...) {
		but(op("a", 0, 1, n))
	}
	return lists
}

func TestP41WriteAndRead(t *testing.T) {
	for _, ops := range opLists() {
		text := impl.OpsWrite(ops)
		if got, ok := impl.OpsRead(text); text != opsText(ops) || !ok || !slices.Equal(got, ops) || !fineOps(ops) {
			t.Errorf("%v: %q, read as %v", ops, text, got)
		}
	}
	if text := impl.OpsWrite(opLists()[0]); text != "la:0:2:500,lb:1:1:10" {
		t.Errorf("%q", text)
	}
}

func checkNoOpsText(t *testing.T, text string) {
	t.Helper()
	if got, ok := impl.OpsRead(text); ok || len(got) != 0 {
		t.Errorf("%q is read: %v", text, got)
	}
}

func TestP41NoOps(t *testing.T) {
	for i, ops := range notOps() {
		if fineOps(ops) {
			t.Fatalf("ops %d are ok", i)
		}
		if text := impl.OpsWrite(ops); text != "" {
			t.Errorf("ops %d: %q", i, text)
		}
		if _, ok := plainOps(opsText(ops)); !ok {
			checkNoOpsText(t, opsText(ops))
		}
	}
}

func TestP41NoTexts(t *testing.T) {
	for _, text := range []string{
		"", ":", ",", ":::", "la", "la:", "la:0", "la:0:1", "la:0:1:", ":0:1:1", "la::1:1", "la:0::1", "la:0:0:1", "la:3:1:1", "la:-1:1:1", "la:0:5:1", "la:0:-5:1", "la:0:1:-1", "la:0:1:-0", "la:-0:1:1", "la:0:-0:1", "la:00:1:1", "la:0:01:1", "la:0:1:01", "la:0:1:00", "la:+0:1:1", "la:0:+1:1", "la:0:1:+1", "la:0:1:1000000000001", "la:0:1:18446744073709551617",
		"la:0:1:1,", ",la:0:1:1", "la:0:1:1,,lb:0:1:1", "la:0:1:1,la:0:1:1", "la:0:1:1,lb:0:1:1,la:1:1:1", "la:0:1:1,lb:0:1:1,lc:0:1:1,ld:0:1:1", "la:0:1:1 ", " la:0:1:1", "la:0:1:1\n", "la :0:1:1", "la:0:1:1:1", "la:0:1:1, lb:0:1:1", "la:0:1:1;lb:0:1:1", "LA:0:1:1", "l1:0:1:1", "abcdefghi:0:1:1", "é:0:1:1", "\x00:0:1:1", "la:0:1:１", "la:0:1:x", "la:0:1:1\x00",
		strings.Repeat("la:0:1:1,", 100000) + "la:0:1:1", strings.Repeat("a", 100000) + ":0:1:1", "la:0:1:" + strings.Repeat("1", 100000), strings.Repeat(",", 100000), filled(100000), allBytes(),
	} {
		checkNoOpsText(t, text)
	}
}

func TestP41WhatIsReadIsWritten(t *testing.T) {
	for _, text := range []string{"la:0:2:500,lb:1:-1:10", "abcdefgh:2:-4:1000000000000", "a:0:1:0,b:1:1:1,c:2:4:9"} {
		for _, changed := range changesOf(text) {
			want, wantOk := plainOps(changed)
			got, ok := impl.OpsRead(changed)
			if ok != wantOk || ok && (!slices.Equal(got, want) || impl.OpsWrite(got) != changed) || !ok && len(got) != 0 {
				t.Errorf("%q: %v %v, not %v %v", changed, got, ok, want, wantOk)
			}
		}
	}
}

// checkHear lets a shard hear a message, and checks what comes of it.
func checkHear(t *testing.T, s impl.Shard, m impl.Msg) (impl.Shard, []impl.Msg) {
	t.Helper()
	want, wantSaid := hearIn(s, m)
	got, said := impl.ShardHear(s, m)
	if !sameShard(got, want) || !sameMsgs(said, wantSaid) {
		t.Errorf("%v hears %v: %v says %v; not %v, %v", s, m, got, said, want, wantSaid)
	}
	if !impl.ShardOk(got) || !strings.HasPrefix(got.Log, s.Log) || len(said) > 1 {
		t.Errorf("%v hears %v: %v says %v", s, m, got, said)
	}
	for _, x := range said {
		if x.To != 0 || x.From != s.Id || x.Txn != m.Txn || len(x.Ops) != 0 {
			t.Errorf("%v hears %v, and says %v", s, m, x)
		}
	}
	return got, said
}

func TestP49Hear(t *testing.T) {
	r, said := numbers{490}, map[string]int{}
	for _, s := range shards() {
		if !impl.ShardOk(s) || !fineShard(s) {
			t.Errorf("%v is not ok", s)
		}
		for range 25 {
			m := r.msg(s)
			_, list := checkHear(t, s, m)
			for _, x := range list {
				said[strconv.Itoa(x.Kind)+strconv.FormatBool(x.Yes)]++
			}
		}
	}
	if len(said) != 4 || said["2true"] < 100 || said["2false"] < 100 || said["4true"] < 20 || said["4false"] < 100 {
		t.Error(said)
	}
}

func TestP49EachMessage(t *testing.T) {
	for _, s := range []impl.Shard{shardOf(1, nil), shardOf(2, knownBase()), shardOf(1, knownBase()), knownShard(), fallen(knownShard(), knownShard().Log), fallen(knownShard(), "0:")} {
		for _, m := range shardMsgs() {
			checkHear(t, s, m)
		}
	}
}

// One shard hears one message behind the other, falls now and then, and rises; its log says all of it.
func TestP49LongPlay(t *testing.T) {
	r := numbers{491}
	for range 40 {
		s := shardOf(1+r.below(2), r.trader([][]impl.Fare{nil}).Net)
		for range 60 {
			m := r.msg(s)
			if r.below(5) > 0 {
				s, _ = checkHear(t, s, m)
				continue
			}
			bytes := r.below(60)
			after, _ := hearIn(s, m)
			added := after.Log[len(s.Log):]
			down := impl.ShardCrash(s, m, bytes)
			if want := fallen(s, s.Log+added[:min(bytes, len(added))]); !sameShard(down, want) {
				t.Fatalf("%v falls: %v", s, down)
			}
			s = impl.ShardRise(down)
			if now, ok := replayed(down); !ok || !sameShard(s, now) {
				t.Fatalf("%v rises: %v", down, s)
			}
		}
	}
}

func TestP49KnownLog(t *testing.T) {
	s := shardOf(1, knownBase())
	for i, c := range []struct {
		m    impl.Msg
		said []impl.Msg
		log  []string
	}{
		{prepare(7, op("la", 0, 1, 500), op("lb", 1, 2, 0)), says(s, 2, 7, true), []string{"P 7 la:0:1:500,lb:1:2:0"}},
		{prepare(8, op("la", 0, 1, 100)), says(s, 2, 8, true), []string{"P 7 la:0:1:500,lb:1:2:0", "P 8 la:0:1:100"}},
		{prepare(9, op("lb", 0, 1, 0), op("la", 0, 2, 500)), says(s, 2, 9, false), []string{"P 7 la:0:1:500,lb:1:2:0", "P 8 la:0:1:100"}},
		{decide(8, false), says(s, 4, 8, false), []string{"P 7 la:0:1:500,lb:1:2:0", "P 8 la:0:1:100", "A 8"}},
		{decide(7, true), says(s, 4, 7, true), []string{"P 7 la:0:1:500,lb:1:2:0", "P 8 la:0:1:100", "A 8", "C 7"}},
		{prepare(9, op("lb", 0, 1, 0), op("la", 0, 2, 500)), says(s, 2, 9, true), []string{"P 7 la:0:1:500,lb:1:2:0", "P 8 la:0:1:100", "A 8", "C 7", "P 9 lb:0:1:0,la:0:2:500"}},
		{prepare(10, op("lb", 1, -4, 0)), says(s, 2, 10, true), []string{"P 7 la:0:1:500,lb:1:2:0", "P 8 la:0:1:100", "A 8", "C 7", "P 9 lb:0:1:0,la:0:2:500", "P 10 lb:1:-4:0"}},
		{prepare(11, op("lb", 1, -1, 0)), says(s, 2, 11, false), []string{"P 7 la:0:1:500,lb:1:2:0", "P 8 la:0:1:100", "A 8", "C 7", "P 9 lb:0:1:0,la:0:2:500", "P 10 lb:1:-4:0"}},
	} {
		after, said := impl.ShardHear(s, c.m)
		if after.Log != logOf(c.log) || !sameMsgs(said, c.said) {
			t.Errorf("case %d: %q %v", i, after.Log, said)
		}
		s = after
	}
	holds := [][]impl.Hold{{hold(9, 0, 2)}, {hold(9, 0, 1), hold(10, 1, -4)}, nil}
	for i, l := range s.Legs {
		if !slices.Equal(l.Holds, holds[i]) {
			t.Errorf("%v", l)
		}
	}
	if commas(s.Legs[0].Sold) != "1,0,0" || commas(s.Legs[1].Sold) != "1,4,3" {
		t.Errorf("%v", s.Legs)
	}
	if list := s.Txns; len(list) != 4 || list[0].Txn != 7 || list[0].Stands != 2 || list[1].Txn != 8 || list[1].Stands != 3 || list[2].Txn != 9 || list[2].Stands != 1 || !slices.Equal(list[3].Ops, []impl.Op{op("lb", 1, -4, 0)}) {
		t.Errorf("%v", s.Txns)
	}
}

// All transactions that there may be, one behind the other: a seat is sold, and given back.
func TestP49AllTransactions(t *testing.T) {
	s := shardOf(1, []impl.Leg{flight("la", "x", "y", 1, 2, 1, 1, 1)})
	for txn := 1; txn <= 100; txn++ {
		after, said := checkHear(t, s, prepare(txn, op("la", 2, 2*(txn%2)-1, 0)))
		if len(said) != 1 && txn < 100 || len(said) != 0 && txn == 100 {
			t.Errorf("%d: %v", txn, said)
		}
		s, _ = checkHear(t, after, decide(txn, true))
		if want := txn % 2; txn < 100 && (s.Legs[0].Sold[2] != want || standing(s, txn) != 2) {
			t.Errorf("%d: %v", txn, s.Legs)
		}
	}
	if len(s.Txns) != 99 || s.Legs[0].Sold[2] != 1 {
		t.Errorf("%d transactions, %v", len(s.Txns), s.Legs)
	}
}

// A message is for a shard if it is to it, from the one who decides, and about a transaction that may be.
func TestP49NotForIt(t *testing.T) {
	s := knownShard()
	for _, m := range []impl.Msg{decide(7, true), decide(7, false), decide(4, true), decide(5, false), prepare(5, op("la", 0, 1, 500)), prepare(7)} {
		for _, n := range append([]int{-1, 0, 1, 2, 3, 100, 1<<32 + 1}, ends...) {
			from, to, txn := m, m, m
			from.From, to.To, txn.Txn = n, n, n
			for _, x := range []impl.Msg{from, to, txn} {
				if x.From == 0 && x.To == 1 && x.Txn >= 1 && x.Txn <= 99 {
					continue
				}
				if got, said := impl.ShardHear(s, x); !sameShard(got, s) || len(said) != 0 {
					t.Errorf("%v: %v", x, said)
				}
			}
		}
		for _, kind := range append([]int{-1, 0, 2, 4, 5, 6, 257, 259}, ends...) {
			m.Kind = kind
			if got, said := impl.ShardHear(s, m); !sameShard(got, s) || len(said) != 0 {
				t.Errorf("%v: %v", m, said)
			}
		}
	}
}

func TestP50Yes(t *testing.T) {
	r, yes, no := numbers{50}, 0, 0
	for _, s := range shards() {
		if !s.Up {
			continue
		}
		for range 30 {
			m := r.msg(s)
			m.Kind, m.From, m.To, m.Txn = 1, 0, s.Id, 1+r.below(99)
			if standing(s, m.Txn) != 0 {
				continue
			}
			got, said := impl.ShardHear(s, m)
			if len(said) != 1 || said[0].Kind != 2 {
				t.Fatalf("%v says %v", s, said)
			}
			if !said[0].Yes {
				no++
				if !sameShard(got, s) {
					t.Errorf("%v, without yes: %v", s, got)
				}
				continue
			}
			yes++
			for _, o := range m.Ops {
				if seatsFor(got.Legs[legAt(got.Legs, o.Leg)], m.Txn) != hold(m.Txn, o.Class, o.Seats) {
					t.Errorf("%v is not held: %v", o, got.Legs)
				}
			}
			if last := got.Txns[len(got.Txns)-1]; !sameTxn(last, impl.ShardTxn{Txn: m.Txn, Stands: 1, Ops: m.Ops}) || len(got.Txns) != len(s.Txns)+1 {
				t.Errorf("%v: %v", m, got.Txns)
			}
			if risen := impl.ShardRise(fallen(got, got.Log)); !sameShard(risen, got) {
				t.Errorf("%v rises as %v", got, risen)
			}
		}
	}
	if yes < 100 || no < 100 {
		t.Error(yes, no)
	}
}

// All that is needed is held, or nothing, wherever that is which cannot be.
func TestP50AllOrNone(t *testing.T) {
	fine := []impl.Op{op("la", 0, 1, 500), op("lb", 1, 1, 1), op("lc", 1, 1, 0)}
	for _, bad := range []impl.Op{op("zz", 0, 1, 500), op("lc", 0, 3, 500), op("lc", 1, 2, 500), op("lc", 2, 1, 500), op("lc", 0, -1, 500), op("la", 0, 1, -1), op("la", 0, 1, 99), op("lc", 3, 1, 1), op("lc", 0, 0, 1), op("lc", 0, 5, 1), op("lc", 0, 1, 1000000000001), op("", 0, 1, 1), op("LC", 0, 1, 1)} {
		for place := range 3 {
			ops := slices.Delete(slices.Clone(fine), 2, 3)
			s := shardOf(1, knownBase())
			if bad.Leg == "la" {
				ops = []impl.Op{op("lb", 1, 1, 1), op("lc", 1, 1, 0)}
			}
			ops = slices.Insert(ops, place, bad)
			if got, said := impl.ShardHear(s, prepare(1, ops...)); !sameShard(got, s) || !sameMsgs(said, says(s, 2, 1, false)) {
				t.Errorf("%v: %v %v", ops, said, got)
			}
		}
	}
	for count := range 5 {
		ops := append(slices.Clone(fine), op("ld", 0, 1, 1))[:count]
		base := append(knownBase(), flight("ld", "x", "y", 1, 2, 9, 9, 9))
		got, said := impl.ShardHear(shardOf(1, base), prepare(1, ops...))
		if yes := count > 0 && count < 4; !sameMsgs(said, says(got, 2, 1, yes)) || (got.Log != "") != yes {
			t.Errorf("%d ops: %v", count, said)
		}
	}
	if got, said := impl.ShardHear(shardOf(1, knownBase()), prepare(1, op("la", 0, 1, 500), op("la", 1, 1, 500))); !sameMsgs(said, says(got, 2, 1, false)) {
		t.Error("one leg twice")
	}
}

// A share is not below what a seat is worth, when it is held, and a leg holds for six transactions at most.
func TestP50WorthAndHolds(t *testing.T) {
	for share, yes := range map[int]bool{0: false, 399: false, 400: true, 1000000000000: true} {
		s := shardOf(1, []impl.Leg{worth(flight("la", "x", "y", 1, 2, 2, 2, 2), 400)})
		if _, said := impl.ShardHear(s, prepare(1, op("la", 0, 1, share))); !sameMsgs(said, says(s, 2, 1, yes)) {
			t.Errorf("%d: %v", share, said)
		}
	}
	s := shardOf(1, []impl.Leg{flight("la", "x", "y", 1, 2, 9, 9, 9)})
	for i := range 8 {
		after, said := impl.ShardHear(s, prepare(90-i, op("la", 0, 1, 0)))
		if !sameMsgs(said, says(s, 2, 90-i, i < 6)) {
			t.Errorf("%d holds: %v", i, said)
		}
		s = after
	}
	s, _ = impl.ShardHear(s, decide(88, false))
	if _, said := impl.ShardHear(s, prepare(1, op("la", 0, 1, 0))); !sameMsgs(said, says(s, 2, 1, true)) {
		t.Errorf("behind one that is gone: %v", said)
	}
}

func TestP51Twice(t *testing.T) {
	r := numbers{51}
	for _, s := range shards() {
		for range 20 {
			m := r.msg(s)
			once, said := impl.ShardHear(s, m)
			if twice, again := impl.ShardHear(once, m); !sameShard(twice, once) || !sameMsgs(again, said) {
				t.Errorf("%v hears %v twice: %v, and %v", s, m, said, again)
			}
		}
	}
	for _, m := range shardMsgs() {
		once, said := impl.ShardHear(knownShard(), m)
		if twice, again := impl.ShardHear(once, m); !sameShard(twice, once) || !sameMsgs(again, said) {
			t.Errorf("%v twice: %v, and %v", m, said, again)
		}
	}
}

// What was asked for already is answered by how it stands, whatever comes with it; late ones and those behind a fall too.
func TestP51Late(t *testing.T) {
	s := knownShard()
	if after := impl.ShardRise(impl.ShardCrash(s, decide(50, true), 0)); !sameShard(after, s) {
		t.Fatal("a fall")
	}
	for _, ops := range [][]impl.Op{nil, {op("la", 1, 1, 500), op("lb", 2, -2, 0)}, {op("zz", 0, 1, 1)}, {op("la", 0, 9, 1)}, make([]impl.Op, 1000)} {
		for _, c := range []struct {
			txn int
			yes bool
		}{{7, true}, {4, true}, {99, false}} {
			if got, said := impl.ShardHear(s, prepare(c.txn, ops...)); !sameShard(got, s) || !sameMsgs(said, says(s, 2, c.txn, c.yes)) {
				t.Errorf("%d with %v: %v", c.txn, ops, said)
			}
		}
	}
	for i, c := range []struct {
		m    impl.Msg
		said []impl.Msg
	}{
		{decide(4, true), says(s, 4, 4, true)}, {decide(4, false), nil}, {decide(99, false), says(s, 4, 99, false)}, {decide(99, true), nil}, {decide(5, false), says(s, 4, 5, false)}, {decide(5, true), nil},
	} {
		if got, said := impl.ShardHear(s, c.m); !sameShard(got, s) || !sameMsgs(said, c.said) {
			t.Errorf("case %d: %v", i, said)
		}
	}
}

func TestP52Decisions(t *testing.T) {
	decided := 0
	for _, s := range shards() {
		for _, known := range s.Txns {
			if known.Stands != 1 {
				continue
			}
			for _, yes := range []bool{true, false} {
				m := impl.Msg{Kind: 3, To: s.Id, Txn: known.Txn, Yes: yes}
				got, said := impl.ShardHear(s, m)
				if len(s.Log) > 8970 {
					continue
				}
				decided++
				if want := map[bool]int{true: 2, false: 3}[yes]; standing(got, known.Txn) != want || !sameMsgs(said, says(s, 4, known.Txn, yes)) || !strings.HasPrefix(got.Log, s.Log) {
					t.Errorf("%v: %v %v", m, said, got)
				}
				for i, l := range s.Legs {
					want, _ := withoutIn(l, known.Txn)
					if yes {
						want = keepIn(l, known.Txn)
					}
					if !sameLeg(got.Legs[i], want) {
						t.Errorf("%v: %v", m, got.Legs[i])
					}
				}
				m.Yes = !yes
				if after, said := impl.ShardHear(got, m); !sameShard(after, got) || len(said) != 0 {
					t.Errorf("%v behind the other one: %v", m, said)
				}
			}
		}
	}
	if decided < 50 {
		t.Errorf("only %d decisions", decided)
	}
}

// A decision that finds no room in the log is not heard, so that it comes again.
func TestP52NoRoom(t *testing.T) {
	size := len(logOf(shardRecords(shardLeft(100), "A 99"))) - 8900
	for left := size - 2; left <= size+2; left++ {
		s := shardLeft(left)
		for _, yes := range []bool{true, false} {
			got, said := checkHear(t, s, decide(99, yes))
			if room := left >= size; (len(said) == 1) != room || sameShard(got, s) == room || left == size && len(got.Log) != 9000 {
				t.Errorf("%d bytes left: %v", left, said)
			}
		}
	}
}

// shardRecords are the records of a shard, and one more.
func shardRecords(s impl.Shard, more string) []string {
	records, _ := recordsIn(s.Log)
	return append(records, more)
}

// What is needed is held if there is room in the log for that, to the last byte.
func TestP50NoRoom(t *testing.T) {
	ops := longOps(20)
	size := len(logOf(shardRecords(shardLeft(200), "P 98 "+opsText(ops)))) - 8800
	for left := size - 2; left <= size+2; left++ {
		s := shardLeft(left)
		got, said := checkHear(t, s, prepare(98, ops...))
		if room := left >= size; !sameMsgs(said, says(s, 2, 98, room)) || sameShard(got, s) == room || left == size && len(got.Log) != 9000 {
			t.Errorf("%d bytes left: %v", left, said)
		}
		// It is no matter that what is known already is asked for again.
		if _, said := checkHear(t, s, prepare(99, ops...)); !sameMsgs(said, says(s, 2, 99, true)) {
			t.Errorf("%d bytes left: %v", left, said)
		}
	}
}

func TestP53FallsAtEachByte(t *testing.T) {
	r := numbers{53}
	for _, s := range shards() {
		ahead := s
		if now, _ := replayed(s); !s.Up {
			ahead = now
		}
		for i := range 5 {
			m := r.msg(s)
			if i < 3 && len(s.Txns) > 0 {
				m = impl.Msg{Kind: 3, To: s.Id, Txn: s.Txns[r.below(len(s.Txns))].Txn, Yes: i > 0}
			}
			after, _ := hearIn(s, m)
			added := after.Log[len(s.Log):]
			behind := after
			if !s.Up {
				behind = ahead
			}
			for bytes := -2; bytes <= len(added)+2; bytes++ {
				down := impl.ShardCrash(s, m, bytes)
				if want := fallen(s, s.Log+added[:min(max(bytes, 0), len(added))]); !sameShard(down, want) || !impl.ShardOk(down) {
					t.Fatalf("%v falls at %d: %v", s, bytes, down)
				}
				want := ahead
				if bytes >= len(added) {
					want = behind
				}
				if risen := impl.ShardRise(down); !sameShard(risen, want) {
					t.Fatalf("%v fell at %d: %v", s, bytes, risen)
				}
			}
		}
	}
}

func TestP53Ends(t *testing.T) {
	s, m := knownShard(), decide(7, true)
	whole := s.Log + strings.TrimPrefix(logOf(shardRecords(s, "C 7")), s.Log)
	for _, bytes := range []int{0, -1, math.MinInt, math.MinInt + 1, -len(s.Log)} {
		if down := impl.ShardCrash(s, m, bytes); !sameShard(down, fallen(s, s.Log)) {
			t.Errorf("%d bytes: %v", bytes, down)
		}
	}
	for _, bytes := range []int{len(whole) - len(s.Log), 1000, 1 << 32, math.MaxInt - len(s.Log), math.MaxInt - 1, math.MaxInt} {
		if down := impl.ShardCrash(s, m, bytes); !sameShard(down, fallen(s, whole)) {
			t.Errorf("%d bytes: %v", bytes, down)
		}
	}
	if down := impl.ShardCrash(s, m, 1); !sameShard(down, fallen(s, s.Log+"5")) {
		t.Errorf("one byte: %v", down)
	}
	// What writes nothing leaves nothing, and what is not up stays as it is.
	for _, m := range []impl.Msg{decide(4, true), decide(7, true), {}, prepare(8, op("zz", 0, 1, 1))} {
		torn := fallen(s, s.Log+"5:3:C ")
		if down := impl.ShardCrash(torn, m, math.MaxInt); !sameShard(down, torn) {
			t.Errorf("%v: %v", m, down)
		}
		if down := impl.ShardCrash(s, m, 0); !sameShard(down, fallen(s, s.Log)) {
			t.Errorf("%v: %v", m, down)
		}
	}
}

// A message that was torn is heard again behind the fall, as if for the first time, or the second.
func TestP53HeardAgain(t *testing.T) {
	s := knownShard()
	for _, m := range []impl.Msg{decide(7, true), decide(7, false), prepare(8, op("lb", 0, 1, 1), op("la", 0, 1, 500)), prepare(9, op("lb", 0, 9, 1))} {
		after, said := hearIn(s, m)
		for bytes := range 80 {
			risen := impl.ShardRise(impl.ShardCrash(s, m, bytes))
			if got, again := impl.ShardHear(risen, m); !sameShard(got, after) || !sameMsgs(again, said) {
				t.Errorf("%v behind a fall at %d: %v", m, bytes, again)
			}
		}
	}
}

func TestP54Rise(t *testing.T) {
	for _, s := range shards() {
		risen := impl.ShardRise(s)
		want, _ := replayed(s)
		if !sameShard(risen, want) || !risen.Up || !impl.ShardOk(risen) || !impl.LogOk(risen.Log) {
			t.Errorf("%v rises as %v", s, risen)
		}
		if s.Up && !sameShard(risen, s) {
			t.Errorf("%v was up: %v", s, risen)
		}
		if again := impl.ShardRise(risen); !sameShard(again, risen) {
			t.Errorf("%v rises twice", s)
		}
	}
}

// A log that is cut off at each byte has its first records; and so it has with anything behind them.
func TestP54CutAnywhere(t *testing.T) {
	s := knownShard()
	records, _ := recordsIn(s.Log)
	place := 0
	for size := 0; size <= len(s.Log); size++ {
		for place < len(records) && size >= len(logOf(records[:place+1])) {
			place++
		}
		want := shardOf(1, knownBase(), records[:place]...)
		for _, behind := range []string{"", "x", "\x00\xff", "7:3:C 7", "5:3:C 7000000000000;"} {
			down := fallen(s, s.Log[:size]+behind)
			if risen := impl.ShardRise(down); !impl.ShardOk(down) || !sameShard(risen, want) {
				t.Fatalf("cut at %d, and %q: %v", size, behind, risen)
			}
		}
		up := want
		up.Log = s.Log[:size]
		if impl.ShardOk(up) != (size == len(logOf(records[:place]))) {
			t.Errorf("up, cut at %d", size)
		}
	}
}

func TestP55Tick(t *testing.T) {
	asked := 0
	for _, s := range shards() {
		var want []impl.Msg
		for _, known := range s.Txns {
			if known.Stands == 1 {
				want = append(want, impl.Msg{Kind: 5, From: s.Id, Txn: known.Txn})
			}
		}
		if got := impl.ShardTick(s); !sameMsgs(got, want) || len(got) > 0 && !s.Up {
			t.Errorf("%v asks %v", s, got)
		}
		asked += len(want)
	}
	if asked < 50 {
		t.Errorf("only %d are asked", asked)
	}
}

// In the order in which they came, not of their numbers.
func TestP55InOrder(t *testing.T) {
	s := shardOf(2, knownBase(), "P 9 lb:0:1:0", "P 2 lb:0:1:0", "P 5 lb:0:1:0", "P 1 la:0:1:400", "A 2")
	if got := impl.ShardTick(s); !sameMsgs(got, []impl.Msg{{Kind: 5, From: 2, Txn: 9}, {Kind: 5, From: 2, Txn: 5}, {Kind: 5, From: 2, Txn: 1}}) {
		t.Errorf("%v", got)
	}
	if got := impl.ShardTick(fallen(s, s.Log)); len(got) != 0 {
		t.Errorf("%v", got)
	}
}

func TestP56New(t *testing.T) {
	for _, net := range nets() {
		for _, id := range append([]int{-1, 0, 1, 2, 3, 1<<32 + 1}, ends...) {
			s := impl.ShardNew(id, net)
			if id != 1 && id != 2 || !holdsNone(net) {
				if !isNoShard(s) || impl.ShardOk(s) {
					t.Errorf("shard %d of %v: %v", id, net, s)
				}
				continue
			}
			if !sameShard(s, impl.Shard{Id: id, Base: net, Up: true, Legs: net}) || !impl.ShardOk(s) || len(impl.ShardTick(s)) != 0 {
				t.Errorf("shard %d of %v: %v", id, net, s)
			}
		}
	}
	for i, net := range notNets() {
		if s := impl.ShardNew(1, net); !isNoShard(s) {
			t.Errorf("of net %d: %v", i, s)
		}
	}
	for count := range 8 {
		net := append(wideSerial(0).Net, flight("lg", "x", "y", 1, 2, 9, 9, 9))[:count]
		if s := impl.ShardNew(2, net); isNoShard(s) != (count > 6) {
			t.Errorf("%d legs: %v", count, s)
		}
	}
}

// notRecords are records that no shard writes.
func notRecords() []string {
	return []string{
		"", " ", "P", "C", "A", "P ", "C ", "A ", "P 8", "P 8 ", "C 8", "A 8", "c 7", "a 7", "p 8 lb:0:1:1", "S 8", "D 7", "N 7", "X 7", "CC 7", "C7", "C  7", " C 7", "C 7 ", "C 7\n", "C 07", "C +7", "C -7", "C 7 la:0:1:1", "C 7:", "A 07", "A 7 ", "A  7", "C 4", "A 4", "C 99", "A 99", "C 0", "A 0", "C 100", "C x", "C 18446744073709551623", "\x00", "\xff", "C 7\x00", "A 7;",
		"P 0 lb:0:1:1", "P 100 lb:0:1:1", "P -1 lb:0:1:1", "P 08 lb:0:1:1", "P +8 lb:0:1:1", "P 8  lb:0:1:1", "P  8 lb:0:1:1", " P 8 lb:0:1:1", "P 8 lb:0:1:1 ", "P 8 lb:0:1:1\n", "P 8 lb:0:1:1,", "P 8 ,lb:0:1:1", "P 8lb:0:1:1", "P 8,lb:0:1:1", "P8 lb:0:1:1", "P lb:0:1:1", "P 8 lb:0:1", "P 8 lb:0:1:01", "P 8 lb:0:01:1", "P 8 lb:0:+1:1",
		"P 8 zz:0:1:1", "P 8 lb:0:1:1,zz:0:1:1", "P 8 lb:0:0:1", "P 8 lb:0:5:1", "P 8 lb:3:1:1", "P 8 lb:-1:1:1", "P 8 lb:0:1:-1", "P 8 lb:0:1:1000000000001", "P 8 lb:0:1:1,lb:1:1:1", "P 8 lb:0:1:1,la:0:1:500,lc:0:1:1,lb:0:1:1", "P 8 lc:0:3:0", "P 8 lc:2:1:0", "P 8 lc:0:-1:0", "P 8 lb:2:-4:0", "P 8 la:0:4:500", "P 8 la:0:1:99", "P 8 lb:0:1:1,lc:0:3:0", "P 8 LB:0:1:1", filled(1000), allBytes(),
	}
}

// notShards are shards that are not ok, each for one reason.
func notShards() []impl.Shard {
	var list []impl.Shard
	but := func(change func(s *impl.Shard)) {
		s := knownShard()
		change(&s)
		list = append(list, s)
	}
	// Up, or not, they are no shards.
	both := func(change func(s *impl.Shard)) {
		but(change)
		but(func(s *impl.Shard) {
			change(s)
			*s = fallen(*s, s.Log)
		})
	}
	for _, id := range append([]int{-1, 0, 3, 1<<32 + 1}, ends...) {
		both(func(s *impl.Shard) { s.Id = id })
	}
	for _, net := range notNets()[:40] {
		both(func(s *impl.Shard) { *s = impl.Shard{Id: 1, Base: net, Up: true, Legs: net} })
	}
	for i := range 3 {
		both(func(s *impl.Shard) { s.Base[i].Holds = []impl.Hold{hold(5, 0, 1)} })
		both(func(s *impl.Shard) { s.Base = slices.Delete(s.Base, i, i+1) })
		both(func(s *impl.Shard) {
			l := legCopy(s.Base[i])
			l.Holds = []impl.Hold{hold(5, 0, 1)}
			*s = impl.Shard{Id: 1, Base: []impl.Leg{l}, Up: true, Legs: []impl.Leg{l}}
		})
	}
	for _, record := range notRecords() {
		both(func(s *impl.Shard) { s.Log = logOf(shardRecords(*s, record)) })
		both(func(s *impl.Shard) {
			*s = impl.Shard{Id: 1, Base: knownBase(), Log: logOf([]string{record}), Up: true, Legs: knownBase()}
		})
	}
	for _, record := range []string{"P 7 lb:0:1:1", "P 4 lb:0:1:1", "P 99 lb:0:1:1", "P 8 lb:2:-2:0", "P 7 la:1:1:500,lb:2:-2:0"} {
		both(func(s *impl.Shard) { s.Log = logOf(shardRecords(*s, record)) })
	}
	for left := -1; left > -3; left-- {
		both(func(s *impl.Shard) { *s = shardLeft(left) })
	}
	but(func(s *impl.Shard) { *s = fallen(*s, s.Log+filled(9001-len(s.Log))) })
	but(func(s *impl.Shard) { *s = fallen(*s, s.Log+filled(100000)) })
	return append(append(list, notStandings()...), notDown()...)
}

// notStandings are shards that are Up, and not what their logs say.
func notStandings() []impl.Shard {
	var list []impl.Shard
	but := func(change func(s *impl.Shard)) {
		s := knownShard()
		change(&s)
		list = append(list, s)
	}
	for _, behind := range []string{"x", "\x00", "5:3:C 7", "5:3:C 7000000000000;", filled(50)} {
		but(func(s *impl.Shard) { s.Log += behind })
	}
	for _, records := range [][]string{nil, {"P 7 la:1:1:500,lb:2:-2:0"}, {"P 7 la:1:1:500,lb:2:-2:0", "P 4 lb:0:2:10", "P 99 lc:1:1:0,la:0:1:100", "C 4"}, {"P 7 la:1:1:500,lb:2:-2:0", "P 4 lb:0:2:10", "P 99 lc:1:1:0,la:0:1:100", "C 4", "A 99", "A 7"}, {"P 7 la:1:1:500,lb:2:-2:0", "P 4 lb:0:2:11", "P 99 lc:1:1:0,la:0:1:100", "C 4", "A 99"}} {
		but(func(s *impl.Shard) { s.Log = logOf(records) })
	}
	for i := range 3 {
		but(func(s *impl.Shard) { s.Legs[i].Name = "zz" })
		but(func(s *impl.Shard) { s.Legs[i].From = "zz" })
		but(func(s *impl.Shard) { s.Legs[i].To = "zz" })
		but(func(s *impl.Shard) { s.Legs[i].Dep-- })
		but(func(s *impl.Shard) { s.Legs[i].Arr++ })
		but(func(s *impl.Shard) { s.Legs[i].Cap++ })
		but(func(s *impl.Shard) { s.Legs[i].Cap, s.Legs[i].Limits[0] = s.Legs[i].Cap+1, s.Legs[i].Limits[0]+1 })
		but(func(s *impl.Shard) { s.Legs[i].Limits[2]++ })
		but(func(s *impl.Shard) { s.Legs[i].Sold[1]++ })
		but(func(s *impl.Shard) { s.Legs[i].Sold = nil })
		but(func(s *impl.Shard) { s.Legs[i].Bids = []int{401, 0} })
		but(func(s *impl.Shard) { s.Legs[i].Bids = append(s.Legs[i].Bids, 0) })
		but(func(s *impl.Shard) { s.Legs[i].Holds = append(s.Legs[i].Holds, hold(98, 0, 1)) })
		but(func(s *impl.Shard) { s.Legs[i] = impl.Leg{} })
		but(func(s *impl.Shard) { s.Legs = slices.Delete(s.Legs, i, i+1) })
		but(func(s *impl.Shard) { s.Base[i].Bids = []int{300, 0} })
		but(func(s *impl.Shard) { s.Txns[i].Txn++ })
		but(func(s *impl.Shard) { s.Txns[i].Stands = (s.Txns[i].Stands + 1) % 4 })
		but(func(s *impl.Shard) { s.Txns[i].Ops[0].Seats++ })
		but(func(s *impl.Shard) { s.Txns[i].Ops = nil })
		but(func(s *impl.Shard) { s.Txns[i].Ops = append(s.Txns[i].Ops, op("zz", 0, 1, 1)) })
		but(func(s *impl.Shard) { s.Txns = slices.Delete(s.Txns, i, i+1) })
	}
	but(func(s *impl.Shard) { s.Legs[0].Holds = nil })
	but(func(s *impl.Shard) { s.Legs[0].Holds[0].Seats = 2 })
	but(func(s *impl.Shard) { s.Legs[0].Holds[0].Class = 0 })
	but(func(s *impl.Shard) { s.Legs[0].Holds[0].Txn = 8 })
	but(func(s *impl.Shard) { s.Legs = append(s.Legs, flight("ld", "x", "y", 1, 2, 9, 9, 9)) })
	but(func(s *impl.Shard) { slices.Reverse(s.Legs) })
	but(func(s *impl.Shard) { slices.Reverse(s.Base) })
	but(func(s *impl.Shard) { slices.Reverse(s.Txns) })
	but(func(s *impl.Shard) { s.Txns = append(s.Txns, s.Txns[2]) })
	but(func(s *impl.Shard) { s.Txns = append(s.Txns, impl.ShardTxn{}) })
	but(func(s *impl.Shard) { s.Legs, s.Txns = nil, nil })
	but(func(s *impl.Shard) { s.Legs = make([]impl.Leg, 100000) })
	return list
}

// notDown are shards that are not Up, and know something still.
func notDown() []impl.Shard {
	s := knownShard()
	legs, txns, both := fallen(s, s.Log), fallen(s, s.Log), s
	legs.Legs, txns.Txns, both.Up = s.Legs, s.Txns, false
	one := fallen(s, "")
	one.Legs = knownBase()
	last := fallen(shardOf(1, nil), "")
	last.Txns = []impl.ShardTxn{{}}
	return []impl.Shard{legs, txns, both, one, last, {}, {Up: true}}
}

func TestP49NoShards(t *testing.T) {
	for i, s := range notShards() {
		if fineShard(s) {
			t.Fatalf("shard %d is ok", i)
		}
		if impl.ShardOk(s) {
			t.Errorf("shard %d is ok", i)
		}
		if len(impl.ShardTick(s)) != 0 || !isNoShard(impl.ShardRise(s)) {
			t.Errorf("shard %d asks, or rises", i)
		}
		for _, m := range []impl.Msg{{}, decide(7, true), decide(5, false), prepare(8, op("lb", 0, 1, 1)), prepare(7)} {
			if got, said := impl.ShardHear(s, m); !isNoShard(got) || len(said) != 0 {
				t.Errorf("shard %d hears %v: %v", i, m, said)
			}
			for _, bytes := range []int{-1, 0, 10, math.MaxInt} {
				if got := impl.ShardCrash(s, m, bytes); !isNoShard(got) {
					t.Errorf("shard %d falls: %v", i, got)
				}
			}
		}
	}
}

func TestP49EmptyListsAreNone(t *testing.T) {
	s := shardOf(1, knownBase(), "P 7 lb:0:1:0")
	for i := range s.Legs {
		s.Legs[i].Holds = append([]impl.Hold{}, s.Legs[i].Holds...)
		s.Base[i].Holds = []impl.Hold{}
	}
	if !impl.ShardOk(s) {
		t.Error("holds")
	}
	if !impl.ShardOk(impl.Shard{Id: 1, Base: []impl.Leg{}, Up: true, Legs: []impl.Leg{}, Txns: []impl.ShardTxn{}}) || !impl.ShardOk(impl.Shard{Id: 2, Legs: []impl.Leg{}, Txns: []impl.ShardTxn{}}) {
		t.Error("no legs")
	}
}

func TestP49Memory(t *testing.T) {
	up := knownShard()
	for i, s := range []impl.Shard{up, fallen(up, up.Log), fallen(up, up.Log+"x")} {
		for j, m := range []impl.Msg{prepare(8, op("lb", 0, 1, 1), op("la", 0, 1, 500)), prepare(8, op("lb", 0, 1, 1), op("zz", 0, 1, 1)), prepare(7, op("la", 0, 1, 500)), decide(7, true), decide(7, false), decide(4, true), {}} {
			what := "shard " + strconv.Itoa(i) + ", message " + strconv.Itoa(j)
			given, msg := withRoom(s), withRoom(m)
			givenAhead, msgAhead := whole(given), whole(msg)
			got, said := impl.ShardHear(given, msg)
			down := impl.ShardCrash(given, msg, 10)
			risen := impl.ShardRise(given)
			asked := impl.ShardTick(given)
			impl.ShardOk(given)
			impl.OpsWrite(msg.Ops)
			checkStays(t, what, given, givenAhead)
			checkStays(t, what, msg, msgAhead)
			checkApart(t, what+" heard", got, given, msg, said)
			checkApart(t, what+" said", said, given, msg)
			checkApart(t, what+" fell", down, given, msg)
			checkApart(t, what+" rose", risen, given, msg)
			checkApart(t, what+" asked", asked, given, msg)
		}
	}
	base := withRoom(knownBase())
	ahead := whole(base)
	s := impl.ShardNew(2, base)
	checkStays(t, "a new one", base, ahead)
	checkApart(t, "a new one", s, base)
}
