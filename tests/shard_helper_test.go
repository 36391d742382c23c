package tests

import (
	"regexp"
	"slices"
	"strconv"
	"strings"

	"loop.example/stopover/impl"
)

// The words of chapter 10 a second time, to hold the program's answers against.

func op(leg string, class int, seats int, share int) impl.Op {
	return impl.Op{Leg: leg, Class: class, Seats: seats, Share: share}
}

// opsText writes ops, whether they are ok or not.
func opsText(ops []impl.Op) string {
	words := make([]string, len(ops))
	for i, o := range ops {
		words[i] = o.Leg + ":" + strconv.Itoa(o.Class) + ":" + strconv.Itoa(o.Seats) + ":" + strconv.Itoa(o.Share)
	}
	return strings.Join(words, ",")
}

var opForm = regexp.MustCompile(`^([a-z]{1,8}):([0-2]):(-?[1-4]):(0|[1-9]\d{0,12})$`)

// plainOps says which ops a text is, and whether it is some.
func plainOps(text string) ([]impl.Op, bool) {
	var ops []impl.Op
	seen := map[string]bool{}
	for word := range strings.SplitSeq(text, ",") {
		parts := opForm.FindStringSubmatch(word)
		if parts == nil || seen[parts[1]] {
			return nil, false
		}
		seen[parts[1]] = true
		seats, _ := strconv.Atoi(parts[3])
		share, _ := strconv.Atoi(parts[4])
		if ops = append(ops, op(parts[1], int(parts[2][0]-'0'), seats, share)); share > 1000000000000 || len(ops) > 3 {
			return nil, false
		}
	}
	return ops, true
}

func fineOps(ops []impl.Op) bool {
	read, ok := plainOps(opsText(ops))
	// A name with a comma in it would be read as two.
	return ok && slices.Equal(read, ops)
}

func sameTxn(a impl.ShardTxn, b impl.ShardTxn) bool {
	return a.Txn == b.Txn && a.Stands == b.Stands && slices.Equal(a.Ops, b.Ops)
}

func sameShard(a impl.Shard, b impl.Shard) bool {
	plain := a.Id == b.Id && a.Log == b.Log && a.Up == b.Up
	return plain && slices.EqualFunc(a.Base, b.Base, sameLeg) && slices.EqualFunc(a.Legs, b.Legs, sameLeg) && slices.EqualFunc(a.Txns, b.Txns, sameTxn)
}

func isNoShard(s impl.Shard) bool {
	return sameShard(s, impl.Shard{})
}

func sameMsg(a impl.Msg, b impl.Msg) bool {
	return a.Kind == b.Kind && a.From == b.From && a.To == b.To && a.Txn == b.Txn && slices.Equal(a.Ops, b.Ops) && a.Yes == b.Yes
}

func sameMsgs(a []impl.Msg, b []impl.Msg) bool {
	return slices.EqualFunc(a, b, sameMsg)
}

// recordsIn is the records of a log, and how many bytes they have.
func recordsIn(log string) ([]string, int) {
	var records []string
	size := 0
	for {
		_, rest, _ := strings.Cut(log[size:], ":")
		figures, rest, _ := strings.Cut(rest, ":")
		n, err := strconv.Atoi(figures)
		if err != nil || n < 0 || n > len(rest) {
			return records, size
		}
		text := signed(strconv.Itoa(len(records)) + ":" + strconv.Itoa(n) + ":" + rest[:n])
		if !strings.HasPrefix(log[size:], text) {
			return records, size
		}
		records, size = append(records, rest[:n]), size+len(text)
	}
}

var recordForm = regexp.MustCompile(`^(?:(P) ([1-9]\d?) (.*)|([CA]) ([1-9]\d?))$`)

// standing is how a transaction stands, 0 if it is not known.
func standing(s impl.Shard, txn int) int {
	for _, known := range s.Txns {
		if known.Txn == txn {
			return known.Stands
		}
	}
	return 0
}

// doneIn is a shard behind a record, and whether that can be done.
func doneIn(s impl.Shard, record string) (impl.Shard, bool) {
	words := recordForm.FindStringSubmatch(record)
	if words == nil {
		return s, false
	}
	txn, _ := strconv.Atoi(words[2] + words[5])
	s.Legs, s.Txns = netCopy(s.Legs), slices.Clone(s.Txns)
	if words[1] == "P" {
		ops, ok := plainOps(words[3])
		for _, o := range ops {
			place := legAt(s.Legs, o.Leg)
			if place < 0 {
				return s, false
			}
			with, can := holdIn(s.Legs[place], hold(txn, o.Class, o.Seats), o.Share)
			s.Legs[place] = with
			ok = ok && can
		}
		ok = ok && standing(s, txn) == 0
		s.Txns = append(s.Txns, impl.ShardTxn{Txn: txn, Stands: 1, Ops: ops})
		return s, ok
	}
	if standing(s, txn) != 1 {
		return s, false
	}
	for i, l := range s.Legs {
		if words[4] == "C" {
			s.Legs[i] = keepIn(l, txn)
		} else {
			s.Legs[i], _ = withoutIn(l, txn)
		}
	}
	place := slices.IndexFunc(s.Txns, func(known impl.ShardTxn) bool { return known.Txn == txn })
	s.Txns[place].Stands = map[string]int{"C": 2, "A": 3}[words[4]]
	return s, true
}

// replayed is a shard as its log says, Up, and whether that can be.
func replayed(s impl.Shard) (impl.Shard, bool) {
	records, size := recordsIn(s.Log)
	s = impl.Shard{Id: s.Id, Base: s.Base, Log: s.Log[:size], Up: true, Legs: netCopy(s.Base)}
	for _, record := range records {
		var ok bool
		if s, ok = doneIn(s, record); !ok {
			return s, false
		}
	}
	return s, true
}

// fineShard says whether a shard is ok.
func fineShard(s impl.Shard) bool {
	if s.Id != 1 && s.Id != 2 || len(s.Log) > 9000 || !fineNet(s.Base) || !holdsNone(s.Base) {
		return false
	}
	now, ok := replayed(s)
	if !s.Up {
		return ok && len(s.Legs) == 0 && len(s.Txns) == 0
	}
	return ok && sameShard(s, now)
}

// wroteIn is a shard that wrote a record, and whether it could.
func wroteIn(s impl.Shard, record string) (impl.Shard, bool) {
	records, _ := recordsIn(s.Log)
	after, ok := doneIn(s, record)
	after.Log = logOf(append(records, record))
	if !ok || len(after.Log) > 9000 {
		return s, false
	}
	return after, true
}

func says(s impl.Shard, kind int, txn int, yes bool) []impl.Msg {
	return []impl.Msg{{Kind: kind, From: s.Id, Txn: txn, Yes: yes}}
}

// hearIn is a shard that heard a message, and what it says.
func hearIn(s impl.Shard, m impl.Msg) (impl.Shard, []impl.Msg) {
	if !fineShard(s) {
		return impl.Shard{}, nil
	}
	if !s.Up || m.To != s.Id || m.From != 0 || m.Txn < 1 || m.Txn > 99 {
		return s, nil
	}
	stands, txn := standing(s, m.Txn), strconv.Itoa(m.Txn)
	if m.Kind == 1 && (stands == 1 || stands == 2) {
		return s, says(s, 2, m.Txn, true)
	}
	if m.Kind == 1 {
		after, ok := wroteIn(s, "P "+txn+" "+opsText(m.Ops))
		return after, says(s, 2, m.Txn, ok)
	}
	if m.Kind == 3 && stands == 1 {
		after, ok := wroteIn(s, map[bool]string{true: "C ", false: "A "}[m.Yes]+txn)
		if !ok {
			return s, nil
		}
		return after, says(s, 4, m.Txn, m.Yes)
	}
	if m.Kind == 3 && m.Yes == (stands == 2) {
		return s, says(s, 4, m.Txn, m.Yes)
	}
	return s, nil
}

// fallen is a shard that is not Up, with a log.
func fallen(s impl.Shard, log string) impl.Shard {
	return impl.Shard{Id: s.Id, Base: s.Base, Log: log}
}

// shardOf is a shard that is Up, with a log of records that can be done.
func shardOf(id int, base []impl.Leg, records ...string) impl.Shard {
	s, ok := replayed(impl.Shard{Id: id, Base: base, Log: logOf(records)})
	if !ok {
		panic(records)
	}
	return s
}

func prepare(txn int, ops ...impl.Op) impl.Msg {
	return impl.Msg{Kind: 1, To: 1, Txn: txn, Ops: ops}
}

func decide(txn int, yes bool) impl.Msg {
	return impl.Msg{Kind: 3, To: 1, Txn: txn, Yes: yes}
}

// knownBase is the legs of a shard, of which some seats are sold.
func knownBase() []impl.Leg {
	return []impl.Leg{worth(flight("la", "ams", "bru", 1, 3, 3, 3, 1), 400, 100), sold(flight("lb", "bru", "cdg", 5, 9, 9, 8, 4), 1, 2, 3), flight("lc", "cdg", "dub", 10, 12, 2, 1, 0)}
}

// knownShard knows one transaction that is ready, one that is kept, and one that is gone.
func knownShard() impl.Shard {
	return shardOf(1, knownBase(), "P 7 la:1:1:500,lb:2:-2:0", "P 4 lb:0:2:10", "P 99 lc:1:1:0,la:0:1:100", "C 4", "A 99")
}

// shardMsgs are messages for a shard: of each kind and transaction, with ops of all sorts, and such as nobody sends.
func shardMsgs() []impl.Msg {
	lists := [][]impl.Op{
		nil, {}, {op("la", 0, 1, 500)}, {op("la", 0, 1, 0)}, {op("la", 0, 4, 500)}, {op("lb", 2, -3, 0)}, {op("lb", 0, 1, 1), op("la", 1, 1, 400), op("lc", 1, 1, 0)}, {op("lb", 2, -1, 0), op("zz", 0, 1, 0)},
		{op("lb", 0, 1, 0), op("lb", 1, 1, 0)}, {op("lb", 0, 5, 0)}, {op("lb", 0, 0, 0)}, {op("lb", 3, 1, 0)}, {op("lb", 0, 1, -1)},
	}
	var list []impl.Msg
	for _, txn := range append([]int{-1, 0, 1, 4, 5, 7, 98, 99, 100}, ends...) {
		for i, ops := range lists {
			list = append(list, prepare(txn, ops...), impl.Msg{Kind: 1, To: 1, Txn: txn, Ops: ops, Yes: i%2 > 0})
		}
		for _, yes := range []bool{true, false} {
			list = append(list, decide(txn, yes), impl.Msg{Kind: 3, To: 1, Txn: txn, Ops: lists[2], Yes: yes})
			for _, kind := range append([]int{-1, 0, 2, 4, 5, 6}, ends...) {
				list = append(list, impl.Msg{Kind: kind, To: 1, Txn: txn, Ops: lists[2], Yes: yes})
			}
		}
	}
	for _, place := range append([]int{-1, 1, 2, 3}, ends...) {
		for _, m := range []impl.Msg{prepare(5, lists[2]...), decide(7, true), decide(7, false), decide(5, false), decide(4, true)} {
			from := m
			from.From = place
			to := m
			to.To = place
			if place == 1 {
				to.To = 0
			}
			list = append(list, from, to)
		}
	}
	return list
}

// msg is a message for a shard, mostly one that is listened to.
func (r *numbers) msg(s impl.Shard) impl.Msg {
	m := impl.Msg{Kind: anyOf(r, 1, 1, 1, 1, 3, 3, 3, 5), To: s.Id, Txn: 1 + r.below(12), Yes: r.below(2) > 0}
	if r.below(40) == 0 {
		m.Txn = anyOf(r, 0, 99, 100)
	}
	if r.below(30) == 0 {
		m.From, m.To = r.below(2), r.below(3)
	}
	for _, l := range s.Base {
		if r.below(2) == 0 && len(m.Ops) < 3 {
			m.Ops = append(m.Ops, op(l.Name, anyOf(r, 0, 0, 1, 2), anyOf(r, -1, 1, 1, 1, 2, 3), anyOf(r, 0, 500, 1000000000, 1000000000)))
		}
	}
	if r.below(20) == 0 {
		m.Ops = append(m.Ops, anyOf(r, op("zz", 0, 1, 1), op("la", 0, 5, 1), op("la", 3, 1, 1), op("la", 0, 1, -1)))
	}
	return m
}

// shards are shards that are ok, Up or not: new ones, those at limits, and any others.
func shards() []impl.Shard {
	list := []impl.Shard{shardOf(1, nil), shardOf(2, nil), shardOf(1, knownBase()), shardOf(2, wideSerial(0).Net), knownShard(), shardLeft(0), shardLeft(1), shardLeft(60)}
	r := numbers{49}
	for range 60 {
		s := shardOf(1+r.below(2), r.trader([][]impl.Fare{nil}).Net)
		for range r.below(20) {
			s, _ = hearIn(s, r.msg(s))
		}
		list = append(list, s)
	}
	for _, s := range list {
		size := len(s.Log)
		list = append(list, fallen(s, s.Log), fallen(s, s.Log[:r.below(size+1)]), fallen(s, s.Log[:max(0, size-1)]+"0:3:C 1"))
	}
	return slices.DeleteFunc(list, func(s impl.Shard) bool { return len(s.Log) > 9000 })
}

// longBase is three legs of nine seats each.
func longBase() []impl.Leg {
	return []impl.Leg{flight("abcdefgh", "x", "y", 1, 2, 9, 9, 9), flight("hgfedcba", "x", "y", 1, 2, 9, 9, 9), flight("c", "x", "y", 1, 2, 9, 9, 9)}
}

// longOps are ops of three legs, whose shares have so many noughts, up to 36.
func longOps(noughts int) []impl.Op {
	ops := []impl.Op{op("abcdefgh", 0, 1, 1), op("hgfedcba", 1, 2, 1), op("c", 2, 1, 1)}
	for i := range noughts {
		ops[i%3].Share *= 10
	}
	return ops
}

// shardLeft is a shard that is Up, which knows a transaction 99 that is ready, and whose log has room for so many bytes more.
func shardLeft(left int) impl.Shard {
	fill := func(noughts int) []string {
		var records []string
		for txn := 1; txn <= 75; txn++ {
			some := min(noughts, 36)
			noughts -= some
			records = append(records, "P "+strconv.Itoa(txn)+" "+opsText(longOps(some)), "A "+strconv.Itoa(txn))
		}
		return append(records, "P 99 "+opsText(longOps(noughts)))
	}
	return shardOf(1, longBase(), fill(9000-left-len(logOf(fill(0))))...)
}
