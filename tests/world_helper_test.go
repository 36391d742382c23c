package tests

import (
	"regexp"
	"slices"
	"strconv"
	"strings"

	"loop.example/stopover/impl"
)

// The words of chapter 13 a second time, to hold the program's answers against.

func sameWorld(a impl.World, b impl.World) bool {
	return sameCoord(a.Coord, b.Coord) && slices.EqualFunc(a.Shards, b.Shards, sameShard) && sameMsgs(a.Radio, b.Radio) && slices.Equal(a.Told, b.Told)
}

func isNoWorld(w impl.World) bool {
	return sameWorld(w, impl.World{})
}

// worldCopy is a world whose lists may be changed.
func worldCopy(w impl.World) impl.World {
	w.Coord = coordCopy(w.Coord)
	w.Shards, w.Radio, w.Told = slices.Clone(w.Shards), slices.Clone(w.Radio), slices.Clone(w.Told)
	for i, s := range w.Shards {
		s.Base, s.Legs, s.Txns = netCopy(s.Base), netCopy(s.Legs), slices.Clone(s.Txns)
		w.Shards[i] = s
	}
	return w
}

// keptIn is those legs of a net that are kept in a shard.
func keptIn(net []impl.Leg, where []int, shard int) []impl.Leg {
	var list []impl.Leg
	for i, l := range net {
		if where[i] == shard {
			list = append(list, l)
		}
	}
	return list
}

// worldOf is a new world of who decides, who is Up.
func worldOf(c impl.Coord) impl.World {
	return impl.World{Coord: c, Shards: []impl.Shard{shardOf(1, keptIn(c.Net, c.Where, 1)), shardOf(2, keptIn(c.Net, c.Where, 2))}}
}

// fineMsg says whether a message may be under way.
func fineMsg(m impl.Msg) bool {
	toShard := m.From == 0 && (m.To == 1 || m.To == 2)
	toCoord := m.To == 0 && (m.From == 1 || m.From == 2)
	if m.Kind < 1 || m.Kind > 5 || m.Txn < 1 || m.Txn > 99 {
		return false
	}
	if m.Kind == 1 {
		return toShard && fineOps(m.Ops)
	}
	return (toShard || toCoord) && len(m.Ops) == 0
}

func fineWorld(w impl.World) bool {
	if !fineCoord(w.Coord) || len(w.Shards) != 2 || len(w.Radio) > 60 || slices.ContainsFunc(w.Radio, func(m impl.Msg) bool { return !fineMsg(m) }) {
		return false
	}
	for i, s := range w.Shards {
		if s.Id != i+1 || !fineShard(s) || !slices.EqualFunc(s.Base, keptIn(w.Coord.Net, w.Coord.Where, i+1), sameLeg) {
			return false
		}
	}
	return true
}

// upIn says whether there is one at a place, and whether that is Up.
func upIn(w impl.World, at int) (bool, bool) {
	switch at {
	case 0:
		return true, w.Coord.Up
	case 1, 2:
		return true, w.Shards[at-1].Up
	}
	return false, false
}

// withRadio is a world in which messages were sent, and something was told.
func withRadio(w impl.World, said []impl.Msg, told ...impl.Reply) impl.World {
	radio := append(slices.Clone(w.Radio), said...)
	w.Radio = radio[:max(len(w.Radio), min(60, len(radio)))]
	for _, one := range told {
		if one.Text != "" {
			w.Told = append(slices.Clone(w.Told), one)
		}
	}
	return w
}

func withoutMsg(w impl.World, place int) impl.World {
	w.Radio = slices.Delete(slices.Clone(w.Radio), place, place+1)
	return w
}

func withShard(w impl.World, s impl.Shard) impl.World {
	w.Shards = slices.Clone(w.Shards)
	w.Shards[s.Id-1] = s
	return w
}

// heardIn is a world in which a message was heard.
func heardIn(w impl.World, m impl.Msg) impl.World {
	if m.To == 0 {
		c, said, told := coHearIn(w.Coord, m)
		w.Coord = c
		return withRadio(w, said, told...)
	}
	s, said := hearIn(w.Shards[m.To-1], m)
	return withRadio(withShard(w, s), said)
}

// happenIn is a world behind what happened, and whether it can be.
func happenIn(w impl.World, e impl.Event) (impl.World, bool) {
	if !fineWorld(w) {
		return impl.World{}, false
	}
	return stepIn(w, e)
}

// stepIn is the same of a world that is ok.
func stepIn(w impl.World, e impl.Event) (impl.World, bool) {
	there, up := upIn(w, e.At)
	underWay := e.At >= 0 && e.At < len(w.Radio)
	can := map[int]bool{1: w.Coord.Up && e.At >= 1 && e.At <= 99, 2: w.Coord.Up && e.At >= 1 && e.At <= 99, 3: underWay, 4: underWay, 5: up, 6: up, 7: there && !up}[e.Kind]
	if !can {
		return w, false
	}
	switch e.Kind {
	case 1:
		c, said, text := coSellIn(w.Coord, e.At, e.Trip)
		w.Coord = c
		return withRadio(w, said, impl.Reply{Req: e.At, Text: text}), true
	case 2:
		c, said, text := coBackIn(w.Coord, e.At, e.N)
		w.Coord = c
		return withRadio(w, said, impl.Reply{Req: e.At, Text: text}), true
	case 3:
		m := w.Radio[e.At]
		if !e.Keep {
			w = withoutMsg(w, e.At)
		}
		return heardIn(w, m), true
	case 4:
		return withoutMsg(w, e.At), true
	case 5:
		return tickedIn(w, e.At), true
	case 6:
		return fallenIn(w, e.At, e.N), true
	}
	return risenIn(w, e.At), true
}

func tickedIn(w impl.World, at int) impl.World {
	if at == 0 {
		c, said, told := coTickIn(w.Coord)
		w.Coord = c
		return withRadio(w, said, told...)
	}
	var said []impl.Msg
	for _, x := range w.Shards[at-1].Txns {
		if x.Stands == 1 {
			said = append(said, how(at, x.Txn))
		}
	}
	return withRadio(w, said)
}

func fallenIn(w impl.World, at int, bytes int) impl.World {
	var m impl.Msg
	for i, one := range w.Radio {
		if one.To == at {
			m, w = one, withoutMsg(w, i)
			break
		}
	}
	if at == 0 {
		w.Coord = coCrashIn(w.Coord, m, bytes)
		return w
	}
	s := w.Shards[at-1]
	after, _ := hearIn(s, m)
	added := after.Log[len(s.Log):]
	return withShard(w, fallen(s, s.Log+added[:min(max(bytes, 0), len(added))]))
}

func risenIn(w impl.World, at int) impl.World {
	if at == 0 {
		w.Coord = coRiseIn(w.Coord)
		return w
	}
	s, _ := replayed(w.Shards[at-1])
	return withShard(w, s)
}

func playIn(w impl.World, list []impl.Event) impl.World {
	if !fineWorld(w) {
		return impl.World{}
	}
	if len(list) <= 120 {
		for _, e := range list {
			w, _ = stepIn(w, e)
		}
	}
	return w
}

func calmIn(w impl.World, rounds int) impl.World {
	if !fineWorld(w) {
		return impl.World{}
	}
	bring := func() {
		for i := 0; i < 400 && len(w.Radio) > 0; i++ {
			w, _ = stepIn(w, impl.Event{Kind: 3})
		}
	}
	for i := 0; i < rounds && i < 20; i++ {
		for at := range 3 {
			w, _ = stepIn(w, impl.Event{Kind: 7, At: at})
		}
		bring()
		for at := range 3 {
			w, _ = stepIn(w, impl.Event{Kind: 5, At: at})
			bring()
		}
	}
	return w
}

// decidedIn is all that was decided to be done, in the order of the log.
func decidedIn(c impl.Coord) []impl.CoTxn {
	now, _ := coReplayed(c)
	return slices.DeleteFunc(slices.Clone(now.Txns), func(x impl.CoTxn) bool { return x.Stands != 2 })
}

// legsIn is all legs as one machine has them, and whether it can have them so.
func legsIn(c impl.Coord) ([]impl.Leg, bool) {
	if !fineCoord(c) {
		return nil, false
	}
	net := netCopy(c.Net)
	for _, x := range decidedIn(c) {
		ops, _, _, _ := needs(c, x.Trip, x.Back)
		for _, o := range ops {
			place := legAt(net, o.Leg)
			l, ok := holdIn(net[place], hold(1, o.Class, o.Seats), 1000000000)
			if !ok {
				return nil, false
			}
			net[place] = keepIn(l, 1)
		}
	}
	return net, true
}

func openIn(w impl.World) int {
	open := 0
	for at := range 3 {
		if _, up := upIn(w, at); !up {
			open++
		}
	}
	for _, s := range w.Shards {
		for _, x := range s.Txns {
			if x.Stands == 1 {
				open++
			}
		}
	}
	for _, x := range w.Coord.Txns {
		if x.Stands == 1 || x.Stands == 2 && len(x.Acks) < len(x.Shards) {
			open++
		}
	}
	return open
}

func stillIn(w impl.World) bool {
	return fineWorld(w) && openIn(w) == 0 && len(w.Radio) == 0
}

func safeIn(w impl.World) bool {
	if !fineWorld(w) {
		return false
	}
	net, ok := legsIn(w.Coord)
	if !ok {
		return false
	}
	last, shards := map[int]string{}, map[int][]int{}
	for _, x := range decidedIn(w.Coord) {
		last[x.Req], shards[x.Txn] = toldOf(x), x.Shards
	}
	for _, s := range w.Shards {
		now, _ := replayed(s)
		for txn := 1; txn <= 99; txn++ {
			stands, done := standing(now, txn), shards[txn] != nil
			if stands == 2 && !done || stands == 3 && done || done && (stands > 0) != slices.Contains(shards[txn], s.Id) {
				return false
			}
		}
		if openIn(w) == 0 && !slices.EqualFunc(s.Legs, keptIn(net, w.Coord.Where, s.Id), sameLeg) {
			return false
		}
	}
	for _, one := range w.Told {
		want := last[one.Req]
		if want == "" {
			want = "no"
		}
		if !strings.HasPrefix(one.Text, "bad ") && one.Text != want {
			return false
		}
	}
	return true
}

func worldBoardOf(w impl.World) string {
	if !fineWorld(w) {
		return ""
	}
	lines := []string{strconv.Itoa(len(w.Radio)) + " under way, " + strconv.Itoa(openIn(w)) + " open"}
	if !w.Coord.Up {
		lines = append(lines, "who decides is down")
	}
	for _, s := range w.Shards {
		if !s.Up {
			lines = append(lines, "shard "+strconv.Itoa(s.Id)+" is down")
		}
		for _, l := range s.Legs {
			lines = append(lines, legText(l)+" held "+strconv.Itoa(len(l.Holds)))
		}
	}
	for _, x := range w.Coord.Txns {
		lines = append(lines, "txn "+strconv.Itoa(x.Txn)+" of "+strconv.Itoa(x.Req)+" "+tripText(x.Trip)+" "+[]string{"", "asks", "done", "not"}[x.Stands])
	}
	for _, one := range w.Told {
		lines = append(lines, "told "+strconv.Itoa(one.Req)+" "+one.Text)
	}
	return strings.Join(lines, "\n") + "\n"
}

var lineForm = regexp.MustCompile(`^(?:(sell) (0|[1-9]\d?) ([^ ]+)|(back|crash) (0|[1-9]\d?) (0|[1-9]\d?)|(bring|lose|tick|rise|calm) (0|[1-9]\d?)|(bring) (0|[1-9]\d?) (keep))$`)

// lineIn is a world behind a line of a session, and the answer.
func lineIn(w impl.World, line string) (impl.World, string) {
	words := lineForm.FindStringSubmatch(line)
	if words == nil {
		return w, "what\n"
	}
	word := words[1] + words[4] + words[7] + words[9]
	e := impl.Event{Kind: slices.Index([]string{"", "sell", "back", "bring", "lose", "tick", "crash", "rise"}, word), Keep: words[11] == "keep"}
	e.At, _ = strconv.Atoi(words[2] + words[5] + words[8] + words[10])
	e.N, _ = strconv.Atoi(words[6])
	if word == "calm" && e.At <= 20 {
		return calmIn(w, e.At), ""
	}
	trip, reads := plainTrip(words[3])
	if word == "calm" || word == "sell" && !reads {
		return w, "what\n"
	}
	e.Trip = trip
	after, ok := stepIn(w, e)
	if !ok {
		return w, "no\n"
	}
	return after, ""
}

func sessionOf(net []string, where []int, fares string, lines []string) string {
	c := impl.Coord{Where: where}
	for _, text := range net[:min(7, len(net))] {
		l, ok := plainLeg(text)
		if !ok {
			return "no leg\n"
		}
		c.Net = append(c.Net, l)
	}
	var ok bool
	if c.Fares, ok = plainFares(fares); !ok {
		return "no fares\n"
	}
	if !fineCoord(c) {
		return "no world\n"
	}
	c, _ = coReplayed(c)
	w, answers := worldOf(c), ""
	for _, line := range lines {
		var answer string
		w, answer = lineIn(w, line)
		answers += answer
	}
	return answers + worldBoardOf(w)
}

// exampleWorld is the world of the example of chapter 13.
func exampleWorld() impl.World {
	return worldOf(coordOf())
}

func sells(req int, text string) impl.Event {
	trip, _ := plainTrip(text)
	return impl.Event{Kind: 1, At: req, Trip: trip}
}

func backs(req int, sale int) impl.Event {
	return impl.Event{Kind: 2, At: req, N: sale}
}

func brings(place int) impl.Event {
	return impl.Event{Kind: 3, At: place}
}

func keeps(place int) impl.Event {
	return impl.Event{Kind: 3, At: place, Keep: true}
}

func loses(place int) impl.Event {
	return impl.Event{Kind: 4, At: place}
}

func ticks(at int) impl.Event {
	return impl.Event{Kind: 5, At: at}
}

func falls(at int, bytes int) impl.Event {
	return impl.Event{Kind: 6, At: at, N: bytes}
}

func rises(at int) impl.Event {
	return impl.Event{Kind: 7, At: at}
}

// played is the example's world behind what happened, all of which can be.
func played(list ...impl.Event) impl.World {
	w := exampleWorld()
	for i, e := range list {
		var ok bool
		if w, ok = stepIn(w, e); !ok {
			panic(i)
		}
	}
	return w
}

// event is something that may happen to a world, mostly something that can be.
func (r *numbers) event(w impl.World) impl.Event {
	place := 0
	if len(w.Radio) > 0 {
		place = r.below(len(w.Radio)) * r.below(2)
	}
	kind := anyOf(r, 1, 1, 1, 2, 3, 3, 3, 3, 3, 3, 3, 3, 3, 4, 5, 5, 5, 6, 7, 7, 7)
	e := impl.Event{Kind: kind, At: r.below(3), N: 1 + r.below(20), Trip: r.coTrip(w.Coord)}
	switch kind {
	case 1:
		e.At = 1 + r.below(20)
	case 2:
		e.At = 30 + r.below(20)
	case 3, 4:
		e.At, e.Keep = place, r.below(5) == 0
	case 6:
		e.N = r.below(100) - 5
	case 7:
		for at := range 3 {
			if _, up := upIn(w, at); !up {
				e.At = at
			}
		}
	}
	if r.below(40) == 0 {
		e.At = anyOf(r, -1, 0, 3, 60, 99, 100)
	}
	return e
}

// world is any world, behind so many events at most.
func (r *numbers) world(events int) impl.World {
	w := worldOf(r.coord())
	for range r.below(events + 1) {
		w, _ = stepIn(w, r.event(w))
	}
	return w
}

// knownWorlds are worlds of the example in which something is under way, asked, down, torn, told.
func knownWorlds() []impl.World {
	sold := []impl.Event{sells(1, "la-lb/full/2"), brings(0), brings(0), brings(0), brings(0)}
	return []impl.World{
		exampleWorld(), played(sells(1, "la-lb/full/2")), played(sold[:3]...), played(sold...), played(append(sold[:5:5], brings(0), brings(0), brings(0), brings(0))...),
		played(append(sold[:5:5], falls(2, 10), backs(9, 1), falls(0, 3))...), played(append(sold[:5:5], sells(2, "la/full/1"), sells(5, "lb-la/full/1"), sells(1, "lc/low/1"), keeps(0), brings(0), falls(1, 30))...),
		played(sells(1, "la-lb/full/2"), falls(1, 0), falls(2, 10), falls(0, 0)), played(sells(1, "la-lb/full/2"), falls(1, 99), rises(1), ticks(1), sells(3, "lc/low/1"), loses(0), ticks(0), ticks(0)),
	}
}

// worlds are worlds that are ok: known ones, and any others.
func worlds(seed uint64, count int, events int) []impl.World {
	list := append(knownWorlds(), worldOf(impl.Coord{Up: true, Next: 1}))
	r := numbers{seed}
	for range count {
		list = append(list, r.world(events))
	}
	return list
}
