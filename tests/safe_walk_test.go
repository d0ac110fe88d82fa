package tests

import (
	"slices"
	"testing"

	"loop.example/tombolo/impl"
)

// watcher looks at each world that comes of the one ahead of it, and counts what there was to be seen.
type watcher struct {
	sides [2][]impl.Ver
	saw   sights
}

// sights is how often there was something to look at: versions that came of others, and those of others in turn; what was known, owed, or waited;
// answers, and versions that were written behind them; slots that left twice, or had come and were leaving still; what was written by calls
// that were given up; and worlds that were the same on both sides, something being there.
type sights struct {
	cameOf  int
	farBack int
	known   int
	owed    int
	waited  int
	read    int
	behind  int
	twice   int
	leaving int
	given   int
	same    int
}

func (o *watcher) does(t *testing.T, w impl.Neck, e impl.NeckEvent) (impl.Neck, bool) {
	t.Helper()
	x, done := impl.NeckDo(w, e)
	if done {
		o.looks(t, x)
	}
	return x, done
}

// looks asks all promises of a world, behind the one that it looked at last.
func (o *watcher) looks(t *testing.T, x impl.Neck) {
	t.Helper()
	got := checkLooks(t, x)
	if !got.safe || !got.calls {
		t.Fatalf("promise 83: %v %v %+v", safeFlawsBy(x), callFlawsBy(x), x)
	}
	for side, list := range got.sides {
		checkForGood(t, o.sides[side], list)
		for _, v := range list {
			o.checkCameOf(t, list, v)
			if !hasName(o.sides[side], nameOf(v)) {
				o.checkBehindReads(t, x, v)
			}
		}
	}
	for _, s := range x.Servers {
		o.checkServer(t, s, got.sides[s.Site/2])
	}
	for side := range 2 {
		o.checkOnTheWay(t, x, side, got.sides[side], got.sides[1-side])
	}
	for _, c := range x.Calls {
		o.checkWritten(t, x, c, got.sides[c.Client])
	}
	o.sides = got.sides
	o.count(x, got)
}

// checkForGood, promise 82: what could be seen on a side can be seen there still, just so.
func checkForGood(t *testing.T, old []impl.Ver, now []impl.Ver) {
	t.Helper()
	for _, v := range old {
		if !justSo(now, v) {
			t.Fatal("promise 82: it cannot be seen any more", v, now)
		}
	}
}

// checkCameOf, promises 86 and 87: a version came of what is of lesser times, and can be seen with it; and it bears what that came of.
func (o *watcher) checkCameOf(t *testing.T, list []impl.Ver, v impl.Ver) {
	t.Helper()
	for _, d := range v.Deps {
		at := findVers(list, d.Key, d.Stamp)
		if d.Stamp.Time >= v.Stamp.Time || len(at) != 1 {
			t.Fatal("promise 86", v, d, list)
		}
		o.saw.cameOf++
		for _, far := range at[0].Deps {
			o.saw.farBack++
			if s := stampOf(v.Deps, far.Key); newer(s, far.Stamp) != s {
				t.Fatal("promise 87", v, at[0], far)
			}
		}
	}
}

// checkServer, promises 88 and 89: what a server knows can be seen on its side, and nobody owes what is not of their side.
func (o *watcher) checkServer(t *testing.T, s impl.Server, side []impl.Ver) {
	t.Helper()
	o.saw.known, o.saw.owed, o.saw.waited = o.saw.known+len(s.Knows), o.saw.owed+len(s.Owes), o.saw.waited+len(s.Waits)
	for _, d := range s.Knows {
		if !hasName(side, d) {
			t.Fatal("promise 88", s, d)
		}
	}
	for _, d := range s.Owes {
		if d.Stamp.Site/2 != s.Site/2 {
			t.Fatal("promise 89: it is not its side's", s, d)
		}
	}
}

// checkOnTheWay, promise 89: what the other side does not have is owed, or waits there.
func (o *watcher) checkOnTheWay(t *testing.T, w impl.Neck, side int, own []impl.Ver, far []impl.Ver) {
	t.Helper()
	here, there := w.Servers[2*side:2*side+2], w.Servers[2-2*side:4-2*side]
	for _, v := range own {
		owed := slices.ContainsFunc(here, func(s impl.Server) bool { return slices.Contains(s.Owes, nameOf(v)) })
		waits := slices.ContainsFunc(there, func(s impl.Server) bool { return justSo(s.Waits, v) })
		if !hasName(far, nameOf(v)) && !owed && !waits {
			t.Fatalf("promise 89: it will not come to the other side %+v %+v", v, w)
		}
	}
}

// checkWritten, promise 90: what was read was written by a call that was made, and can be seen on the reader's side.
func (o *watcher) checkWritten(t *testing.T, w impl.Neck, c impl.Call, side []impl.Ver) {
	t.Helper()
	for _, a := range c.Got {
		if !a.Yes {
			continue
		}
		o.saw.read++
		if !justSo(side, a.Ver) || !wasCalledFor(w, a.Ver) {
			t.Fatalf("promise 90: %+v %+v", c, w)
		}
	}
}

// writes says whether a call is the put that made a version, or would make it.
func writes(c impl.Call, v impl.Ver) bool {
	return c.Client == v.Client && c.Num == v.Call && c.Kind == impl.CallPut && c.Keys[0] == v.Key && c.Val == v.Val && slices.Equal(c.Ctx, v.Deps)
}

// wasCalledFor says whether a version was made by one of the calls.
func wasCalledFor(w impl.Neck, v impl.Ver) bool {
	return slices.ContainsFunc(w.Calls, func(c impl.Call) bool { return writes(c, v) })
}

// checkBehindReads, promise 91: a version came of all that its client had read ahead of its call, and of what that came of.
func (o *watcher) checkBehindReads(t *testing.T, w impl.Neck, v impl.Ver) {
	t.Helper()
	for _, c := range w.Calls {
		if c.Client == v.Client && c.Num == v.Call && c.Over {
			o.saw.given++
		}
		if c.Client != v.Client || c.Num >= v.Call || c.Kind != impl.CallRead || c.End == 0 {
			continue
		}
		for _, a := range c.Got {
			if !a.Yes {
				continue
			}
			o.saw.behind++
			for _, d := range append(slices.Clone(a.Ver.Deps), nameOf(a.Ver)) {
				if s := stampOf(v.Deps, d.Key); newer(s, d.Stamp) != s {
					t.Fatalf("promise 91: %+v %+v", v, c)
				}
			}
		}
	}
}

func (o *watcher) count(w impl.Neck, got looks) {
	if got.same && len(got.sides[0]) > 0 {
		o.saw.same++
	}
	for side := range 2 {
		for slot := range impl.VerSlots {
			first, second := w.Servers[2*side].Slots[slot].Stand, w.Servers[2*side+1].Slots[slot].Stand
			switch {
			case first == impl.StandLeaving && second == impl.StandLeaving:
				o.saw.twice++
			case first+second == impl.StandLeaving+impl.StandOwns:
				o.saw.leaving++
			}
		}
	}
}

// watched is a walk each of whose worlds is looked at.
func watched(t *testing.T, number int) (*drawn, *watcher) {
	d, o := newDrawn(t, number), &watcher{}
	d.does = o.does
	return d, o
}

// unwatched is a walk none of whose worlds is looked at on the way.
func unwatched(t *testing.T, number int) *drawn {
	d := newDrawn(t, number)
	d.does = func(_ *testing.T, w impl.Neck, e impl.NeckEvent) (impl.Neck, bool) { return impl.NeckDo(w, e) }
	return d
}

func anyEvent(impl.NeckEvent) bool {
	return true
}

func (sum *sights) add(more sights) {
	for _, pair := range [][2]*int{
		{&sum.cameOf, &more.cameOf}, {&sum.farBack, &more.farBack}, {&sum.known, &more.known}, {&sum.owed, &more.owed}, {&sum.waited, &more.waited}, {&sum.read, &more.read},
		{&sum.behind, &more.behind}, {&sum.twice, &more.twice}, {&sum.leaving, &more.leaving}, {&sum.given, &more.given}, {&sum.same, &more.same},
	} {
		*pair[0] += *pair[1]
	}
}

// enough says whether there was as much as this of each, but for worlds that were the same.
func (sum sights) enough(n int) bool {
	return min(sum.cameOf, sum.farBack, sum.known, sum.owed, sum.waited, sum.read, sum.behind, sum.twice, sum.leaving, sum.given) >= n
}

// Promises 82, 83 and 86 to 91, of each world that drawn events lead to from the start on: words are lost, doubled, late and out of turn, servers
// fall and rise, slots move at any time, calls are sent again and given up.
func TestWhoeverSees(t *testing.T) {
	inParts(t, 8, func(t *testing.T, part int) {
		sum := sights{}
		for number := range 14 {
			d, o := watched(t, 3000+14*part+number)
			d.goesFar(900, anyEvent)
			sum.add(o.saw)
		}
		if !sum.enough(5) {
			t.Error("too little happened", sum)
		}
	})
}

// The same of reads that take long, other things being written all the while, and of what is written behind them.
func TestWhoeverReadsSlowly(t *testing.T) {
	inParts(t, 4, func(t *testing.T, part int) {
		sum := sights{}
		for number := range 8 {
			d, o := watched(t, 3200+8*part+number)
			for i := range 6 {
				d.readsSlowly((i + number) % impl.VerClients)
			}
			sum.add(o.saw)
		}
		if sum.read < 3000 || sum.behind < 100 || sum.farBack < 10000 || sum.same < 300 {
			t.Error("too little happened", sum)
		}
	})
}

// Promise 83, of scripts of some hundreds of events, and of NeckMaxPlay.
func TestScriptsAreSafe(t *testing.T) {
	t.Parallel()
	for number := range 24 {
		d := unwatched(t, 3300+number)
		n := []int{200, 500, 900, impl.NeckMaxPlay}[number%4]
		d.goesFar(n, anyEvent)
		x := impl.NeckPlay(d.list)
		if got := checkLooks(t, x); len(d.list) != n || !got.safe || !got.calls || x.Time < n/4 {
			t.Fatal(number, x)
		}
		o := watcher{}
		o.looks(t, x)
	}
}

// Promise 84: without calls being sent nothing is written, and nothing seen, from the start on: calls begin and are given up, slots move, servers fall.
func TestNothingIsWrittenUnsent(t *testing.T) {
	t.Parallel()
	moved, begun := 0, 0
	for number := range 20 {
		d, o := watched(t, 3400+number)
		d.goesFar(400, func(e impl.NeckEvent) bool { return e.Kind != impl.NeckSends })
		for _, seen := range d.now.Seen {
			if len(seen) > 0 {
				t.Fatal("it has seen something", d.now)
			}
		}
		for _, s := range d.now.Servers {
			if len(s.Vers)+len(s.Waits)+len(s.Owes)+len(s.Knows) > 0 {
				t.Fatal("something was written", d.now)
			}
		}
		if len(o.sides[0])+len(o.sides[1]) > 0 {
			t.Fatal("something can be seen", o.sides)
		}
		moved, begun = moved+d.could[impl.NeckMoves], begun+len(d.now.Calls)
	}
	if moved < 60 || begun < 60 {
		t.Error("too little happened", moved, begun)
	}
}

// bothSides is all that can be seen on either side.
func bothSides(w impl.Neck) []impl.Dep {
	var names []impl.Dep
	for side := range 2 {
		for _, v := range impl.NeckSide(w, side) {
			names = depInPlace(names, nameOf(v))
		}
	}
	return slices.Compact(names)
}

// Promise 84, later on: when no word is under way to or from a client, and none is sent, nothing new is written, and nothing seen,
// though what was written comes to the other side.
func TestNothingMoreIsWrittenUnsent(t *testing.T) {
	t.Parallel()
	came := 0
	for number := range 30 {
		d, o := watched(t, 3500+number)
		d.goesFar(250+20*number, anyEvent)
		for place := len(d.now.Radio) - 1; place >= 0; place-- {
			if w := d.now.Radio[place]; max(w.From, w.To) >= impl.WordClient {
				d.goesOn(impl.NeckEvent{Kind: impl.NeckLoses, Word: place})
			}
		}
		names, seen, before := bothSides(d.now), d.now.Seen, len(o.sides[0])+len(o.sides[1])
		d.goesFar(300, func(e impl.NeckEvent) bool { return e.Kind != impl.NeckSends })
		if !slices.Equal(bothSides(d.now), names) || !slices.EqualFunc(d.now.Seen, seen, slices.Equal[[]impl.Dep]) {
			t.Fatal(number, d.now)
		}
		came += len(o.sides[0]) + len(o.sides[1]) - before
	}
	if came < 20 {
		t.Error("too little happened", came)
	}
}

// Promise 85: a side that hears nothing of the other one, all its words being lost or late, has versions of its own sites alone, whatever it says itself.
func TestSidesThatHearNothing(t *testing.T) {
	t.Parallel()
	own, far := 0, 0
	for number := range 30 {
		d, o := watched(t, 3600+number)
		side := number % 2
		d.goesFar(700, func(e impl.NeckEvent) bool {
			if e.Kind != impl.NeckBrings || e.Word < 0 || e.Word >= len(d.now.Radio) {
				return true
			}
			w := d.now.Radio[e.Word]
			return w.To >= impl.Sites || w.From >= impl.Sites || w.To/2 != side || w.From/2 == side
		})
		for _, v := range o.sides[side] {
			own++
			if v.Stamp.Site/2 != side || v.Client != side {
				t.Fatal("promise 85", side, v)
			}
		}
		if len(d.now.Servers[2*side].Waits)+len(d.now.Servers[2*side+1].Waits) > 0 {
			t.Fatal("it waits for what came from nowhere", d.now)
		}
		for _, v := range o.sides[1-side] {
			if v.Stamp.Site/2 == side {
				far++
			}
		}
	}
	if own < 60 || far < 20 {
		t.Error("too little happened", own, far)
	}
}

// A slot that leaves twice, nobody being told that it came: on each step the version in it can be seen once, and all is safe.
func TestSlotsThatLeaveTwice(t *testing.T) {
	moves := func(site int) impl.NeckEvent { return impl.NeckEvent{Kind: impl.NeckMoves, At: site} }
	brings, loses := impl.NeckEvent{Kind: impl.NeckBrings}, impl.NeckEvent{Kind: impl.NeckLoses}
	tends := impl.NeckEvent{Kind: impl.NeckTends, At: 1}
	o, w := watcher{}, impl.NeckPlay([]impl.NeckEvent{begin(0, impl.CallPut, 0, 0, 0, 5), {Kind: impl.NeckSends}, brings, loses, brings})
	for i, c := range []struct {
		event  impl.NeckEvent
		first  impl.Slot
		second impl.Slot
		vers   int
	}{
		{moves(0), impl.Slot{Epoch: 2, Stand: 2}, impl.Slot{}, 1}, {brings, impl.Slot{Epoch: 2, Stand: 2}, impl.Slot{Epoch: 2, Stand: 1}, 2},
		{loses, impl.Slot{Epoch: 2, Stand: 2}, impl.Slot{Epoch: 2, Stand: 1}, 2}, {moves(1), impl.Slot{Epoch: 2, Stand: 2}, impl.Slot{Epoch: 3, Stand: 2}, 2},
		{loses, impl.Slot{Epoch: 2, Stand: 2}, impl.Slot{Epoch: 3, Stand: 2}, 2}, {tends, impl.Slot{Epoch: 2, Stand: 2}, impl.Slot{Epoch: 3, Stand: 2}, 2},
		{brings, impl.Slot{Epoch: 3, Stand: 1}, impl.Slot{Epoch: 3, Stand: 2}, 2}, {brings, impl.Slot{Epoch: 3, Stand: 1}, impl.Slot{Epoch: 3}, 1},
	} {
		x, done := o.does(t, w, c.event)
		first, second := x.Servers[0], x.Servers[1]
		if !done || first.Slots[0] != c.first || second.Slots[0] != c.second || len(first.Vers)+len(second.Vers) != c.vers || len(impl.NeckSide(x, 0)) != 1 {
			t.Fatalf("%d %+v", i, x)
		}
		w = x
	}
	if o.saw.twice != 3 {
		t.Error(o.saw)
	}
}
