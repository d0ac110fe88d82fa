package tests

import (
	"slices"
	"strconv"
	"testing"

	"loop.example/tombolo/impl"
)

// drawn is a world that drawn events have led to, from the start on; they are the same in each run.
type drawn struct {
	*walk
	now    impl.Neck
	list   []impl.NeckEvent
	could  [impl.NeckMoves + 1]int
	needed int
	full   int
	does   func(t *testing.T, w impl.Neck, e impl.NeckEvent) (impl.Neck, bool)
}

func newDrawn(t *testing.T, number int) *drawn {
	return &drawn{walk: newWalk(t, number), now: impl.NeckStart(), does: checkDone}
}

// kind is which kind of event is drawn for a client, so many of a hundred being brought: a call begins mostly when none waits.
func (d *drawn) kind(client int, brought int) int {
	if d.below(100) < brought {
		return impl.NeckBrings
	}
	switch n := d.below(100); {
	case n < 8:
		return impl.NeckLoses
	case n < 42 && waitsBy(d.now, client) < 0:
		return impl.NeckBegins
	case n < 41:
		return impl.NeckSends
	case n < 42:
		return impl.NeckGives
	case n < 46:
		return impl.NeckFalls
	case n < 60:
		return impl.NeckRises
	case n < 90:
		return impl.NeckTends
	case n < 96:
		return impl.NeckMoves
	}
	return d.below(12) - 1
}

// draw is an event that mostly can be. The first client writes much, and the second one reads much.
func (d *drawn) draw(brought int) impl.NeckEvent {
	client := d.below(impl.VerClients)
	e := impl.NeckEvent{
		Kind: d.kind(client, brought), At: d.below(impl.Sites), Client: client, Word: d.below(len(d.now.Radio) + 1), Slot: d.below(impl.VerSlots),
		Call: impl.CallRead, A: d.below(3), B: d.below(5), C: d.below(impl.VerKeys), Val: d.below(100),
	}
	if d.below(9) == 0 {
		e.Keep = 1
	}
	if d.below(5) >= 1+3*client {
		e.Call, e.A = impl.CallPut, d.below(4)
	}
	if d.below(40) == 0 {
		e.At, e.Client, e.Slot, e.Call, e.A = d.below(7)-1, d.below(4)-1, d.below(5)-1, d.below(4), d.below(8)-1
	}
	return e
}

// goesOn lets something happen, and asks what holds of each world from the start on.
func (d *drawn) goesOn(e impl.NeckEvent) {
	d.t.Helper()
	x, done := d.does(d.t, d.now, e)
	if done {
		d.could[e.Kind]++
	}
	for client, deps := range d.now.Seen {
		checkSeenMore(d.t, deps, x.Seen[client])
	}
	for place, c := range d.now.Calls {
		if now := x.Calls[place]; c.End == 0 && now.End > 0 {
			d.needed += len(c.Needs)
			checkFitsWhole(d.t, now)
			checkBehindOthers(d.t, x.Calls[:place], now)
		}
	}
	d.now, d.list = x, append(d.list, e)
	if len(x.Radio) == impl.NeckMaxRadio {
		d.full++
	}
}

// checkSeenMore, promise 74: what a client has seen never gets less.
func checkSeenMore(t *testing.T, old []impl.Dep, now []impl.Dep) {
	t.Helper()
	for _, d := range old {
		if s := stampOf(now, d.Key); newer(s, d.Stamp) != s {
			t.Fatal("it has seen less", old, now)
		}
	}
}

// checkFitsWhole, promise 76: none of a read's answers is older than what the others came of, or than what its client had seen.
func checkFitsWhole(t *testing.T, c impl.Call) {
	t.Helper()
	for _, a := range c.Got {
		if s := newer(newestBy(c, a.Key), stampOf(c.Ctx, a.Key)); s != (impl.Stamp{}) && olderThan(a, s) {
			t.Fatal("it could not have been seen at once", c, a)
		}
	}
}

// checkBehindOthers, promises 77 and 78: a read has nothing older than an earlier one of its client, or than what that wrote;
// what is written is newer than what its client wrote, or read, earlier.
func checkBehindOthers(t *testing.T, ahead []impl.Call, c impl.Call) {
	t.Helper()
	for _, old := range ahead {
		if old.Client != c.Client || old.End == 0 {
			continue
		}
		names := []impl.Dep{}
		for _, a := range old.Got {
			if a.Yes {
				names = append(names, nameOf(a.Ver))
			}
		}
		if old.Kind == impl.CallPut {
			names = append(names, impl.Dep{Key: old.Keys[0], Stamp: old.Stamp})
		}
		for _, d := range names {
			if a, there := answerTo(c, d.Key); there && olderThan(a, d.Stamp) {
				t.Fatal("it reads something older", old, c)
			}
			if c.Kind == impl.CallPut && c.Stamp.Time <= d.Stamp.Time {
				t.Fatal("it writes something no newer", old, c)
			}
		}
	}
}

// pairsOf is how many pairs of calls of a kind and a client have ended; of reads, those that have a key in common.
func pairsOf(w impl.Neck, kind int) int {
	pairs := 0
	for place, c := range w.Calls {
		for _, old := range w.Calls[:place] {
			alike := kind == impl.CallPut || slices.ContainsFunc(c.Keys, func(key int) bool { return slices.Contains(old.Keys, key) })
			if c.Kind == kind && old.Kind == kind && c.Client == old.Client && c.End > 0 && old.End > 0 && alike {
				pairs++
			}
		}
	}
	return pairs
}

// walked is a walk of so many events. More is brought for a while, so that calls end, and then less, so that more is sent than finds room.
func walked(t *testing.T, number int, events int) *drawn {
	t.Helper()
	d := newDrawn(t, number)
	d.goesFar(events, func(impl.NeckEvent) bool { return true })
	return d
}

// goesFar lets so many drawn events happen, but for those that may not.
func (d *drawn) goesFar(events int, may func(e impl.NeckEvent) bool) {
	d.t.Helper()
	brought := 0
	for i := range events {
		if i%40 == 0 {
			brought = []int{75, 65, 55, 45, 15}[d.below(5)]
		}
		if e := d.draw(brought); may(e) {
			d.goesOn(e)
		}
	}
}

// bringAll brings all words that are wanted, in any order, some of them twice.
func (d *drawn) bringAll(wanted func(w impl.Word) bool) {
	d.t.Helper()
	for range 300 {
		var places []int
		for place, w := range d.now.Radio {
			if wanted(w) {
				places = append(places, place)
			}
		}
		if len(places) == 0 {
			return
		}
		e := impl.NeckEvent{Kind: impl.NeckBrings, Word: places[d.below(len(places))]}
		if d.below(6) == 0 {
			e.Keep = 1
		}
		d.goesOn(e)
	}
}

// asksFor says whether a word asks for what a client reads of a key, or tells it.
func asksFor(client int, key int) func(w impl.Word) bool {
	return func(w impl.Word) bool {
		return (w.Kind == impl.WordGet || w.Kind == impl.WordGetOk) && w.Key == key && (w.From == impl.WordClient+client || w.To == impl.WordClient+client)
	}
}

// goesRound lets all servers rise, and say what they have to say, and all be brought that is not of that client.
func (d *drawn) goesRound(client int) {
	d.t.Helper()
	for site := range impl.Sites {
		d.goesOn(impl.NeckEvent{Kind: impl.NeckRises, At: site})
		d.goesOn(impl.NeckEvent{Kind: impl.NeckTends, At: site})
		d.bringAll(func(w impl.Word) bool { return w.From != impl.WordClient+client && w.To != impl.WordClient+client })
	}
}

// readsSlowly lets a client read, the other one writing that key, and then others, when one key has its answer and the others have not.
func (d *drawn) readsSlowly(client int) {
	d.t.Helper()
	first := d.below(4)
	d.goesOn(begin(client, impl.CallRead, min(first, 2), 3, 4, 0))
	for round := range 3 {
		d.goesOn(impl.NeckEvent{Kind: impl.NeckSends, Client: client})
		d.bringAll(asksFor(client, first))
		key := first
		if round > 0 {
			key = d.below(5)
		}
		d.goesOn(begin(1-client, impl.CallPut, key, 0, 0, d.below(100)))
		d.goesOn(impl.NeckEvent{Kind: impl.NeckSends, Client: 1 - client})
		d.goesRound(client)
		for range 3 {
			d.goesOn(d.draw(50))
		}
		d.goesRound(client)
	}
	for range 4 {
		d.goesOn(impl.NeckEvent{Kind: impl.NeckSends, Client: client})
		d.bringAll(func(w impl.Word) bool { return true })
		d.goesRound(-1)
	}
}

// tally is what came of some walks: how much of each kind could be, how many words were needed at the end of reads, how often Radio was full,
// and how many pairs of reads, and of puts, there are.
type tally struct {
	could  [impl.NeckMoves + 1]int
	needed int
	full   int
	reads  int
	puts   int
}

func (sum *tally) add(d *drawn) {
	for kind, n := range d.could {
		sum.could[kind] += n
	}
	sum.needed, sum.full = sum.needed+d.needed, sum.full+d.full
	sum.reads, sum.puts = sum.reads+pairsOf(d.now, impl.CallRead), sum.puts+pairsOf(d.now, impl.CallPut)
}

// inParts walks in so many parts at once.
func inParts(t *testing.T, parts int, walks func(t *testing.T, part int)) {
	for part := range parts {
		t.Run(strconv.Itoa(part), func(t *testing.T) {
			t.Parallel()
			walks(t, part)
		})
	}
}

// Promises 68, and 70 to 80, of worlds that drawn events have led to: words are lost, doubled, late and out of turn, and find no room,
// servers fall and rise, slots move at any time, calls are sent again and given up.
func TestWhateverHappens(t *testing.T) {
	inParts(t, 8, func(t *testing.T, part int) {
		sum := tally{}
		for number := range 20 {
			sum.add(walked(t, 20*part+number, 900))
		}
		if slices.Min(sum.could[impl.NeckBegins:]) < 40 || sum.full < 500 || sum.reads < 15 || sum.puts < 100 {
			t.Error("too little happened", sum)
		}
	})
}

// Promises 76 to 78, of reads that take long, so that some of what they read is newer than the rest, and that is asked for once more.
func TestReadsThatTakeLong(t *testing.T) {
	inParts(t, 4, func(t *testing.T, part int) {
		sum := tally{}
		for number := range 15 {
			d := newDrawn(t, 15*part+number)
			for i := range 6 {
				d.readsSlowly((i + number) % impl.VerClients)
			}
			sum.add(d)
		}
		if sum.needed < 10 || sum.reads < 40 || sum.puts < 500 {
			t.Error("too little happened", sum)
		}
	})
}

// drawnNecks has worlds that drawn events have led to, early and late ones, at rest and crowded.
func drawnNecks(t *testing.T, n int) []impl.Neck {
	var list []impl.Neck
	for number := range n {
		d := unwatched(t, 1000+number)
		d.goesFar(60+70*(number%10), anyEvent)
		list = append(list, d.now)
	}
	return list
}

// Promise 71: each word of such a world is lost, and nothing but that has changed.
func TestEachWordIsLost(t *testing.T) {
	lost := 0
	for _, w := range drawnNecks(t, 40) {
		for place := range w.Radio {
			lost++
			checkCan(t, w, impl.NeckEvent{Kind: impl.NeckLoses, Word: place}, func(x *impl.Neck) { x.Radio = slices.Delete(x.Radio, place, place+1) })
		}
	}
	if lost < 500 {
		t.Error("too few", lost)
	}
}

// Promise 72: while a server is down all words for it are brought, slots of it would move, it would tend; it stays, and when it rises it has what it had.
func TestServersThatStayDown(t *testing.T) {
	heard := 0
	for number, given := range drawnNecks(t, 40) {
		site := number % impl.Sites
		w := given
		if w.Servers[site].Up {
			w = checkDoes(t, w, impl.NeckEvent{Kind: impl.NeckFalls, At: site})
		}
		down := w.Servers[site]
		for place := len(w.Radio) - 1; place >= 0; place-- {
			if w.Radio[place].To == site {
				heard++
				w = checkCan(t, w, impl.NeckEvent{Kind: impl.NeckBrings, Word: place}, func(x *impl.Neck) { x.Radio = slices.Delete(x.Radio, place, place+1) })
			}
		}
		checkCannot(t, w, impl.NeckEvent{Kind: impl.NeckFalls, At: site}, impl.NeckEvent{Kind: impl.NeckTends, At: site})
		for slot := range impl.VerSlots {
			checkCannot(t, w, impl.NeckEvent{Kind: impl.NeckMoves, At: site, Slot: slot})
		}
		down.Up = true
		checkCan(t, w, impl.NeckEvent{Kind: impl.NeckRises, At: site}, func(x *impl.Neck) { x.Servers[site] = down })
	}
	if heard < 60 {
		t.Error("too few", heard)
	}
}

// Promise 79: each server of such a world tends, if it is up, and no server changes, however much room there is for its words.
func TestEachServerTends(t *testing.T) {
	said := 0
	for _, given := range drawnNecks(t, 40) {
		for site, s := range given.Servers {
			for _, under := range []int{0, 20, 57, 60} {
				w, e := withRadio(given, filler(under)...), impl.NeckEvent{Kind: impl.NeckTends, At: site}
				if !s.Up {
					checkCannot(t, w, e)
					continue
				}
				words := roomFor(under, tendedBy(s))
				said += len(words)
				checkCan(t, w, e, func(x *impl.Neck) { x.Radio = append(x.Radio, words...) })
			}
		}
	}
	if said < 300 {
		t.Error("too few", said)
	}
}

// Promise 80: a whole read, from its beginning to its end, or as far as it comes, changes no server.
func TestReadsChangeNoServer(t *testing.T) {
	ended := 0
	for number, given := range drawnNecks(t, 60) {
		client := number % impl.VerClients
		w := withRadio(given)
		if waitsBy(w, client) >= 0 {
			w = checkDoes(t, w, impl.NeckEvent{Kind: impl.NeckGives, Client: client})
		}
		if len(w.Calls) == impl.NeckMaxCalls {
			continue
		}
		w = checkDoes(t, w, begin(client, impl.CallRead, number%4, 4, 5, 0))
		for waitsBy(w, client) >= 0 {
			w = checkDoes(t, w, impl.NeckEvent{Kind: impl.NeckSends, Client: client})
			for len(w.Radio) > 0 {
				w = checkDoes(t, w, impl.NeckEvent{Kind: impl.NeckBrings})
			}
			if w.Time > given.Time+100 {
				break
			}
		}
		if c := w.Calls[len(w.Calls)-1]; c.End > 0 {
			ended++
			checkFitsWhole(t, c)
		}
		if !slices.EqualFunc(w.Servers, given.Servers, sameServer) {
			t.Error("a server changed", given, w)
		}
	}
	if ended < 10 {
		t.Error("too few", ended)
	}
}
