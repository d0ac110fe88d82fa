package tests

import (
	"slices"
	"testing"

	"loop.example/tombolo/impl"
)

// calmRounds is in how many calm rounds the document promises that all comes to it.
const calmRounds = 25

// anywhere is all versions of a world: such as can be seen at a server, wait there, or are under way.
func anywhere(w impl.Neck) []impl.Ver {
	var all []impl.Ver
	for _, s := range w.Servers {
		all = slices.Concat(all, s.Vers, s.Waits)
	}
	for _, word := range w.Radio {
		all = slices.Concat(all, word.Vers, word.Waits)
	}
	return all
}

// checkDoneOnce, promise 92: no two versions are of one call, wherever they are, and each is what that call put.
func checkDoneOnce(t *testing.T, w impl.Neck) {
	t.Helper()
	made := map[[2]int]impl.Ver{}
	for _, v := range anywhere(w) {
		call := [2]int{v.Client, v.Call}
		if other, there := made[call]; there && !sameVer(other, v) || !wasCalledFor(w, v) {
			t.Fatalf("promise 92: %+v %+v\n%+v", v, other, w)
		}
		made[call] = v
	}
}

// checkNotLost, promise 93: what was answered can be seen on its side, with what was put; in a calm on the other one, too, just so.
func checkNotLost(t *testing.T, w impl.Neck, calm bool) {
	t.Helper()
	sides := [2][]impl.Ver{sideBy(w.Servers, 0), sideBy(w.Servers, 1)}
	for _, c := range w.Calls {
		if c.Kind != impl.CallPut || c.End == 0 {
			continue
		}
		at := findVers(sides[c.Client], c.Keys[0], c.Stamp)
		if len(at) != 1 || !writes(c, at[0]) || calm && !justSo(sides[1-c.Client], at[0]) {
			t.Fatalf("promise 93: %+v\n%+v", c, w)
		}
	}
}

// checkOwners, promise 102: each slot of a side has one owner, or is on its way; in a calm it has one.
func checkOwners(t *testing.T, w impl.Neck, calm bool) {
	t.Helper()
	for side := range 2 {
		for slot := range impl.VerSlots {
			many := [3]int{}
			for _, s := range w.Servers[2*side : 2*side+2] {
				many[s.Slots[slot].Stand]++
			}
			if many[1] > 1 || many[1]+many[2] == 0 || calm && (many[1] != 1 || many[2] > 0) {
				t.Fatalf("promise 102: %d %d %+v", side, slot, w)
			}
		}
	}
}

// checkGivenUp, promise 105: what a put that was given up made is on both sides, once each, or on neither; it tells how many there are.
func checkGivenUp(t *testing.T, w impl.Neck) (int, int) {
	t.Helper()
	there, not := 0, 0
	for _, c := range w.Calls {
		if c.Kind != impl.CallPut || !c.Over {
			continue
		}
		own := slices.DeleteFunc(sideBy(w.Servers, 0), func(v impl.Ver) bool { return v.Client != c.Client || v.Call != c.Num })
		far := slices.DeleteFunc(sideBy(w.Servers, 1), func(v impl.Ver) bool { return v.Client != c.Client || v.Call != c.Num })
		if len(own) > 1 || !sameVers(own, far) || len(own) == 1 && !writes(c, own[0]) || c.End != 0 {
			t.Fatalf("promise 105: %+v\n%+v", c, w)
		}
		there, not = there+len(own), not+1-len(own)
	}
	return there, not
}

// topsBy is the stamp of the newest version of each key among these.
func topsBy(list []impl.Ver) [impl.VerKeys]impl.Stamp {
	var tops [impl.VerKeys]impl.Stamp
	for _, v := range list {
		tops[v.Key] = newer(tops[v.Key], v.Stamp)
	}
	return tops
}

// checkNewestAnywhere, promise 95: of each key the newest version is the newest anywhere, on both sides, and nothing was newer ahead of the calm.
func checkNewestAnywhere(t *testing.T, before impl.Neck, w impl.Neck) {
	t.Helper()
	tops := topsBy(slices.Concat(anywhere(before), anywhere(w)))
	for side := range 2 {
		if topsBy(impl.NeckSide(w, side)) != tops {
			t.Fatalf("promise 95: %d %v\n%+v\n%+v", side, tops, before, w)
		}
	}
}

// checkAllIsSame, promise 94: both sides are the same, nothing is to be done any more, and no call waits.
func checkAllIsSame(t *testing.T, w impl.Neck) {
	t.Helper()
	if !impl.NeckSame(w) || !atRestBy(w) || !sameVers(sideBy(w.Servers, 0), sideBy(w.Servers, 1)) || waitsBy(w, 0) >= 0 || waitsBy(w, 1) >= 0 {
		t.Fatalf("promise 94: %+v", w)
	}
	if got := checkLooks(t, w); !got.safe || !got.calls {
		t.Fatalf("it is not safe %+v", w)
	}
}

// checkStaysSame, promise 97: of a world that is the same, in which no call waits, calm rounds change nothing but the time.
func checkStaysSame(t *testing.T, w impl.Neck, rounds ...int) {
	t.Helper()
	for _, n := range rounds {
		if x := impl.NeckCalm(w, n); !sameNeck(x, later(4*n).of(w)) {
			t.Fatalf("promise 97: %d\n%+v\n%+v", n, w, x)
		}
	}
}

// checkComesToIt asks all promises of the calm that comes of a world.
func checkComesToIt(t *testing.T, w impl.Neck) impl.Neck {
	t.Helper()
	x := impl.NeckCalm(w, calmRounds)
	checkAllIsSame(t, x)
	checkDoneOnce(t, x)
	checkNotLost(t, x, true)
	checkOwners(t, x, true)
	checkGivenUp(t, x)
	checkNewestAnywhere(t, w, x)
	checkStaysSame(t, x, 1, 7, impl.NeckMaxCalm)
	for side := range 2 {
		checkForGood(t, sideBy(w.Servers, side), impl.NeckSide(x, side))
	}
	return x
}

// found is how many calms began with what: servers that were down, slots that were on their way, versions that waited, debts, calls that waited, and
// calls that were given up; a full Radio, and words at all; and how often the calm changed a version of both sides.
type found struct {
	calms   int
	down    int
	leaving int
	waits   int
	owes    int
	calls   int
	given   int
	full    int
	words   int
	new     int
}

// adds counts what there is when a calm begins.
func (f *found) adds(w impl.Neck, x impl.Neck) {
	count := func(n *int, holds bool) {
		if holds {
			*n++
		}
	}
	any := func(holds func(s impl.Server) bool) bool { return slices.ContainsFunc(w.Servers, holds) }
	f.calms++
	count(&f.down, any(func(s impl.Server) bool { return !s.Up }))
	count(&f.leaving, any(func(s impl.Server) bool {
		return slices.ContainsFunc(s.Slots, func(slot impl.Slot) bool { return slot.Stand == impl.StandLeaving })
	}))
	count(&f.waits, any(func(s impl.Server) bool { return len(s.Waits) > 0 }))
	count(&f.owes, any(func(s impl.Server) bool { return len(s.Owes) > 0 }))
	count(&f.calls, waitsBy(w, 0) >= 0 || waitsBy(w, 1) >= 0)
	count(&f.given, slices.ContainsFunc(w.Calls, func(c impl.Call) bool { return c.Over && c.Kind == impl.CallPut }))
	count(&f.full, len(w.Radio) == impl.NeckMaxRadio)
	count(&f.words, len(w.Radio) > 0)
	count(&f.new, !slices.Equal(bothSides(w), bothSides(x)))
}

// enough says whether there was as much as this of each, but for a Radio that was full.
func (f found) enough(n int) bool {
	return min(f.down, f.leaving, f.waits, f.owes, f.calls, f.given, f.words, f.new) >= n && f.full > 0
}

// withFew lets no more than so many calls begin, so that there are some left for a calm.
func (d *drawn) withFew(calls int) func(e impl.NeckEvent) bool {
	return func(e impl.NeckEvent) bool { return e.Kind != impl.NeckBegins || len(d.now.Calls) < calls }
}

// calming is a walk each of whose worlds is asked what holds of each, be it in a calm or not.
func calming(t *testing.T, number int) *drawn {
	d := newDrawn(t, number)
	d.does = func(t *testing.T, w impl.Neck, e impl.NeckEvent) (impl.Neck, bool) {
		t.Helper()
		x, done := impl.NeckDo(w, e)
		if done {
			checkDoneOnce(t, x)
			checkNotLost(t, x, false)
			checkOwners(t, x, false)
		}
		return x, done
	}
	return d
}

// Promises 92 to 95, 97, 102 and 105, of calms that come of whatever happens from the start on, and of calms that come of what happens behind others:
// words are lost, doubled, late and out of turn, servers fall and rise, slots move at any time, calls are sent again and given up.
func TestWhateverComesOfIt(t *testing.T) {
	inParts(t, 8, func(t *testing.T, part int) {
		sum := found{}
		for number := range 20 {
			d := calming(t, 5000+20*part+number)
			for stretch := range 4 {
				d.goesFar(60+40*(number%5), d.withFew(5*stretch+5))
				x := checkComesToIt(t, d.now)
				sum.adds(d.now, x)
				if number%4 > 0 {
					d.now = x
				}
			}
		}
		if !sum.enough(5) {
			t.Error("too little happened", sum)
		}
	})
}

// Promise 94, of scripts of NeckMaxPlay events, and of fewer.
func TestScriptsComeToIt(t *testing.T) {
	t.Parallel()
	sum := found{}
	for number := range 32 {
		d := unwatched(t, 5300+number)
		d.goesFar([]int{100, 400, 1000, impl.NeckMaxPlay}[number%4], anyEvent)
		w := impl.NeckPlay(d.list)
		sum.adds(w, checkComesToIt(t, w))
	}
	if sum.new < 10 || sum.down < 10 {
		t.Error("too little happened", sum)
	}
}

// Promise 94, of worlds that a drawn walk ends in full of what takes long: calls that go on slowly, other things being written all the while.
func TestSlowReadsComeToIt(t *testing.T) {
	t.Parallel()
	for number := range 12 {
		d := unwatched(t, 5400+number)
		for i := range 5 {
			d.readsSlowly((i + number) % impl.VerClients)
			d.goesFar(20, anyEvent)
			checkComesToIt(t, d.now)
		}
	}
}

// chainOf is a script of puts of a client, each of which came of all ahead of it, of these keys in turn; nobody tells the other side of any.
func chainOf(client int, n int, keys ...int) []impl.NeckEvent {
	list := []impl.NeckEvent{}
	for i := range n {
		list = append(list, begin(client, impl.CallPut, keys[i%len(keys)], 0, 0, i), impl.NeckEvent{Kind: impl.NeckSends, Client: client})
		list = append(list, slices.Repeat([]impl.NeckEvent{{Kind: impl.NeckBrings}}, 3)...)
	}
	return list
}

// Promise 94, where it takes longest: each version waits for one that waits at the other server for one that waits at this one, and so on.
// Round by round two more can be seen on the other side; behind half as many rounds as there are versions all can, and not ahead of that.
func TestLongChainsComeToIt(t *testing.T) {
	t.Parallel()
	for client := range impl.VerClients {
		for _, keys := range [][]int{{0, 3}, {3, 0}, {2, 4, 3, 1}, {5, 2}} {
			w := impl.NeckPlay(chainOf(client, impl.NeckMaxCalls, keys...))
			if own, far := impl.NeckSide(w, client), impl.NeckSide(w, 1-client); len(own) != impl.NeckMaxCalls || len(far) != 0 {
				t.Fatalf("%+v", w)
			}
			checkComesToIt(t, w)
			rounds, last := 0, 0
			for ; !impl.NeckSame(w); rounds++ {
				w = checkCalm(t, w, 1)
				now := len(impl.NeckSide(w, 1-client))
				if now < last+1 || now > last+2 && last > 0 || now > 3 && last == 0 {
					t.Fatalf("%v %d %d %+v", keys, rounds, last, w)
				}
				last = now
			}
			if last != impl.NeckMaxCalls || rounds < 10 || rounds > 11 {
				t.Errorf("%v %d %d", keys, rounds, last)
			}
		}
	}
}

// answerIs: the last call is a client's read that has ended, and its answer of a key is just that, or that there is nothing.
func checkAnswerIs(t *testing.T, w impl.Neck, key int, want []impl.Ver) {
	t.Helper()
	c := w.Calls[len(w.Calls)-1]
	a, there := answerTo(c, key)
	if c.End == 0 || !there || a.Yes != (len(want) > 0) || a.Yes && !sameVer(a.Ver, want[0]) {
		t.Fatalf("%d %+v %+v\n%+v", key, want, c, w)
	}
}

// letDo lets something happen that can be.
func letDo(t *testing.T, w impl.Neck, e impl.NeckEvent) impl.Neck {
	t.Helper()
	x, done := impl.NeckDo(w, e)
	if !done {
		t.Fatalf("it could not be %+v\n%+v", e, w)
	}
	return x
}

// topOf has the newest version of a key among these; none, if there is none.
func topOf(list []impl.Ver, key int) []impl.Ver {
	return findVers(list, key, topsBy(list)[key])
}

// checkReadsNewest, promise 104: in a calm the newest of each key is read, by each client, all keys at last.
func checkReadsNewest(t *testing.T, w impl.Neck) {
	t.Helper()
	all := anywhere(w)
	for client := range impl.VerClients {
		x := w
		for _, first := range []int{0, 3} {
			x = impl.NeckCalm(letDo(t, x, begin(client, impl.CallRead, first, first+1, first+2, 0)), 1)
			for key := first; key < first+3; key++ {
				checkAnswerIs(t, x, key, topOf(all, key))
			}
		}
	}
}

// checkReadsWritten, promises 98 and 99: who writes in a calm reads it then, and in 25 more rounds it is read on the other side.
func checkReadsWritten(t *testing.T, w impl.Neck, client int, key int, val int) {
	t.Helper()
	x := impl.NeckCalm(letDo(t, w, begin(client, impl.CallPut, key, 0, 0, val)), 1)
	put := x.Calls[len(x.Calls)-1]
	want := []impl.Ver{{Key: key, Stamp: put.Stamp, Val: val, Client: client, Call: put.Num, Deps: put.Ctx}}
	if put.End == 0 || olderThan(impl.Answer{Yes: true, Ver: want[0]}, topsBy(anywhere(w))[key]) {
		t.Fatalf("promise 98: %+v %+v", put, x)
	}
	own := impl.NeckCalm(letDo(t, x, begin(client, impl.CallRead, key, 0, 0, 0)), 1)
	checkAnswerIs(t, own, key, want)
	for _, y := range []impl.Neck{x, own} {
		y = impl.NeckCalm(letDo(t, impl.NeckCalm(y, calmRounds), begin(1-client, impl.CallRead, key, 0, 0, 0)), calmRounds)
		checkAnswerIs(t, y, key, want)
		if !slices.Equal(y.Seen[1-client], joinedBy(w.Seen[1-client], sawBy(y.Calls[len(y.Calls)-1]))) {
			t.Fatalf("it has not seen it %+v", y)
		}
	}
}

// checkMoved, promise 100: a slot that moves in a calm has moved behind two more calm rounds, with all that is in it, though its parcel be lost, or
// come twice, or whom it is to be down. It tells how many versions moved.
func checkMoved(t *testing.T, w impl.Neck, site int, slot int, then ...impl.NeckEvent) int {
	t.Helper()
	x := letDo(t, w, impl.NeckEvent{Kind: impl.NeckMoves, At: site, Slot: slot})
	for _, e := range then {
		x = letDo(t, x, e)
	}
	x = impl.NeckCalm(x, 2)
	old, own := w.Servers[site], w.Servers[site^1]
	left, came := x.Servers[site], x.Servers[site^1]
	number := old.Slots[slot].Epoch + 1
	moved := ofSlot(old.Vers, slot)
	rest := notOfSlot(old.Vers, slot)
	all := slices.SortedFunc(slices.Values(slices.Concat(own.Vers, moved)), verOrder)
	if (left.Slots[slot] != impl.Slot{Epoch: number}) || (came.Slots[slot] != impl.Slot{Epoch: number, Stand: impl.StandOwns}) || !sameVers(left.Vers, rest) || !sameVers(came.Vers, all) {
		t.Fatalf("promise 100: %d %d %v\n%+v\n%+v", site, slot, then, w, x)
	}
	checkAllIsSame(t, x)
	checkOwners(t, x, true)
	return len(moved)
}

// checkMoves moves each slot that is owned.
func checkMoves(t *testing.T, w impl.Neck) int {
	t.Helper()
	moved := 0
	for site, s := range w.Servers {
		for slot := range impl.VerSlots {
			if s.Slots[slot].Stand != impl.StandOwns {
				continue
			}
			for _, then := range [][]impl.NeckEvent{
				nil, {{Kind: impl.NeckLoses}}, {{Kind: impl.NeckBrings, Keep: 1}}, {{Kind: impl.NeckFalls, At: site ^ 1}}, {{Kind: impl.NeckFalls, At: site}, {Kind: impl.NeckLoses}},
				{{Kind: impl.NeckTends, At: site}, {Kind: impl.NeckBrings}, {Kind: impl.NeckLoses, Word: 1}},
			} {
				moved += checkMoved(t, w, site, slot, then...)
			}
		}
	}
	return moved
}

// checkFallen, promise 101: who falls in a calm, alone or with others, and rises, or is let rise by a calm round, loses nothing.
func checkFallen(t *testing.T, w impl.Neck) {
	t.Helper()
	for down := 1; down < 1<<impl.Sites; down++ {
		x := w
		for site := range impl.Sites {
			if down>>site&1 == 1 {
				x = letDo(t, x, impl.NeckEvent{Kind: impl.NeckFalls, At: site})
			}
		}
		y := impl.NeckCalm(x, 1)
		for site := range impl.Sites {
			if down>>site&1 == 1 {
				x = letDo(t, x, impl.NeckEvent{Kind: impl.NeckRises, At: site})
			}
		}
		for _, z := range []impl.Neck{x, y} {
			if !slices.EqualFunc(z.Servers, w.Servers, sameServer) || !slices.EqualFunc(z.Calls, w.Calls, sameCall) || len(z.Radio) > 0 {
				t.Fatalf("promise 101: %d %+v\n%+v", down, w, z)
			}
		}
	}
}

// Promises 98 to 101 and 104, of the calms that come of what drawn events have led to.
func TestWhatIsDoneInACalm(t *testing.T) {
	inParts(t, 4, func(t *testing.T, part int) {
		moved, seen := 0, 0
		for number := range 12 {
			d := unwatched(t, 5500+12*part+number)
			d.goesFar(150+70*(number%7), d.withFew(15))
			x := impl.NeckCalm(d.now, calmRounds)
			seen += len(impl.NeckSide(x, 0))
			checkReadsNewest(t, x)
			for key := range impl.VerKeys {
				checkReadsWritten(t, x, d.below(2), key, d.below(100))
			}
			moved += checkMoves(t, x)
			checkFallen(t, x)
		}
		if moved < 400 || seen < 40 {
			t.Error("too little happened", moved, seen)
		}
	})
}

// The same of the calm at first, and of one that both clients write in, of the same key, and each reads the newer one of both.
func TestWhatIsDoneInTheFirstCalm(t *testing.T) {
	w := impl.NeckStart()
	checkComesToIt(t, w)
	checkReadsNewest(t, w)
	checkFallen(t, w)
	for key := range impl.VerKeys {
		for client := range impl.VerClients {
			checkReadsWritten(t, w, client, key, 9999)
		}
		x := letDo(t, letDo(t, w, begin(0, impl.CallPut, key, 0, 0, 7)), begin(1, impl.CallPut, key, 0, 0, 8))
		x = checkComesToIt(t, x)
		if list := impl.NeckSide(x, 0); len(list) != 2 || list[1].Client != 1 || list[1].Stamp.Time != 1 {
			t.Errorf("%d %+v", key, list)
		}
		checkReadsNewest(t, x)
		if n := checkMoves(t, x); n != 2*2*6 {
			t.Error(key, n)
		}
	}
}

// ofCall is how many versions there are of a call on a side.
func ofCall(w impl.Neck, side int, c impl.Call) int {
	return len(slices.DeleteFunc(impl.NeckSide(w, side), func(v impl.Ver) bool { return v.Client != c.Client || v.Call != c.Num }))
}

// Promise 103: a call that is sent again and again is done once, wherever it comes and however often, slots moving all the while.
func TestCallsThatAreSentAgainAndAgain(t *testing.T) {
	inParts(t, 4, func(t *testing.T, part int) {
		sent, ended := 0, 0
		for number := range 25 {
			d := calming(t, 5600+25*part+number)
			d.goesFar(100, d.withFew(8))
			d.now = impl.NeckCalm(d.now, calmRounds)
			client, n := number%2, len(d.now.Calls)
			d.goesOn(begin(client, impl.CallPut, d.below(impl.VerKeys), 0, 0, d.below(100)))
			sent -= d.could[impl.NeckSends]
			for i := range 12 {
				d.goesOn(impl.NeckEvent{Kind: impl.NeckSends, Client: client})
				d.goesFar(10, func(e impl.NeckEvent) bool {
					answer := e.Kind == impl.NeckBrings && e.Word < len(d.now.Radio) && e.Word >= 0 && d.now.Radio[e.Word].Kind == impl.WordPutOk
					return e.Kind != impl.NeckBegins && e.Kind != impl.NeckGives && (i > 7 || !answer)
				})
				for place, word := range d.now.Radio {
					if word.Kind == impl.WordPut && d.below(3) == 0 {
						d.goesOn(impl.NeckEvent{Kind: impl.NeckBrings, Word: place, Keep: 1})
						break
					}
				}
			}
			sent += d.could[impl.NeckSends]
			if d.now.Calls[n].End > 0 {
				ended++
			}
			x := checkComesToIt(t, d.now)
			if c := x.Calls[n]; c.End == 0 || ofCall(x, 0, c) != 1 || ofCall(x, 1, c) != 1 {
				t.Fatalf("promise 103: %+v", x)
			}
		}
		if sent < 200 || ended < 10 {
			t.Error("too little happened", sent, ended)
		}
	})
}

// Promise 105: a call that its client gave up is done once, or not at all, however far it had come, and though its words come later still.
func TestCallsThatAreGivenUp(t *testing.T) {
	inParts(t, 4, func(t *testing.T, part int) {
		there, not := 0, 0
		for number := range 30 {
			d := calming(t, 5800+30*part+number)
			for stretch := range 4 {
				client := d.below(2)
				d.goesFar(40, d.withFew(4*stretch+3))
				d.goesOn(impl.NeckEvent{Kind: impl.NeckGives, Client: client})
				d.goesOn(begin(client, impl.CallPut, d.below(impl.VerKeys), 0, 0, d.below(100)))
				for range d.below(4) {
					d.goesOn(impl.NeckEvent{Kind: impl.NeckSends, Client: client})
					d.goesFar(d.below(12), func(e impl.NeckEvent) bool { return e.Kind != impl.NeckBegins })
				}
				d.goesOn(impl.NeckEvent{Kind: impl.NeckGives, Client: client})
				d.goesFar(d.below(20), func(e impl.NeckEvent) bool { return e.Kind != impl.NeckBegins })
				x := checkComesToIt(t, d.now)
				done, undone := checkGivenUp(t, x)
				there, not = there+done, not+undone
			}
		}
		if there < 30 || not < 30 {
			t.Error("too little happened", there, not)
		}
	})
}

// The same, step by step: given up before it is sent, when it is under way, when it has come to the server, and when its answer is under way.
func TestCallsThatAreGivenUpOnTheWay(t *testing.T) {
	gives, brings, loses := impl.NeckEvent{Kind: impl.NeckGives}, impl.NeckEvent{Kind: impl.NeckBrings}, impl.NeckEvent{Kind: impl.NeckLoses}
	put, sends := begin(0, impl.CallPut, 0, 0, 0, 5), impl.NeckEvent{Kind: impl.NeckSends}
	for i, c := range []struct {
		list []impl.NeckEvent
		many int
		over bool
	}{
		{[]impl.NeckEvent{put, gives}, 0, true}, {[]impl.NeckEvent{put, sends, gives}, 1, true}, {[]impl.NeckEvent{put, sends, gives, loses}, 0, true},
		{[]impl.NeckEvent{put, sends, brings, gives}, 1, true}, {[]impl.NeckEvent{put, sends, loses, brings, gives}, 0, true},
		{[]impl.NeckEvent{put, sends, sends, brings, gives}, 1, true}, {[]impl.NeckEvent{put, sends, brings, brings, brings, gives}, 1, false},
		{[]impl.NeckEvent{put, sends, loses, {Kind: impl.NeckMoves}, gives}, 0, true},
		{[]impl.NeckEvent{put, sends, {Kind: impl.NeckMoves}, {Kind: impl.NeckBrings, Word: 2}, gives}, 1, true},
	} {
		x := checkComesToIt(t, impl.NeckPlay(c.list))
		if one := x.Calls[0]; ofCall(x, 0, one) != c.many || ofCall(x, 1, one) != c.many || one.Over != c.over || (one.End > 0) == c.over {
			t.Errorf("%d %+v", i, x)
		}
	}
}
