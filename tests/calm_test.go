package tests

import (
	"math"
	"slices"
	"testing"

	"loop.example/tombolo/impl"
)

// lettings is a world to which one thing after the other happens, as far as it can be.
type lettings struct {
	world impl.Neck
	lets  func(w impl.Neck, e impl.NeckEvent) (impl.Neck, bool)
}

func (l *lettings) let(e impl.NeckEvent) {
	l.world, _ = l.lets(l.world, e)
}

// bringsAll brings the first word, again and again.
func (l *lettings) bringsAll() {
	for i := 0; i < 1000 && len(l.world.Radio) > 0; i++ {
		l.let(impl.NeckEvent{Kind: 4})
	}
}

// round is a calm round, the document's words one by one.
func (l *lettings) round() {
	for site := range 4 {
		l.let(impl.NeckEvent{Kind: 7, At: site})
	}
	l.bringsAll()
	for site := range 4 {
		l.let(impl.NeckEvent{Kind: 8, At: site})
		l.bringsAll()
	}
	for client := range 2 {
		l.let(impl.NeckEvent{Kind: 2, Client: client})
		l.bringsAll()
	}
}

// calmsBy is what the document says of calm rounds, of none, one, and so on, up to that many, without the program's chapter 44,
// whatever lets things happen.
func calmsBy(w impl.Neck, most int, lets func(w impl.Neck, e impl.NeckEvent) (impl.Neck, bool)) []impl.Neck {
	if !neckOkBy(w) {
		return []impl.Neck{{}}
	}
	l, list := lettings{w, lets}, []impl.Neck{w}
	for range min(most, 40) {
		if l.world.Time < 99999-20000 {
			l.round()
		}
		list = append(list, l.world)
	}
	return list
}

// calmBy is that of so many rounds.
func calmBy(w impl.Neck, rounds int, lets func(w impl.Neck, e impl.NeckEvent) (impl.Neck, bool)) impl.Neck {
	list := calmsBy(w, rounds, lets)
	return list[len(list)-1]
}

// checkCalm holds so many calm rounds against the same, one event at a time, the time among it.
func checkCalm(t *testing.T, w impl.Neck, rounds int) impl.Neck {
	t.Helper()
	x := impl.NeckCalm(w, rounds)
	if want := calmBy(w, rounds, impl.NeckDo); !sameNeck(x, want) {
		t.Fatalf("%d\n%+v\n%+v\n%+v", rounds, w, x, want)
	}
	if neckOkBy(w) && !impl.NeckOk(x) {
		t.Fatalf("it is spoilt %d\n%+v\n%+v", rounds, w, x)
	}
	return x
}

// checkCalmIs: behind a calm round the world is so, as the test says.
func checkCalmIs(t *testing.T, w impl.Neck, rounds int, want neckChange) impl.Neck {
	t.Helper()
	x := checkCalm(t, w, rounds)
	if !sameNeck(x, want.of(w)) {
		t.Fatalf("%d\n%+v\n%+v\n%+v", rounds, w, x, want.of(w))
	}
	return x
}

// later lets nothing have changed but the time.
func later(by int) neckChange {
	return func(w *impl.Neck) { w.Time += by }
}

// manyRounds has numbers of rounds: below 0 and far below, none, some, as many as may be, one more, and far more.
func manyRounds() []int {
	return []int{math.MinInt, math.MinInt + 1, -100, -40, -2, -1, 0, 1, 2, 3, 7, 25, 39, 40, 41, 42, 80, 1000, math.MaxInt - 1, math.MaxInt}
}

// calmNecks has worlds of all kinds that are ok: at first, busy, crowded, safe and not, at rest, tangled, and such as drawn events have led to.
func calmNecks(t *testing.T) []impl.Neck {
	crowded := withRadio(busyNeck(), filler(60)...)
	return append(drawnNecks(t, 12), impl.NeckStart(), busyNeck(), idleNeck(), safeNeck(), restNeck(), crowded, tangledNeck(busyNeck()))
}

// So many rounds, none if below 0, and NeckMaxCalm if more, of worlds of all kinds.
func TestRoundsOfCalms(t *testing.T) {
	t.Parallel()
	for _, w := range calmNecks(t) {
		want := calmsBy(w, impl.NeckMaxCalm, impl.NeckDo)
		for _, rounds := range manyRounds() {
			x := impl.NeckCalm(w, rounds)
			if !sameNeck(x, want[min(max(rounds, 0), 40)]) || rounds <= 0 && !sameNeck(x, w) || rounds > 0 && x.Time < w.Time+4*min(rounds, 40) {
				t.Fatalf("%d %+v\n%+v", rounds, w, x)
			}
		}
	}
}

// A world that has as much as there may be of all, but for the time: there is more to say than Radio has room for, round by round.
func TestRoundsOfAFullWorld(t *testing.T) {
	t.Parallel()
	w := fullNeck()
	w.Time = 100
	for rounds, want := range calmsBy(w, 4, impl.NeckDo) {
		x := impl.NeckCalm(w, rounds)
		if !sameNeck(x, want) || !sameNeck(impl.NeckCalm(x, 1), impl.NeckCalm(w, rounds+1)) {
			t.Fatalf("%d %+v", rounds, x)
		}
	}
}

// What each round does is what the document's tables say, without the program's chapter 42, too.
func TestCalmsWithoutWhatHappens(t *testing.T) {
	t.Parallel()
	for _, w := range calmNecks(t) {
		for rounds, want := range calmsBy(w, 3, doneBy) {
			if x := impl.NeckCalm(w, rounds); !sameNeck(x, want) {
				t.Fatalf("%d %+v\n%+v\n%+v", rounds, w, x, want)
			}
		}
	}
}

// Each of the rounds is told one by one, as a world goes on in a calm from wherever drawn events have led it.
func TestEachRoundOfCalms(t *testing.T) {
	t.Parallel()
	said := 0
	for _, w := range drawnNecks(t, 60) {
		for range 6 {
			x := checkCalm(t, w, 1)
			if x.Time > w.Time+4 {
				said++
			}
			w = x
		}
	}
	if said < 60 {
		t.Error("too little happened", said)
	}
}

// Rounds that change nothing but the time: each server tends, and has nothing to say; nobody rises, no word is brought, and no call is sent.
func TestRoundsThatChangeNothing(t *testing.T) {
	rest := restNeck()
	rest.Calls = rest.Calls[:2]
	list := made(drawnNecks(t, 8), func(w impl.Neck) impl.Neck { return impl.NeckCalm(w, 25) })
	for _, w := range append(list, impl.NeckStart(), rest) {
		for _, n := range []int{0, 1, 2, 25, 39, 40} {
			checkCalmIs(t, w, n, later(4*n))
		}
		checkCalmIs(t, w, 41, later(160))
		checkCalmIs(t, w, -1, nothing)
	}
}

// Rounds go on as long as the time is below NeckMaxTime - 20000: of a world at rest each takes four.
func TestTheLastRound(t *testing.T) {
	last := impl.NeckMaxTime - 20000
	for _, time := range []int{0, 1, last - 161, last - 160, last - 159, last - 9, last - 8, last - 7, last - 5, last - 4, last - 3, last - 2, last - 1, last, last + 1, last + 4, 99998, 99999} {
		w := impl.NeckStart()
		w.Time = time
		for _, rounds := range []int{-1, 0, 1, 2, 3, 39, 40, 41} {
			many := min(max(rounds, 0), 40, max(0, (last-time+3)/4))
			checkCalmIs(t, w, rounds, later(4*many))
		}
	}
}

// A round that begins just ahead of the last time goes on to its end, however much there is to do, and none comes behind it.
func TestRoundsThatComeToTheLastTime(t *testing.T) {
	t.Parallel()
	last, ended, past := impl.NeckMaxTime-20000, 0, 0
	for _, given := range append(drawnNecks(t, 20), busyNeck(), safeNeck(), restNeck()) {
		for _, early := range []int{-1, 0, 1, 2, 4, 5, 9, 30, 60, 100} {
			w := given
			w.Time = last - early
			x := checkCalm(t, w, 40)
			one := checkCalm(t, w, 1)
			switch {
			case early <= 0 && !sameNeck(x, w):
				t.Fatalf("%d %+v\n%+v", early, w, x)
			case early > 0 && early < 5 && !sameNeck(x, one):
				t.Fatalf("%d %+v\n%+v\n%+v", early, w, x, one)
			case early > 0 && x.Time < last:
				t.Fatalf("it could go on %d %+v\n%+v", early, w, x)
			}
			if early > 0 && x.Time > last+4 {
				past++
			}
			if !sameNeck(x, one) {
				ended++
			}
		}
	}
	if past < 40 || ended < 30 {
		t.Error("too little happened", past, ended)
	}
}

// Of a world that is not ok nothing is told, whichever part is wrong, and however many rounds are asked for.
func TestCalmsOfWrongWorlds(t *testing.T) {
	for _, w := range wrongWorlds() {
		for _, rounds := range manyRounds() {
			if x := impl.NeckCalm(w, rounds); !sameNeck(x, impl.Neck{}) {
				t.Error(rounds, w, x)
			}
		}
	}
	for _, w := range wrongParts() {
		for _, rounds := range []int{-1, 0, 2} {
			checkCalm(t, w, rounds)
		}
	}
}

// Who is down rises, who is up need not: each that rises takes one time more, in the first round alone.
func TestCalmsLetAllRise(t *testing.T) {
	for down := range 1 << impl.Sites {
		w, n := impl.NeckStart(), 0
		for site := range impl.Sites {
			if down>>site&1 == 1 {
				w.Servers[site] = impl.ServerFall(w.Servers[site])
				n++
			}
		}
		for _, rounds := range []int{1, 2, 40} {
			checkCalmIs(t, w, rounds, func(x *impl.Neck) { x.Time, x.Servers = 4*rounds+n, impl.NeckStart().Servers })
		}
	}
}

// All have risen when the first word is brought: a put is under way to a server that is down, and so is the one that stands last.
func TestCalmsBringWhenAllHaveRisen(t *testing.T) {
	for site, key := range []int{0, 2, 0, 2} {
		w := impl.NeckStart()
		for other := range impl.Sites {
			w.Servers[other] = impl.ServerFall(w.Servers[other])
		}
		w.Radio = []impl.Word{{Kind: impl.WordPut, From: impl.WordClient + site/2, To: site, Call: 7, Key: key, Val: 5}}
		x := checkCalm(t, w, 1)
		want := impl.Ver{Key: key, Stamp: impl.Stamp{Time: 1, Site: site}, Val: 5, Client: site / 2, Call: 7}
		if list := x.Servers[site].Vers; !sameVers(list, []impl.Ver{want}) || !sameVers(impl.NeckSide(x, 1-site/2), list) {
			t.Errorf("%d %+v", site, x)
		}
	}
}

// Radio is full when a calm begins: all of it is brought ahead of what is said then, so that this finds room, and of that the first words first.
func TestCalmsOfAFullRadio(t *testing.T) {
	w := withRadio(impl.NeckStart(), filler(60)...)
	checkCalmIs(t, w, 1, func(x *impl.Neck) { x.Time, x.Radio = 64, nil })
	checkCalmIs(t, w, 3, func(x *impl.Neck) { x.Time, x.Radio = 72, nil })
	w.Servers[0].Vers, w.Servers[0].Owes = []impl.Ver{came(0, 5, 0)}, []impl.Dep{dep(0, 5, 0)}
	checkCalmIs(t, w, 1, func(x *impl.Neck) {
		x.Time, x.Radio, x.Servers = 60+4+3, nil, slices.Clone(x.Servers)
		x.Servers[0].Owes, x.Servers[2].Vers = nil, []impl.Ver{came(0, 5, 0)}
	})
}

// Each word that is under way is answered, and all answers are brought, too: twice as many as Radio has.
func TestCalmsBringAnswers(t *testing.T) {
	w := impl.NeckStart()
	w.Servers[0].Vers = []impl.Ver{came(0, 5, 0)}
	w.Radio = slices.Repeat([]impl.Word{{Kind: impl.WordCheck, From: 1, Key: 0, Stamp: impl.Stamp{Time: 5}}}, 60)
	checkCalmIs(t, w, 1, func(x *impl.Neck) { x.Time, x.Radio = 120+4, nil })
	w.Radio = slices.Repeat([]impl.Word{{Kind: impl.WordGet, From: impl.WordClient, Call: 9, Key: 0}}, 60)
	checkCalmIs(t, w, 2, func(x *impl.Neck) { x.Time, x.Radio = 120+8, nil })
	w.Time, w.Calls = 7, []impl.Call{{Num: 1, Kind: impl.CallRead, Keys: []int{0}, Begin: 7}}
	w.Radio[59].Call = 1
	if x := checkCalm(t, w, 1); x.Calls[0].End != 7+120 || x.Time != 7+120+4 {
		t.Errorf("it was not answered ahead of what servers say %+v", x)
	}
}

// A put and a read that wait, of one client each: when each is sent, and ends, tells in what order all is done, and what is brought between.
func TestTheTimesOfARound(t *testing.T) {
	w := impl.NeckPlay([]impl.NeckEvent{begin(0, impl.CallPut, 0, 0, 0, 5), begin(1, impl.CallRead, 0, 3, 0, 0)})
	x := checkCalm(t, w, 1)
	put, read := x.Calls[0], x.Calls[1]
	if put.End != 2+4+1+3 || put.Stamp != (impl.Stamp{Time: 1}) || read.End != put.End+1+4+2 || read.Got[0].Yes || read.Got[1].Yes || x.Time != read.End {
		t.Errorf("%+v", x)
	}
	if len(x.Servers[0].Owes) != 1 || len(x.Servers[2].Vers) > 0 {
		t.Errorf("it has said already what is owed %+v", x)
	}
	y := checkCalm(t, x, 1)
	if y.Time != x.Time+4+3 || len(y.Servers[0].Owes) > 0 || len(y.Servers[2].Vers) != 1 || !sameNeck(checkCalm(t, w, 2), y) {
		t.Errorf("%+v", y)
	}
	alone := impl.NeckPlay([]impl.NeckEvent{begin(1, impl.CallRead, 0, 3, 0, 0)})
	if x := checkCalm(t, alone, 1); x.Calls[0].End != 1+4+1+4+2 {
		t.Errorf("%+v", x)
	}
}

// A call is sent when all servers have said what they have to say: a slot that is on its way has come by then, and the call ends in that round.
func TestCallsAreSentBehindAllElse(t *testing.T) {
	for site := range impl.Sites {
		client, slot := site/2, []int{0, 1, 0, 1}[site]
		w := impl.NeckPlay([]impl.NeckEvent{{Kind: impl.NeckMoves, At: site, Slot: slot}, {Kind: impl.NeckLoses}, begin(client, impl.CallPut, 2*slot, 0, 0, 5)})
		x := checkCalm(t, w, 1)
		if c := x.Calls[0]; c.End == 0 || c.Stamp != (impl.Stamp{Time: 1, Site: site ^ 1}) || len(x.Servers[site].Vers) > 0 {
			t.Errorf("%d %+v", site, x)
		}
	}
}

// The servers tend in order, and all is brought behind each: what waits at the second server of a side for what can be seen at the first one can be seen
// in the same round; what waits at the first one for that, in the next one; and what waits for what is not there waits on.
func TestServersTendInOrder(t *testing.T) {
	one, two, three := came(0, 1, 0), came(2, 2, 1, dep(0, 1, 0)), came(0, 3, 0, dep(0, 1, 0), dep(2, 2, 1))
	for i, c := range []struct {
		seen   []impl.Ver
		first  []impl.Ver
		second []impl.Ver
		waits  []int
	}{
		{[]impl.Ver{one}, nil, []impl.Ver{two}, []int{1, 0, 0, 0}}, {[]impl.Ver{one}, []impl.Ver{three}, []impl.Ver{two}, []int{2, 1, 0, 0}},
		{nil, []impl.Ver{three}, []impl.Ver{two}, []int{2, 2, 2, 2}}, {nil, []impl.Ver{one, three}, []impl.Ver{two}, []int{3, 3, 3, 3}},
	} {
		w := impl.NeckStart()
		w.Servers[2].Vers, w.Servers[2].Waits, w.Servers[3].Waits = c.seen, c.first, c.second
		for rounds, want := range c.waits {
			if x := checkCalm(t, w, rounds); len(x.Servers[2].Waits)+len(x.Servers[3].Waits) != want {
				t.Errorf("%d %d %+v", i, rounds, x)
			}
		}
	}
}

// A put that ends in a round, and a read that then needs something behind it, which it is told in the next one.
func TestCallsThatEndInARound(t *testing.T) {
	w := impl.NeckPlay([]impl.NeckEvent{begin(0, impl.CallPut, 0, 0, 0, 5)})
	x := checkCalm(t, w, 1)
	if x.Calls[0].End != 1+4+1+3 || !slices.Equal(x.Seen[0], []impl.Dep{dep(0, 1, 0)}) {
		t.Errorf("%+v", x)
	}
	early := impl.Answer{Key: 0}
	first, second := impl.Ver{Key: 0, Stamp: impl.Stamp{Time: 1}, Val: 5, Call: 1}, impl.Ver{Key: 3, Stamp: impl.Stamp{Time: 2, Site: 1}, Val: 6, Call: 2, Deps: []impl.Dep{dep(0, 1, 0)}}
	w = impl.NeckStart()
	w.Time, w.Calls = 9, []impl.Call{{Client: 0, Num: 1, Kind: impl.CallRead, Keys: []int{0, 3}, Begin: 4, Got: []impl.Answer{early}}}
	w.Servers[0].Vers, w.Servers[1].Vers = []impl.Ver{first}, []impl.Ver{second}
	x = checkCalm(t, w, 1)
	if c := x.Calls[0]; c.End != 0 || !slices.Equal(c.Needs, []impl.Dep{dep(0, 1, 0)}) || len(c.Got) != 2 || len(x.Seen[0]) > 0 {
		t.Errorf("%+v", x)
	}
	y := checkCalm(t, w, 2)
	if c := y.Calls[0]; c.End != x.Time+4+1+3 || !sameVer(c.Got[0].Ver, first) || !sameVer(c.Got[1].Ver, second) || !slices.Equal(y.Seen[0], []impl.Dep{dep(0, 1, 0), dep(3, 2, 1)}) {
		t.Errorf("%+v", y)
	}
}

// A call that is over, or has ended, is not sent, nor is one that a client does not have: a round without calls that wait is as long as without any.
func TestRoundsWithoutCallsThatWait(t *testing.T) {
	w := restNeck()
	w.Calls[2].Over = true
	for _, calls := range [][]impl.Call{nil, w.Calls[:1], w.Calls[:2], w.Calls} {
		w.Calls = calls
		checkCalmIs(t, w, 1, later(4))
		checkCalmIs(t, w, 3, later(12))
	}
	fresh := restNeck()
	if x := checkCalm(t, fresh, 1); x.Time != fresh.Time+4+1+3 || x.Calls[2].End != x.Time {
		t.Errorf("%+v", x)
	}
}

// Promise 96: waiting a while, and then a while more, is waiting for both together, for each number of rounds.
func TestWaitingAWhileMore(t *testing.T) {
	t.Parallel()
	list := calmNecks(t)
	for _, early := range []int{1, 30, 150} {
		for _, w := range drawnNecks(t, 6) {
			w.Time = impl.NeckMaxTime - 20000 - early
			list = append(list, w)
		}
	}
	for _, w := range list {
		step := w
		for a := range impl.NeckMaxCalm {
			behind := impl.NeckCalm(w, a)
			if !sameNeck(step, behind) {
				t.Fatalf("%d %+v\n%+v\n%+v", a, w, behind, step)
			}
			step = impl.NeckCalm(behind, 1)
		}
		if !sameNeck(step, impl.NeckCalm(w, impl.NeckMaxCalm)) {
			t.Fatalf("%+v\n%+v", w, step)
		}
	}
}
