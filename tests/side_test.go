package tests

import (
	"slices"
	"testing"

	"loop.example/tombolo/impl"
)

// checkSide: the side has just these, in order, and no number that is no side has any.
func checkSide(t *testing.T, w impl.Neck, side int, want ...impl.Ver) {
	t.Helper()
	if got := impl.NeckSide(w, side); !impl.NeckOk(w) || !sameVers(got, want) || !slices.IsSortedFunc(got, verOrder) {
		t.Fatalf("%d %+v\n%+v\n%+v", side, w, got, want)
	}
	for _, n := range anyNumbers() {
		if list := impl.NeckSide(w, n); n != 0 && n != 1 && len(list) > 0 {
			t.Fatal(n, list)
		}
	}
}

// withVers is a world at its start whose servers own all slots, and have these versions, site by site.
func withVers(lists ...[]impl.Ver) impl.Neck {
	w := impl.NeckStart()
	for site, list := range lists {
		w.Servers[site].Slots, w.Servers[site].Vers = slotsAll(1, impl.StandOwns), list
	}
	return w
}

// Versions on one server of a side alone, on the first or on the second, are all there; those of the other side are not.
func TestSidesHaveWhatTheirServersHave(t *testing.T) {
	one, two, three, four := came(0, 5, 0), came(0, 9, 3), came(3, 1, 2), came(5, 2, 1)
	for _, c := range []struct {
		lists [][]impl.Ver
		want  [2][]impl.Ver
	}{
		{nil, [2][]impl.Ver{}},
		{[][]impl.Ver{{one}}, [2][]impl.Ver{{one}, nil}},
		{[][]impl.Ver{nil, {one}}, [2][]impl.Ver{{one}, nil}},
		{[][]impl.Ver{nil, nil, {one}}, [2][]impl.Ver{nil, {one}}},
		{[][]impl.Ver{nil, nil, nil, {one}}, [2][]impl.Ver{nil, {one}}},
		{[][]impl.Ver{{one}, {two}, {three}, {four}}, [2][]impl.Ver{{one, two}, {three, four}}},
		{[][]impl.Ver{{two}, {one}, {four}, {three}}, [2][]impl.Ver{{one, two}, {three, four}}},
		{[][]impl.Ver{{one, three}, {two, four}, {two, four}, {one, three}}, [2][]impl.Ver{{one, two, three, four}, {one, two, three, four}}},
		{[][]impl.Ver{{one, two, three, four}, {one, two, three, four}, {one, four}, {one, two, four}}, [2][]impl.Ver{{one, two, three, four}, {one, two, four}}},
	} {
		for side, want := range c.want {
			checkSide(t, withVers(c.lists...), side, want...)
		}
	}
}

// What waits, is owed or is known cannot be seen; what can is told whether its server is up or not, and its slot owned or leaving.
func TestSidesHaveWhatCanBeSeen(t *testing.T) {
	w := safeNeck()
	checkSide(t, w, 0, firstOf(), fourthOf(), secondOf(), fifthOf(), thirdOf())
	checkSide(t, w, 1, firstOf(), secondOf(), lastOf(), thirdOf(), sixthOf())
	for site := range w.Servers {
		x := neckChange(func(x *impl.Neck) { x.Servers[site] = fallen(x.Servers[site]) }).of(w)
		checkSide(t, x, 0, firstOf(), fourthOf(), secondOf(), fifthOf(), thirdOf())
		checkSide(t, x, 1, firstOf(), secondOf(), lastOf(), thirdOf(), sixthOf())
		x.Servers[site].Waits, x.Servers[site].Owes = nil, nil
		checkSide(t, x, site/2, impl.NeckSide(w, site/2)...)
	}
}

// Two of one key and stamp are there once: that of the first server, whatever they say, and wherever it stands.
func TestSidesHaveEachVersionOnce(t *testing.T) {
	given := came(3, 6, 1, dep(1, 2, 0))
	for _, change := range []func(v *impl.Ver){
		func(v *impl.Ver) {}, func(v *impl.Ver) { v.Val++ }, func(v *impl.Ver) { v.Client = 1 - v.Client }, func(v *impl.Ver) { v.Call++ }, func(v *impl.Ver) { v.Deps = nil },
		func(v *impl.Ver) { v.Deps = []impl.Dep{dep(1, 2, 1)} }, func(v *impl.Ver) { v.Deps = []impl.Dep{dep(1, 2, 0), dep(4, 1, 1)} },
	} {
		other := given
		change(&other)
		for _, around := range [][2][]impl.Ver{{}, {{came(1, 9, 2)}, {came(5, 1, 0)}}, {{came(3, 5, 3), came(3, 6, 0)}, {came(3, 6, 2), came(3, 7, 0)}}} {
			here, there := append(slices.Concat(around[0], []impl.Ver{given}), around[1]...), append(slices.Concat(around[0], []impl.Ver{other}), around[1]...)
			checkSide(t, withVers(here, there, there, here), 0, here...)
			checkSide(t, withVers(here, there, there, here), 1, there...)
			checkSide(t, withVers(here, []impl.Ver{other}, []impl.Ver{other}, here), 0, here...)
			checkSide(t, withVers(here, []impl.Ver{other}, []impl.Ver{other}, here), 1, there...)
		}
	}
}

// What differs in its key, its time or its site is another one, and comes in order: by key, by time, and then by site.
func TestSidesHaveVersionsInOrder(t *testing.T) {
	list := []impl.Ver{came(1, 3, 1), came(1, 3, 2), came(1, 4, 0), came(1, 4, 3), came(2, 1, 1), came(2, 3, 1), came(2, 3, 2), came(4, 3, 1), came(5, 1, 0)}
	eachWay(len(list), 2, func(way []int) {
		var parts [2][]impl.Ver
		for i, server := range way {
			parts[server] = append(parts[server], list[i])
		}
		w := withVers(parts[0], parts[1], parts[1], parts[0])
		if got := impl.NeckSide(w, 0); !sameVers(got, list) || !sameVers(impl.NeckSide(w, 1), list) {
			t.Fatal(way, got)
		}
	})
	if !slices.IsSortedFunc(list, verOrder) {
		t.Error("the test has them in another order")
	}
}

// Each server has room for ChainMax versions; a side has as many as both have together.
func TestSidesOfFullServers(t *testing.T) {
	for _, m := range everyone() {
		w := m.neck(fullNeck())
		for side := range 2 {
			checkSide(t, w, side, sideBy(w.Servers, side)...)
			if n := len(impl.NeckSide(w, side)); n != 2*impl.ChainMax {
				t.Error(m, side, n)
			}
		}
		w.Servers[1].Vers, w.Servers[3].Vers = w.Servers[0].Vers, w.Servers[2].Vers
		w.Servers[1].Owes, w.Servers[3].Owes = nil, nil
		checkSide(t, w, 0, w.Servers[0].Vers...)
		checkSide(t, w, 1, w.Servers[2].Vers...)
	}
}

// wrongNecks has worlds that are not ok, by one thing each, in each part that can be wrong.
func wrongNecks(given impl.Neck) []impl.Neck {
	changes := []neckChange{
		func(w *impl.Neck) { *w = impl.Neck{} }, func(w *impl.Neck) { w.Time = -1 }, func(w *impl.Neck) { w.Time = impl.NeckMaxTime + 1 }, func(w *impl.Neck) { w.Time = 0 },
		func(w *impl.Neck) { w.Servers = nil }, func(w *impl.Neck) { w.Servers = w.Servers[:3] }, func(w *impl.Neck) { w.Servers = append(w.Servers, impl.ServerStart(3)) },
		func(w *impl.Neck) { w.Servers[0], w.Servers[1] = w.Servers[1], w.Servers[0] }, func(w *impl.Neck) { w.Servers[3] = impl.Server{} },
		func(w *impl.Neck) { w.Seen = nil }, func(w *impl.Neck) { w.Seen = w.Seen[:1] }, func(w *impl.Neck) { w.Seen = append(w.Seen, nil) },
		func(w *impl.Neck) { w.Radio = []impl.Word{{}} }, func(w *impl.Neck) { w.Radio = filler(impl.NeckMaxRadio + 1) },
		func(w *impl.Neck) { w.Calls = w.Calls[1:] }, func(w *impl.Neck) { w.Calls = append(w.Calls, w.Calls[0]) }, func(w *impl.Neck) { w.Calls = append(w.Calls, impl.Call{}) },
		func(w *impl.Neck) { w.Calls = manyCalls(impl.NeckMaxCalls + 1) },
	}
	for site := range impl.Sites {
		for _, change := range []func(s *impl.Server){
			func(s *impl.Server) { s.Slots = s.Slots[:2] }, func(s *impl.Server) { s.Slots = slices.Concat(s.Slots[:2], []impl.Slot{{Epoch: 1, Stand: 3}}) },
			func(s *impl.Server) { s.Vers = slices.Concat(s.Vers, s.Vers) }, func(s *impl.Server) { s.Slots = slotsAll(1, impl.StandNone) },
			func(s *impl.Server) { s.Waits = s.Vers }, func(s *impl.Server) { s.Owes = []impl.Dep{dep(0, 99, 0)} }, func(s *impl.Server) { s.Up, s.Knows = false, someDebts() },
			func(s *impl.Server) { s.Knows = wrongDebts()[3] },
		} {
			changes = append(changes, func(w *impl.Neck) { change(&w.Servers[site]) })
		}
	}
	for client := range impl.VerClients {
		changes = append(changes, func(w *impl.Neck) { w.Seen[client] = wrongDeps()[0] })
	}
	var list []impl.Neck
	for _, change := range changes {
		list = append(list, change.of(given))
	}
	return list
}

// wrongWorlds has worlds none of which is ok, each part being wrong in some of them.
func wrongWorlds() []impl.Neck {
	return slices.Concat(wrongNecks(safeNeck()), wrongNecks(restNeck()), wrongNecks(fullNeck()), []impl.Neck{{}, {Time: 3}, {Seen: make([][]impl.Dep, 2)}})
}

// wrongParts has worlds with a server, a call or a word that is wrong; some of the servers and calls are ok in their places.
func wrongParts() []impl.Neck {
	var list []impl.Neck
	for _, wrong := range wrongServers() {
		for site := range impl.Sites {
			wrong.Site = site
			list = append(list, serverAt(site, func(s *impl.Server) { *s = wrong }).of(restNeck()))
		}
	}
	for _, wrong := range wrongCalls() {
		wrong.Num = 1
		list = append(list, neckChange(func(w *impl.Neck) { w.Time, w.Calls = 70000, []impl.Call{wrong} }).of(impl.NeckStart()))
	}
	for place := range 4 {
		w := safeNeck()
		w.Radio = slices.Insert(w.Radio, min(place, len(w.Radio)), impl.Word{Kind: 11})
		list = append(list, w)
	}
	return list
}

// Of a world that is not ok nothing is told, and nothing holds, whichever part is wrong.
func TestLooksOfWrongWorlds(t *testing.T) {
	for _, w := range wrongWorlds() {
		if neckOkBy(w) {
			t.Error("it is ok", w)
		}
		for _, n := range anyNumbers() {
			if list := impl.NeckSide(w, n); len(list) > 0 {
				t.Error(n, w, list)
			}
		}
		if got := looksOf(w); !sameLooks(got, looks{}) {
			t.Error(w, got)
		}
	}
}

// So it is with each server, each word and each call that is wrong.
func TestLooksOfWorldsWithWrongParts(t *testing.T) {
	wrong := 0
	for _, w := range wrongParts() {
		got := checkLooks(t, w)
		if neckOkBy(w) {
			continue
		}
		wrong++
		if got.safe || got.calls || got.same || len(got.sides[0])+len(got.sides[1]) > 0 {
			t.Error(w)
		}
	}
	if wrong < 100 {
		t.Error("too few", wrong)
	}
}
