package tests

import (
	"slices"
	"testing"

	"loop.example/tombolo/impl"
)

// tendedBy is what the document says word by word, without the program.
func tendedBy(s impl.Server) []impl.Word {
	var list []impl.Word
	if !s.Up {
		return nil
	}
	for slot, stands := range s.Slots {
		if stands.Stand == impl.StandLeaving {
			part := partOf(s, slot)
			parcel := impl.Word{Kind: impl.WordBulk, From: s.Site, To: otherOf(s.Site), Slot: slot, Epoch: stands.Epoch}
			parcel.Vers, parcel.Waits, parcel.Owes = part.Vers, part.Waits, part.Owes
			list = append(list, parcel)
		}
	}
	for _, d := range s.Owes {
		for _, far := range farSites(s) {
			if ownedBy(s, d.Key) {
				list = append(list, impl.Word{Kind: impl.WordRep, From: s.Site, To: far, Vers: findVers(s.Vers, d.Key, d.Stamp)})
			}
		}
	}
	var asked []impl.Dep
	for _, deps := range depsOf(s.Waits) {
		for _, d := range deps {
			if !seenBy(s, d) && !slices.Contains(asked, d) {
				asked = append(asked, d)
				list = append(list, impl.Word{Kind: impl.WordCheck, From: s.Site, To: otherOf(s.Site), Key: d.Key, Stamp: d.Stamp})
			}
		}
	}
	return list
}

// checkTended has promise 45 of one server, and what the document says word by word.
func checkTended(t *testing.T, s impl.Server) []impl.Word {
	t.Helper()
	words := impl.ServerTend(s)
	if !sameWords(words, tendedBy(s)) {
		t.Fatal("not what the document says", s, words)
	}
	for _, w := range words {
		if !impl.WordOk(w) || w.From != s.Site || w.To == s.Site || !s.Up {
			t.Fatal("not its own to say", s, w)
		}
		own := false
		switch w.Kind {
		case impl.WordBulk:
			own = s.Slots[w.Slot] == impl.Slot{Epoch: w.Epoch, Stand: impl.StandLeaving} && w.To == otherOf(s.Site)
		case impl.WordRep:
			own = len(w.Vers) == 1 && slices.Contains(s.Owes, nameOf(w.Vers[0])) && ownedBy(s, w.Vers[0].Key) && farFrom(s, w.To)
		case impl.WordCheck:
			d := impl.Dep{Key: w.Key, Stamp: w.Stamp}
			own = wantedBy(s.Waits, d) && !seenBy(s, d) && w.To == otherOf(s.Site)
		}
		if !own {
			t.Fatal("not its own to say", s, w)
		}
	}
	return words
}

// kindsOf is how many words there are of each kind, by its number.
func kindsOf(words []impl.Word) [11]int {
	var kinds [11]int
	for _, w := range words {
		kinds[w.Kind]++
	}
	return kinds
}

// Promise 45: what a server says from time to time is its own to say, of ordinary servers and such as are at their limits.
func TestServersTend(t *testing.T) {
	total := [11]int{}
	for _, s := range append(hearServers(), someServers()...) {
		for kind, n := range kindsOf(checkTended(t, s)) {
			total[kind] += n
		}
	}
	for _, kind := range []int{impl.WordRep, impl.WordCheck, impl.WordBulk} {
		if total[kind] < 30 {
			t.Error("too few", kind, total)
		}
	}
	for site := range impl.Sites {
		if words := impl.ServerTend(impl.ServerStart(site)); len(words) > 0 {
			t.Error("at first there is nothing to say", site, words)
		}
		if words := impl.ServerTend(impl.ServerFall(busyServer(site))); len(words) > 0 {
			t.Error("it is down", site, words)
		}
	}
}

// Promise 45, of each way in which some versions can stand, of each choice of slots that leave, and of what is known.
func TestTendEachWay(t *testing.T) {
	knows := []impl.Dep{dep(2, 2, 1), dep(5, 1, 3)}
	eachWay(len(manyVers()), 3, func(way []int) {
		stands := placed(settleServer(), way)
		for _, v := range stands.Vers {
			stands.Owes = append(stands.Owes, nameOf(v))
		}
		eachWay(impl.VerSlots, 2, func(choice []int) {
			s := stands
			s.Slots = slotsAll(1, impl.StandOwns)
			for slot := range impl.VerSlots {
				s.Slots[slot].Stand += choice[slot]
			}
			checkTended(t, s)
			s.Knows = knows
			checkTended(t, s)
		})
	})
}

// Slots that leave, debts and checks are said in this order, and each within its own.
func TestTendInOrder(t *testing.T) {
	s := hearing(2, came(0, 3, 2), came(1, 1, 3), came(1, 2, 2), came(4, 1, 3))
	s.Slots = []impl.Slot{{Epoch: 2, Stand: impl.StandOwns}, {Epoch: 5, Stand: impl.StandLeaving}, {Epoch: 3, Stand: impl.StandLeaving}}
	s.Owes = []impl.Dep{dep(0, 3, 2), dep(1, 2, 2), dep(4, 1, 3)}
	s.Waits = []impl.Ver{
		came(0, 9, 0, dep(3, 8, 1), dep(5, 2, 0)), came(1, 9, 0, dep(1, 2, 2), dep(2, 7, 1)), came(2, 9, 1, dep(0, 4, 0), dep(3, 8, 1), dep(5, 2, 0)),
		came(3, 9, 1, dep(2, 7, 0), dep(3, 8, 0), dep(5, 3, 0)),
	}
	s.Knows = []impl.Dep{dep(5, 3, 0)}
	var told [][3]int
	for _, w := range checkTended(t, s) {
		told = append(told, [3]int{w.Kind, w.To, w.Key*100 + w.Slot*10 + w.Stamp.Time})
	}
	want := [][3]int{
		{9, 3, 10}, {9, 3, 20}, {5, 0, 0}, {5, 1, 0}, {5, 0, 0}, {5, 1, 0}, {7, 3, 308}, {7, 3, 502}, {7, 3, 207}, {7, 3, 4}, {7, 3, 207}, {7, 3, 308},
	}
	if !slices.Equal(told, want) {
		t.Error(told)
	}
}

// A debt whose slot is owned goes to both sites of the other side, with all that is of its version; one whose slot is leaving goes with it.
func TestTendDebts(t *testing.T) {
	for site := range impl.Sites {
		for slot := range impl.VerSlots {
			s := hearing(site, came(0, 3, site, dep(5, 1, 0)), came(2, 4, site), came(3, 4, otherOf(site), dep(0, 1, 1), dep(1, 2, 2)), came(5, 9, site))
			s.Owes = []impl.Dep{nameOf(s.Vers[0]), nameOf(s.Vers[2]), nameOf(s.Vers[3])}
			s.Slots[slot].Stand = impl.StandLeaving
			kinds := kindsOf(checkTended(t, s))
			if kinds[impl.WordRep] != 4 || kinds[impl.WordBulk] != 1 || len(checkTended(t, s)[0].Owes) != 1 {
				t.Error(site, slot, kinds)
			}
		}
	}
}

// A dep that several of what waits came of is asked for once; one that is seen here, or known, is not.
func TestTendChecks(t *testing.T) {
	s := hearing(0, came(4, 6, 1))
	s.Waits = []impl.Ver{came(0, 9, 2, dep(3, 5, 2), dep(4, 6, 1)), came(1, 9, 2, dep(3, 5, 2), dep(4, 6, 0)), came(1, 9, 3, dep(3, 5, 2)), came(2, 9, 2, dep(0, 8, 2))}
	asked := func(s impl.Server) []impl.Dep {
		var list []impl.Dep
		for _, w := range checkTended(t, s) {
			list = append(list, impl.Dep{Key: w.Key, Stamp: w.Stamp})
		}
		return list
	}
	if list := asked(s); !slices.Equal(list, []impl.Dep{dep(3, 5, 2), dep(4, 6, 0), dep(0, 8, 2)}) {
		t.Error(list)
	}
	s.Knows = []impl.Dep{dep(0, 8, 2), dep(3, 5, 2), dep(4, 6, 3)}
	if list := asked(s); !slices.Equal(list, []impl.Dep{dep(4, 6, 0)}) {
		t.Error(list)
	}
	s.Waits, s.Knows = []impl.Ver{came(0, 8, 2), came(1, 9, 2, dep(0, 8, 2))}, nil
	if list := asked(s); !slices.Equal(list, []impl.Dep{dep(0, 8, 2)}) {
		t.Error("it waits itself, and is not seen", list)
	}
}

// Promise 45: what is said is heard where it is said to: debts are paid by it, slots come, and what is asked for is told.
func TestTendedWordsAreHeard(t *testing.T) {
	s := hearing(0, came(0, 3, 0), came(4, 5, 0))
	s.Owes = []impl.Dep{dep(0, 3, 0), dep(4, 5, 0)}
	far := hearing(3)
	for _, w := range checkTended(t, s) {
		if w.To != 3 {
			continue
		}
		var told []impl.Word
		far, told = checkHeard(t, far, w)
		s, _ = checkHeard(t, s, told[0])
	}
	if len(s.Owes) > 0 || !sameVers(far.Vers, s.Vers) || len(impl.ServerTend(s)) > 0 {
		t.Error(s, far)
	}
	waits, twin := hearing(2), hearing(3, came(1, 2, 1))
	waits.Waits = []impl.Ver{came(5, 9, 0, dep(1, 2, 1))}
	_, told := checkHeard(t, twin, checkTended(t, waits)[0])
	if x, _ := checkHeard(t, waits, told[0]); len(x.Vers) != 1 || len(impl.ServerTend(x)) > 0 {
		t.Error(x)
	}
}
