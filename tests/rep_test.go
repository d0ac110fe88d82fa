package tests

import (
	"slices"
	"testing"

	"loop.example/tombolo/impl"
)

func repOf(s impl.Server, vers ...impl.Ver) impl.Word {
	return impl.Word{Kind: impl.WordRep, From: farSites(s)[1], To: s.Site, Vers: vers}
}

// about is a word of a kind about a version, from that place.
func about(s impl.Server, kind int, from int, d impl.Dep) impl.Word {
	return impl.Word{Kind: kind, From: from, To: s.Site, Key: d.Key, Stamp: d.Stamp}
}

func haveOf(s impl.Server, d impl.Dep) impl.Word {
	return about(s, impl.WordHave, otherOf(s.Site), d)
}

// Promise 39: what comes from the other side waits, or can be seen, one of both, and is said to have come; twice is once.
func TestVersionsFromTheOtherSide(t *testing.T) {
	t.Parallel()
	taken := 0
	for _, s := range hearServers() {
		for _, w := range repsFor(s) {
			x, words := checkHeard(t, s, w)
			if len(words) == 0 {
				if !sameServer(x, s) {
					t.Error("it came, and nothing was said", s, w)
				}
				continue
			}
			taken++
			d := nameOf(w.Vers[0])
			if hasName(x.Vers, d) == hasName(x.Waits, d) || slices.Contains(x.Owes, d) != slices.Contains(s.Owes, d) {
				t.Error("neither, or both, or it is owed", s, w, x)
			}
			if words[0].Kind != impl.WordRepOk || words[0].Key != d.Key || words[0].Stamp != d.Stamp {
				t.Error(w, words)
			}
			if again, said := checkHeard(t, x, w); !sameServer(again, x) || !sameWords(said, words) {
				t.Error("twice is not once", s, w)
			}
		}
	}
	if taken < 500 {
		t.Error("too few", taken)
	}
}

// Promise 39: what is there stays as it was, whatever else comes by its name, and all is settled also then.
func TestVersionsThatComeByTheSameName(t *testing.T) {
	first := came(2, 6, 1, dep(0, 5, 1))
	other := first
	other.Val, other.Call, other.Deps = 999, 77, nil
	waits, seen := hearing(2), hearing(2, first)
	waits.Waits = []impl.Ver{first}
	for _, s := range []impl.Server{waits, seen} {
		if x, words := checkHeard(t, s, repOf(s, other)); !sameServer(x, s) || len(words) != 1 {
			t.Error(s, x)
		}
	}
	unsettled := hearing(2, first)
	unsettled.Waits = []impl.Ver{came(4, 9, 0)}
	if x, words := checkHeard(t, unsettled, repOf(unsettled, first)); len(words) != 1 || len(x.Waits) != 0 || len(x.Vers) != 2 {
		t.Error(x)
	}
}

// None, or two, of Vers are not heard, nor one of this side; one of the other side is, from either site of it.
func TestVersionsThatAreNotTaken(t *testing.T) {
	for site := range impl.Sites {
		s := hearing(site)
		far := farSites(s)
		checkUnheard(t, s, repOf(s))
		checkUnheard(t, s, repOf(s, came(0, 5, far[0]), came(0, 6, far[0])))
		checkUnheard(t, s, repOf(s, came(0, 5, far[0]), came(5, 6, far[1])))
		for from := range impl.Sites {
			for made := range impl.Sites {
				w := repOf(s, came(3, 5, made))
				w.From = from
				x, words := checkHeard(t, s, w)
				want := from/2 != site/2 && made/2 != site/2
				if (len(words) == 1) != want || (len(x.Vers) == 1) != want || want && words[0].To != from {
					t.Error(site, from, made, words)
				}
			}
		}
	}
}

// The version's own key counts, and its stamp, whatever the word says else.
func TestRepsAreByTheirVersion(t *testing.T) {
	s := hearing(1)
	s.Slots[0].Stand = impl.StandLeaving
	w := repOf(s, came(4, 5, 2))
	w.Key, w.Stamp, w.Call, w.Slot, w.Epoch = 0, impl.Stamp{Time: 3, Site: 1}, 9, 1, 4
	if x, words := checkHeard(t, s, w); len(x.Vers) != 1 || len(words) != 1 || words[0].Key != 4 || words[0].Stamp != (impl.Stamp{Time: 5, Site: 2}) {
		t.Error(x, words)
	}
	w.Key, w.Vers = 4, []impl.Ver{came(0, 5, 2)}
	checkUnheard(t, s, w)
}

// Promise 40: a version of the other side of which all that it came of is here can be seen at once, if there is room.
func TestVersionsThatCanBeSeenAtOnce(t *testing.T) {
	t.Parallel()
	for _, s := range hearServers() {
		for _, w := range repsFor(s) {
			x, words := checkHeard(t, s, w)
			if len(words) > 0 && hasName(x.Waits, nameOf(w.Vers[0])) && canBeSeen(x, w.Vers[0]) {
				t.Fatal("it could be seen", s, w, x)
			}
		}
	}
	s := hearing(2, came(0, 3, 2), came(3, 1, 0))
	for _, deps := range [][]impl.Dep{nil, {dep(0, 3, 2)}, {dep(3, 1, 0)}, {dep(0, 3, 2), dep(3, 1, 0)}, {dep(4, 2, 1)}, {dep(0, 3, 2), dep(4, 2, 1)}, {dep(0, 3, 3)}} {
		v := came(5, 7, 1, deps...)
		x, _ := checkHeard(t, s, repOf(s, v))
		if hasName(x.Vers, nameOf(v)) != impl.ChainHas(s.Vers, deps) {
			t.Error(deps, x)
		}
		known := s
		known.Knows = []impl.Dep{dep(4, 2, 1)}
		if x, _ := checkHeard(t, known, repOf(s, v)); hasName(x.Vers, nameOf(v)) == slices.Contains(deps, dep(0, 3, 3)) {
			t.Error("what is known is seen", deps, x)
		}
	}
}

// Promise 40: what waited for it can be seen with it, in a row.
func TestVersionsThatWaitedForWhatComes(t *testing.T) {
	s := hearing(3)
	row := []impl.Ver{came(0, 6, 0, dep(1, 5, 1)), came(1, 5, 1, dep(2, 4, 0)), came(2, 4, 0, dep(3, 3, 1)), came(3, 3, 1)}
	for i, v := range row {
		x, words := checkHeard(t, s, repOf(s, v))
		if last := i == len(row)-1; len(words) != 1 || (len(x.Vers) == len(row)) != last || (len(x.Waits) == 0) != last {
			t.Error(i, x)
		}
		s = x
	}
}

// Vers with ChainMax, and one fewer: it waits, or can be seen. Waits with ChainMax take nothing, not even what could be seen at once.
func TestVersionsThatComeWhereRoomEnds(t *testing.T) {
	s := hearing(0)
	v := came(2, 7, 3)
	for room := range 3 {
		if x, words := checkHeard(t, filled(s, impl.ChainMax-room), repOf(s, v)); len(words) != 1 || hasName(x.Vers, nameOf(v)) != (room > 0) {
			t.Error(room, x)
		}
	}
	for i := range impl.ChainMax {
		s.Waits = append(s.Waits, came(1, 10+i, 2, dep(0, 9, 2)))
	}
	room := less(s, 0, impl.ChainMax-1, 0)
	for _, one := range []impl.Ver{v, came(2, 17, 3, dep(0, 9, 2))} {
		checkUnheard(t, s, repOf(s, one))
		if x, words := checkHeard(t, room, repOf(s, one)); len(words) != 1 || len(x.Vers)+len(x.Waits) != impl.ChainMax {
			t.Error(x)
		}
	}
	if _, words := checkHeard(t, s, repOf(s, s.Waits[40])); len(words) != 1 {
		t.Error("one that waits already is said to have come")
	}
}

// Promise 43: a debt is paid when the other side says so, and no other one is; from its own side, or a client, it is not.
func TestDebtsArePaid(t *testing.T) {
	t.Parallel()
	for _, s := range hearServers() {
		for _, d := range append(few(s.Owes, 9), dep(0, 99, 0), dep(3, 5, 3), impl.Dep{Key: 5}) {
			for _, from := range places() {
				x, words := checkHeard(t, s, about(s, impl.WordRepOk, from, d))
				paid := farFrom(s, from) && ownedBy(s, d.Key)
				want := slices.DeleteFunc(slices.Clone(s.Owes), func(o impl.Dep) bool { return paid && o == d })
				if !slices.Equal(x.Owes, want) || len(words) > 0 {
					t.Error(s, d, from, x.Owes)
				}
				x.Owes = s.Owes
				if !sameServer(x, s) {
					t.Error("nothing else changes, not even what could be settled", s, d, x)
				}
			}
		}
	}
}

// Promise 43: just that key and stamp is paid, of several of one key; paid twice is paid once.
func TestDebtsArePaidOneByOne(t *testing.T) {
	s := hearing(0, came(1, 3, 0), came(1, 3, 1), came(1, 4, 0), came(2, 3, 0))
	s.Owes = []impl.Dep{dep(1, 3, 0), dep(1, 3, 1), dep(1, 4, 0), dep(2, 3, 0)}
	for i, d := range s.Owes {
		x, _ := checkHeard(t, s, about(s, impl.WordRepOk, 3, d))
		if !slices.Equal(x.Owes, slices.Delete(slices.Clone(s.Owes), i, i+1)) {
			t.Error(d, x.Owes)
		}
		if again, _ := checkHeard(t, x, about(s, impl.WordRepOk, 2, d)); !sameServer(again, x) {
			t.Error(d, again.Owes)
		}
		if !sameVers(x.Vers, s.Vers) {
			t.Error("what is paid can be seen still", x.Vers)
		}
	}
	s.Slots[0].Stand = impl.StandLeaving
	checkUnheard(t, s, about(s, impl.WordRepOk, 3, dep(1, 3, 1)))
	if x, _ := checkHeard(t, s, about(s, impl.WordRepOk, 3, dep(2, 3, 0))); len(x.Owes) != 3 {
		t.Error("its slot is owned", x.Owes)
	}
}

// What is asked for by the twin is told, also of slots that are leaving; by others it is not, nor what waits, or is known.
func TestChecks(t *testing.T) {
	for site := range impl.Sites {
		s := busyServer(site)
		for _, d := range namesFor(s) {
			for _, from := range places() {
				_, words := checkHeard(t, s, about(s, impl.WordCheck, from, d))
				if (len(words) == 1) != (from == otherOf(site) && hasName(s.Vers, d)) {
					t.Error(s, d, from, words)
				}
				if len(words) == 1 && !sameWord(words[0], about(impl.Server{Site: from}, impl.WordHave, site, d)) {
					t.Error(d, words)
				}
			}
		}
	}
}

// Promise 44: what the other server has counts as seen, if something that waits came of it.
func TestTheOtherServerHasIt(t *testing.T) {
	s := hearing(2)
	s.Waits = []impl.Ver{came(0, 9, 0, dep(2, 5, 1), dep(5, 5, 1)), came(1, 9, 0, dep(5, 5, 1)), came(4, 8, 1, dep(2, 5, 1))}
	x, words := checkHeard(t, s, haveOf(s, dep(2, 5, 1)))
	if len(words) > 0 || !slices.Equal(keysOf(x.Vers), []int{4}) || !slices.Equal(x.Knows, []impl.Dep{dep(2, 5, 1)}) {
		t.Error(x)
	}
	y, _ := checkHeard(t, x, haveOf(s, dep(5, 5, 1)))
	if !slices.Equal(keysOf(y.Vers), []int{0, 1, 4}) || len(y.Waits) > 0 || len(y.Knows) > 0 {
		t.Error("what nothing waits for is forgotten", y)
	}
	if again, _ := checkHeard(t, x, haveOf(s, dep(2, 5, 1))); !sameServer(again, x) {
		t.Error("known twice is known once", again)
	}
	for _, d := range []impl.Dep{dep(2, 5, 0), dep(2, 6, 1), dep(3, 5, 1), dep(0, 9, 0), {Key: 2}} {
		checkUnheard(t, s, haveOf(s, d))
	}
	for _, from := range []int{0, 1, 2, 10, 11} {
		checkUnheard(t, s, about(s, impl.WordHave, from, dep(2, 5, 1)))
	}
}

// Promise 44: what is known comes in order, wherever it belongs; what waits in a slot that is leaving counts, too, and stays there.
func TestWhatIsKnownIsInOrder(t *testing.T) {
	s := hearing(0)
	s.Slots[2].Stand = impl.StandLeaving
	all := []impl.Dep{dep(0, 3, 2), dep(0, 3, 3), dep(0, 4, 2), dep(3, 1, 1), dep(5, 2, 0)}
	for i, d := range all {
		s.Waits = append(s.Waits, came(4, 10+i, 2, d))
	}
	for i := range all {
		x := s
		for j := range all {
			x, _ = checkHeard(t, x, haveOf(s, all[(i+j*2)%len(all)]))
		}
		if !slices.Equal(x.Knows, all) || !sameVers(x.Waits, s.Waits) {
			t.Error(i, x)
		}
	}
}

// Knows with ChainMax take no more, not even what is known, and nothing is settled; with one fewer they do.
func TestKnownWhereRoomEnds(t *testing.T) {
	s := hearing(1)
	for i := range impl.ChainMax {
		s.Knows = append(s.Knows, dep(2, 5+i, 0))
	}
	last := came(5, 300, 2, dep(0, 299, 2), dep(2, 5, 0))
	s.Waits = []impl.Ver{came(4, 200, 2, dep(2, 6, 0)), last}
	checkUnheard(t, s, haveOf(s, dep(0, 299, 2)))
	checkUnheard(t, s, haveOf(s, dep(2, 6, 0)))
	one := less(s, 0, 2, impl.ChainMax-1)
	if x, _ := checkHeard(t, one, haveOf(s, dep(0, 299, 2))); len(x.Vers) != 2 || len(x.Knows) > 0 {
		t.Error(x)
	}
	if x, _ := checkHeard(t, one, haveOf(s, dep(2, 6, 0))); len(x.Vers) != 1 || !slices.Equal(x.Knows, []impl.Dep{dep(2, 5, 0)}) {
		t.Error("it is known already, and all is settled", x)
	}
}
