package tests

import (
	"slices"
	"testing"

	"loop.example/tombolo/impl"
)

// came is a version that came of just these.
func came(key int, time int, site int, deps ...impl.Dep) impl.Ver {
	v := ver(key, time, site)
	v.Deps = deps
	return v
}

// seenBy says whether a dep is seen, without the program.
func seenBy(s impl.Server, d impl.Dep) bool {
	return len(findVers(s.Vers, d.Key, d.Stamp)) > 0 || slices.Contains(s.Knows, d)
}

// canBeSeen says whether one that waits can, without the program.
func canBeSeen(s impl.Server, v impl.Ver) bool {
	if s.Slots[v.Key/2].Stand != impl.StandOwns || len(s.Vers) >= impl.ChainMax {
		return false
	}
	for _, d := range v.Deps {
		if !seenBy(s, d) {
			return false
		}
	}
	return true
}

func wantedBy(waits []impl.Ver, d impl.Dep) bool {
	return slices.ContainsFunc(waits, func(v impl.Ver) bool { return slices.Contains(v.Deps, d) })
}

// settledBy is what the document says word by word, without the program: again and again the first one.
func settledBy(s impl.Server) impl.Server {
	if !s.Up {
		return s
	}
	for {
		i := slices.IndexFunc(s.Waits, func(v impl.Ver) bool { return canBeSeen(s, v) })
		if i < 0 {
			break
		}
		s.Vers = append(slices.Clone(s.Vers), s.Waits[i])
		slices.SortFunc(s.Vers, verOrder)
		s.Waits = slices.Delete(slices.Clone(s.Waits), i, i+1)
	}
	s.Knows = slices.DeleteFunc(slices.Clone(s.Knows), func(d impl.Dep) bool { return !wantedBy(s.Waits, d) })
	return s
}

// checkSettled has promises 30 and 31 of one server, and what the document says word by word.
func checkSettled(t *testing.T, s impl.Server) impl.Server {
	t.Helper()
	x := impl.ServerSettle(s)
	if !sameServer(x, settledBy(s)) {
		t.Fatal("not what the document says", s, x)
	}
	if !impl.ServerOk(x) || !sameServer(impl.ServerSettle(x), x) {
		t.Fatal("settled twice is settled once", s, x)
	}
	all, was := append(slices.Clone(x.Vers), x.Waits...), append(slices.Clone(s.Vers), s.Waits...)
	slices.SortFunc(all, verOrder)
	slices.SortFunc(was, verOrder)
	if !sameVers(all, was) || !slices.Equal(x.Owes, s.Owes) || !slices.Equal(x.Slots, s.Slots) {
		t.Fatal("something is lost, or has come", s, x)
	}
	for _, v := range x.Vers {
		if len(findVers(s.Vers, v.Key, v.Stamp)) == 0 {
			checkNewlySeen(t, s, x, v)
		}
	}
	return x
}

// checkNewlySeen: it had waited, and all its deps are seen, or were known; its slot does not leave.
func checkNewlySeen(t *testing.T, s impl.Server, x impl.Server, v impl.Ver) {
	t.Helper()
	if len(findVers(s.Waits, v.Key, v.Stamp)) != 1 || s.Slots[v.Key/2].Stand != impl.StandOwns || !s.Up {
		t.Fatal("it had not waited, or its slot is not owned", s, v)
	}
	for _, d := range v.Deps {
		if len(findVers(x.Vers, d.Key, d.Stamp)) == 0 && !slices.Contains(s.Knows, d) {
			t.Fatal("it came of what cannot be seen", s, v, d)
		}
	}
}

func settleServer(waits ...impl.Ver) impl.Server {
	return impl.Server{Site: 2, Up: true, Slots: slotsAll(1, impl.StandOwns), Waits: waits}
}

// checkKeys says which keys' versions can be seen, and which wait, behind settling.
func checkKeys(t *testing.T, s impl.Server, seen []int, waits []int) impl.Server {
	t.Helper()
	x := checkSettled(t, s)
	if !slices.Equal(keysOf(x.Vers), seen) || !slices.Equal(keysOf(x.Waits), waits) {
		t.Error(seen, waits, x)
	}
	return x
}

func keysOf(list []impl.Ver) []int {
	var keys []int
	for _, v := range list {
		keys = append(keys, v.Key)
	}
	return keys
}

func TestSettleOfServers(t *testing.T) {
	newly := 0
	for _, s := range someServers() {
		newly += len(checkSettled(t, s).Vers) - len(s.Vers)
	}
	if newly < 10 {
		t.Error("too few that are newly seen", newly)
	}
	for site := range impl.Sites {
		if s := impl.ServerStart(site); !sameServer(impl.ServerSettle(s), s) {
			t.Error(s)
		}
	}
}

// Promise 30: each waits for the next one, and for the one ahead of it, in a row: all can be seen, or none, if the last one is missing.
func TestVersionsThatWaitForOneAnother(t *testing.T) {
	next := []impl.Ver{
		came(0, 6, 0, dep(1, 5, 1)), came(1, 5, 1, dep(2, 4, 0)), came(2, 4, 0, dep(3, 3, 1)),
		came(3, 3, 1, dep(4, 2, 0)), came(4, 2, 0, dep(5, 1, 1)), came(5, 1, 1),
	}
	ahead := []impl.Ver{
		came(0, 1, 0), came(1, 2, 1, dep(0, 1, 0)), came(2, 3, 0, dep(1, 2, 1)),
		came(3, 4, 1, dep(2, 3, 0)), came(4, 5, 0, dep(3, 4, 1)), came(5, 6, 1, dep(4, 5, 0)),
	}
	keys := []int{0, 1, 2, 3, 4, 5}
	checkKeys(t, settleServer(next...), keys, nil)
	checkKeys(t, settleServer(ahead...), keys, nil)
	for i := range next {
		without := slices.Delete(slices.Clone(next), i, i+1)
		checkKeys(t, settleServer(without...), slices.Delete(slices.Clone(keys), 0, i+1), keys[:i])
		without = slices.Delete(slices.Clone(ahead), i, i+1)
		checkKeys(t, settleServer(without...), keys[:i], slices.Delete(slices.Clone(keys), 0, i+1))
	}
}

// Promise 30: long rows, within one key, forth and back through the keys.
func TestLongRowsSettle(t *testing.T) {
	s, back := settleServer(), settleServer()
	for i := range impl.ChainMax {
		one := came(3, i+1, i%2)
		if i > 0 {
			one.Deps = []impl.Dep{dep(3, i, (i-1)%2)}
		}
		s.Waits = append(s.Waits, one)
		key := i * impl.VerKeys / impl.ChainMax
		row := came(key, 100-i, i%2)
		if i < impl.ChainMax-1 {
			row.Deps = []impl.Dep{dep((i+1)*impl.VerKeys/impl.ChainMax, 99-i, (i+1)%2)}
		}
		back.Waits = append(back.Waits, row)
	}
	slices.SortFunc(back.Waits, verOrder)
	for _, row := range []impl.Server{s, back} {
		if x := checkSettled(t, row); len(x.Vers) != impl.ChainMax || len(x.Waits) != 0 {
			t.Error(len(x.Vers), len(x.Waits))
		}
	}
}

// Promise 30: a dep counts just by its key and stamp: no newer and no older one of its key, and none of its time at another site.
func TestDepsAreSeenByKeyAndStamp(t *testing.T) {
	s := settleServer(came(0, 9, 0, dep(4, 5, 1)))
	for _, other := range []impl.Ver{came(4, 4, 1), came(4, 6, 1), came(4, 5, 0), came(4, 5, 2), came(5, 5, 1), came(0, 5, 1)} {
		s.Vers, s.Knows = []impl.Ver{other}, nil
		checkKeys(t, s, []int{other.Key}, []int{0})
		s.Vers, s.Knows = nil, []impl.Dep{{Key: other.Key, Stamp: other.Stamp}}
		checkKeys(t, s, nil, []int{0})
	}
	s.Vers, s.Knows = []impl.Ver{came(4, 5, 1)}, nil
	checkKeys(t, s, []int{0, 4}, nil)
	s.Vers, s.Knows = nil, []impl.Dep{dep(4, 5, 1)}
	checkKeys(t, s, []int{0}, nil)
}

// Promise 30: what is known counts as seen, what nobody has does not; all deps must be seen, not just one.
func TestDepsThatAreKnown(t *testing.T) {
	s := settleServer(came(0, 9, 0, dep(2, 5, 1), dep(5, 5, 1)), came(1, 9, 0, dep(5, 5, 1)), came(4, 8, 1, dep(2, 5, 1)))
	checkKeys(t, s, nil, []int{0, 1, 4})
	s.Knows = []impl.Dep{dep(2, 5, 1)}
	checkKeys(t, s, []int{4}, []int{0, 1})
	s.Knows = []impl.Dep{dep(2, 5, 1), dep(5, 5, 1)}
	checkKeys(t, s, []int{0, 1, 4}, nil)
}

// Promise 30: a version that is known, and waits here itself, counts once: what waits for it and for another one waits on.
func TestKnownAndWaitingCountsOnce(t *testing.T) {
	s := settleServer(came(0, 9, 0, dep(2, 5, 1), dep(4, 4, 1)), came(2, 5, 1))
	s.Knows = []impl.Dep{dep(2, 5, 1)}
	x := checkKeys(t, s, []int{2}, []int{0})
	if !slices.Equal(x.Knows, s.Knows) {
		t.Error("it is wanted still, though it can be seen here", x.Knows)
	}
	s.Vers = []impl.Ver{came(2, 6, 0)}
	checkKeys(t, s, []int{2, 2}, []int{0})
}

// Of what is known that stays which something that waits still came of.
func TestKnowsThatAreWanted(t *testing.T) {
	s := settleServer(came(0, 9, 0, dep(2, 5, 1), dep(4, 4, 1)), came(1, 9, 0, dep(2, 7, 1)), came(5, 9, 0, dep(2, 5, 1), dep(3, 3, 1)))
	s.Knows = []impl.Dep{dep(0, 1, 0), dep(2, 5, 0), dep(2, 5, 1), dep(2, 7, 1), dep(3, 3, 0), dep(5, 9, 0)}
	x := checkKeys(t, s, []int{1}, []int{0, 5})
	if !slices.Equal(x.Knows, []impl.Dep{dep(2, 5, 1)}) {
		t.Error(x.Knows)
	}
	none := settleServer()
	none.Knows = someDebts()
	if x := checkKeys(t, none, nil, nil); len(x.Knows) != 0 {
		t.Error(x.Knows)
	}
}

// What waits in a slot that is leaving stays, though all that it came of is seen, and keeps nobody else back but those that came of it;
// what can be seen in it counts as seen.
func TestWaitsOfASlotThatIsLeaving(t *testing.T) {
	s := settleServer(came(0, 9, 0, dep(3, 5, 1)), came(1, 8, 0, dep(2, 6, 1)), came(2, 6, 1), came(4, 8, 1, dep(3, 5, 1)))
	s.Vers = []impl.Ver{came(3, 5, 1)}
	checkKeys(t, s, []int{0, 1, 2, 3, 4}, nil)
	s.Slots[1] = impl.Slot{Epoch: 2, Stand: impl.StandLeaving}
	s.Knows = []impl.Dep{dep(5, 5, 0)}
	x := checkKeys(t, s, []int{0, 3, 4}, []int{1, 2})
	x.Knows = []impl.Dep{dep(2, 6, 1)}
	checkKeys(t, x, []int{0, 1, 3, 4}, []int{2})
	left, _, _ := impl.ServerMove(s, 0)
	checkKeys(t, left, []int{3, 4}, []int{0, 1, 2})
	s.Waits[2].Deps = []impl.Dep{dep(5, 5, 0)}
	if x := checkKeys(t, s, []int{0, 3, 4}, []int{1, 2}); !slices.Equal(x.Knows, s.Knows) {
		t.Error("what waits in a slot that is leaving came of it", x.Knows)
	}
}

// filled has so many versions that can be seen, all others being of its own site and of the last key.
func filled(s impl.Server, n int) impl.Server {
	s.Vers = slices.Clone(s.Vers)
	for i := len(s.Vers); i < n; i++ {
		s.Vers = append(s.Vers, came(5, 200+i, s.Site))
	}
	return s
}

// As long as there is room: the first goes, again and again, also one that could not be seen till another one went.
func TestSettleWhereRoomEnds(t *testing.T) {
	s := settleServer(came(0, 3, 0, dep(1, 1, 0)), came(1, 1, 0), came(2, 3, 0, dep(4, 1, 0)), came(3, 1, 1), came(4, 1, 0))
	for room, seen := range [][]int{nil, {1}, {0, 1}, {0, 1, 3}, {0, 1, 3, 4}, {0, 1, 2, 3, 4}} {
		full := filled(s, impl.ChainMax-room)
		x := checkSettled(t, full)
		keys := slices.DeleteFunc(keysOf(x.Vers), func(key int) bool { return key == 5 })
		if !slices.Equal(keys, seen) || len(x.Vers) != impl.ChainMax || len(x.Waits) != len(s.Waits)-room {
			t.Error(room, keys, len(x.Vers))
		}
	}
}

// Vers with ChainMax versions and one fewer, when one that waits could be seen; what it knows is kept for it where there is no room.
func TestSettleOneMore(t *testing.T) {
	s := settleServer(came(4, 9, 0, dep(1, 1, 0)))
	s.Knows = []impl.Dep{dep(1, 1, 0), dep(2, 1, 0)}
	x := checkSettled(t, filled(s, impl.ChainMax))
	if len(x.Vers) != impl.ChainMax || len(x.Waits) != 1 || !slices.Equal(x.Knows, s.Knows[:1]) {
		t.Error(x)
	}
	x = checkSettled(t, filled(s, impl.ChainMax-1))
	if len(x.Vers) != impl.ChainMax || len(x.Waits) != 0 || len(x.Knows) != 0 {
		t.Error(x)
	}
}

// A server that is not up stays as it is; when it rises it settles without what it knew.
func TestSettleOfOneThatIsDown(t *testing.T) {
	s := settleServer(came(0, 9, 0), came(1, 10, 0, dep(0, 9, 0)), came(4, 9, 0, dep(3, 1, 1)))
	s.Knows = []impl.Dep{dep(3, 1, 1)}
	down := impl.ServerFall(s)
	if x := checkKeys(t, down, nil, []int{0, 1, 4}); x.Up {
		t.Error(x)
	}
	checkKeys(t, impl.ServerRise(down), []int{0, 1}, []int{4})
	checkKeys(t, s, []int{0, 1, 4}, nil)
}

// manyVers has versions of the other side that came of one another, from the last to the first and the other way round,
// of one that nobody has, and of none.
func manyVers() []impl.Ver {
	return []impl.Ver{
		came(0, 3, 0, dep(2, 2, 1), dep(4, 1, 0)), came(0, 9, 1, dep(1, 4, 1)), came(1, 4, 1, dep(0, 3, 0), dep(5, 1, 3)),
		came(2, 2, 1, dep(4, 1, 0)), came(3, 2, 0), came(4, 1, 0), came(5, 3, 1, dep(3, 2, 0), dep(4, 1, 0)),
	}
}

// eachWay calls with each number of so many digits below a base.
func eachWay(digits int, base int, call func(way []int)) {
	way := make([]int, digits)
	for {
		call(way)
		i := 0
		for i < digits && way[i] == base-1 {
			way[i] = 0
			i++
		}
		if i == digits {
			return
		}
		way[i]++
	}
}

// placed has each version nowhere, among those that can be seen, or among those that wait.
func placed(s impl.Server, way []int) impl.Server {
	for i, v := range manyVers() {
		switch way[i] {
		case 1:
			s.Vers = append(s.Vers, v)
		case 2:
			s.Waits = append(s.Waits, v)
		}
	}
	return s
}

// Promises 30 and 31, of each way in which these versions can stand, with each choice of slots that leave, and of what is known,
// where there is room for all, for two, for one and for none.
func TestSettleEachWay(t *testing.T) {
	knows := []impl.Dep{dep(2, 2, 1), dep(3, 9, 0), dep(5, 1, 3)}
	eachWay(len(manyVers()), 3, func(way []int) {
		stands := placed(settleServer(), way)
		eachWay(impl.VerSlots+len(knows), 2, func(choice []int) {
			s := stands
			s.Slots = slotsAll(1, impl.StandOwns)
			for slot := range impl.VerSlots {
				s.Slots[slot].Stand += choice[slot]
			}
			for i, d := range knows {
				if choice[impl.VerSlots+i] == 1 {
					s.Knows = append(s.Knows, d)
				}
			}
			checkSettled(t, s)
		})
		stands.Knows = knows
		for room := range 3 {
			checkSettled(t, filled(stands, impl.ChainMax-room))
		}
	})
}

// roomyServer has spare room behind each list, in which marks stand.
func roomyServer(s impl.Server) impl.Server {
	slots := append(slices.Clone(s.Slots), impl.Slot{Epoch: 77, Stand: 77}, impl.Slot{Epoch: 77, Stand: 77})
	s.Slots = slots[:len(s.Slots)]
	s.Vers, s.Waits, s.Owes, s.Knows = roomyVers(s.Vers), roomyVers(s.Waits), roomy(s.Owes), roomy(s.Knows)
	return s
}

// wholeServer has all of a server, the spare room of its lists included, in memory of its own.
func wholeServer(s impl.Server) impl.Server {
	s.Slots, s.Vers, s.Waits = slices.Clone(s.Slots[:cap(s.Slots)]), deepCopy(s.Vers), deepCopy(s.Waits)
	s.Owes, s.Knows = slices.Clone(s.Owes[:cap(s.Owes)]), slices.Clone(s.Knows[:cap(s.Knows)])
	return s
}

func spoilSlots(list []impl.Slot) {
	all := list[:cap(list)]
	for i := range all {
		all[i] = impl.Slot{Epoch: 88, Stand: 88}
	}
}

func spoilServer(s impl.Server) {
	spoilSlots(s.Slots)
	spoilVers(s.Vers)
	spoilVers(s.Waits)
	spoil(s.Owes)
	spoil(s.Knows)
}

// served is what a function of servers answers.
type served struct {
	server impl.Server
	word   impl.Word
}

func sameServed(a served, b served) bool {
	return sameServer(a.server, b.server) && sameWord(a.word, b.word)
}

func (a served) whole() served {
	a.server = wholeServer(a.server)
	a.word.Vers, a.word.Waits, a.word.Owes = deepCopy(a.word.Vers), deepCopy(a.word.Waits), slices.Clone(a.word.Owes[:cap(a.word.Owes)])
	return a
}

func spoilServed(a served) {
	spoilServer(a.server)
	spoilVers(a.word.Vers)
	spoilVers(a.word.Waits)
	spoil(a.word.Owes)
	spoil(a.word.Deps)
}

// serverCalls has each function that answers a server, in each of its cases.
func serverCalls() map[string]func(s impl.Server) served {
	move := func(slot int) func(s impl.Server) served {
		return func(s impl.Server) served {
			left, word, _ := impl.ServerMove(s, slot)
			return served{left, word}
		}
	}
	return map[string]func(s impl.Server) served{
		"start":       func(s impl.Server) served { return served{server: impl.ServerStart(s.Site)} },
		"settle":      func(s impl.Server) served { return served{server: impl.ServerSettle(s)} },
		"settle down": func(s impl.Server) served { s.Up, s.Knows = false, nil; return served{server: impl.ServerSettle(s)} },
		"fall":        func(s impl.Server) served { return served{server: impl.ServerFall(s)} },
		"rise":        func(s impl.Server) served { return served{server: impl.ServerRise(s)} },
		"move 0":      move(0), "move 1": move(1), "move 2": move(2), "move none": move(-1),
	}
}

// memoryServers has servers in whose settling some go and some stay.
func memoryServers() []impl.Server {
	full := fullServer(0)
	full.Knows = longDebts(impl.ChainMax)
	none := busyServer(3)
	none.Vers, none.Waits, none.Owes, none.Knows = none.Vers[:0], none.Waits[:0], none.Owes[:0], none.Knows[:0]
	few := filled(settleServer(came(0, 3, 0, dep(1, 1, 0)), came(1, 1, 0), came(2, 3, 0, dep(4, 1, 0)), came(4, 2, 0, dep(1, 1, 0))), impl.ChainMax-3)
	return []impl.Server{busyServer(0), busyServer(3), standing(busyServer(1), 2, impl.StandOwns), full, none, few}
}

func TestServerAnswersAreNewMemory(t *testing.T) {
	for name, call := range serverCalls() {
		for _, given := range memoryServers() {
			s := roomyServer(given)
			was := wholeServer(s)
			first, second, want := call(s), call(s), call(s).whole()
			behind := second.whole()
			spoilServed(first)
			if !sameServed(second.whole(), behind) || !sameServer(wholeServer(s), was) {
				t.Fatal(name, "the answer shares memory, or an argument was written into", second)
			}
			spoilServer(s)
			if !sameServed(second.whole(), behind) || !sameServed(second.whole(), want) {
				t.Fatal(name, "the answer shares memory with an argument", second)
			}
		}
	}
}

// depsOf has the deps of all versions of an answer, each a list of its own.
func depsOf(lists ...[]impl.Ver) [][]impl.Dep {
	var all [][]impl.Dep
	for _, list := range lists {
		for _, v := range list {
			all = append(all, v.Deps)
		}
	}
	return all
}

// tangled has versions that share deps, and debts in one list with what it knows, one behind the other.
func tangled(s impl.Server) impl.Server {
	s.Vers, s.Waits = slices.Clone(s.Vers), slices.Clone(s.Waits)
	shared := roomy([]impl.Dep{dep(0, 1, s.Site), dep(5, 1, 3)})
	for _, list := range [][]impl.Ver{s.Vers, s.Waits} {
		for i := range list {
			if list[i].Stamp.Time > 1 {
				list[i].Deps = shared
			}
		}
	}
	both := slices.Concat(s.Owes, s.Knows)
	s.Owes, s.Knows = both[:len(s.Owes)], both[len(s.Owes):]
	return s
}

// No two lists of one answer share any, a server's and its parcel's among them, not even where those of the argument do.
func TestListsOfAServerAnswerAreApart(t *testing.T) {
	for name, call := range serverCalls() {
		for _, given := range memoryServers() {
			s := tangled(given)
			if !impl.ServerOk(s) {
				t.Fatal(s)
			}
			a := call(s)
			vers := [][]impl.Ver{a.server.Vers, a.server.Waits, a.word.Vers, a.word.Waits}
			deps := append(depsOf(vers...), a.server.Owes, a.server.Knows, a.word.Owes, a.word.Deps)
			for i, list := range deps {
				for j := range list[:cap(list)] {
					list[:cap(list)][j] = dep(i+1, 300, 300)
				}
			}
			for i, list := range deps {
				if slices.ContainsFunc(list[:cap(list)], func(d impl.Dep) bool { return d.Key != i+1 }) {
					t.Fatal(name, i, "it shares memory with another list")
				}
			}
			for i, list := range vers {
				for j := range list[:cap(list)] {
					list[:cap(list)][j].Val = i + 1
				}
			}
			for i, list := range vers {
				if slices.ContainsFunc(list[:cap(list)], func(v impl.Ver) bool { return v.Val != i+1 }) {
					t.Fatal(name, i, "it shares memory with another list")
				}
			}
		}
	}
}

// Asking leaves all as it was, and is answered alike again; what stands behind an end does not count.
func TestAskingLeavesItsServer(t *testing.T) {
	for _, given := range memoryServers() {
		s := roomyServer(given)
		was := wholeServer(s)
		for range 2 {
			if !impl.ServerOk(s) || impl.ServerOwns(s, 2) != (given.Slots[1].Stand == impl.StandOwns) {
				t.Error(s)
			}
		}
		if !sameServer(wholeServer(s), was) {
			t.Error(s)
		}
		s.Slots = s.Slots[:cap(s.Slots)]
		if impl.ServerOk(s) {
			t.Error("marks behind an end are not ok")
		}
	}
}
