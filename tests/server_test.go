package tests

import (
	"math"
	"slices"
	"testing"

	"loop.example/tombolo/impl"
)

// busyServer has something in each part: slots that are owned and one that is leaving, versions of both sides,
// some that can be seen newly and some that cannot, debts, and things it knows of which some are wanted.
func busyServer(site int) impl.Server {
	twin, far, farther := otherOf(site), (site+2)%impl.Sites, otherOf((site+2)%impl.Sites)
	return impl.Server{
		Site: site, Up: true,
		Slots: []impl.Slot{{Epoch: 5, Stand: impl.StandOwns}, {Epoch: 7, Stand: impl.StandLeaving}, {Epoch: 9, Stand: impl.StandOwns}},
		Vers: []impl.Ver{
			ver(0, 1, far), ver(0, 3, site), ver(1, 4, twin), ver(2, 2, farther), ver(3, 5, site), ver(5, 1, 3), ver(5, 6, twin),
		},
		Waits: []impl.Ver{ver(0, 9, far), ver(2, 4, far), ver(3, 8, farther), ver(4, 2, farther), ver(5, 7, far), ver(5, 10, farther)},
		Owes:  []impl.Dep{dep(0, 3, site), dep(1, 4, twin), dep(3, 5, site), dep(5, 6, twin)},
		Knows: []impl.Dep{dep(0, 8, far), dep(1, 1, twin), dep(1, 7, farther), dep(2, 9, farther), dep(4, 1, site)},
	}
}

// otherOf is the other site of the side, written out.
func otherOf(site int) int {
	return []int{1, 0, 3, 2}[site]
}

// fullServer has as much as there may be in each list, all of slots that are owned.
func fullServer(site int) impl.Server {
	s := impl.Server{Site: site, Up: true, Slots: slotsAll(1, impl.StandOwns), Knows: longDebts(impl.ChainMax)}
	for i := range impl.ChainMax {
		key := i * impl.VerKeys / impl.ChainMax
		s.Vers = append(s.Vers, ver(key, 2*i+2, site))
		s.Waits = append(s.Waits, ver(key, 2*i+3, (site+2)%impl.Sites))
		s.Owes = append(s.Owes, dep(key, 2*i+2, site))
	}
	return s
}

func slotsAll(epoch int, stand int) []impl.Slot {
	return slices.Repeat([]impl.Slot{{Epoch: epoch, Stand: stand}}, impl.VerSlots)
}

// standing has all slots stand so, by that number.
func standing(s impl.Server, epoch int, stand int) impl.Server {
	s.Slots = slotsAll(epoch, stand)
	return s
}

func fallen(s impl.Server) impl.Server {
	s.Up, s.Knows = false, nil
	return s
}

// someServers has ok servers of each site: at first, with something in each part, with as much as there may be, with slots that stand
// in each way, by numbers at their limits, up and not.
func someServers() []impl.Server {
	var list []impl.Server
	for site := range impl.Sites {
		busy, full, start := busyServer(site), fullServer(site), impl.ServerStart(site)
		list = append(list, start, busy, full, standing(full, 3, impl.StandLeaving), impl.Server{Site: site, Up: true, Slots: slotsAll(0, impl.StandNone)})
		for _, epoch := range []int{1, impl.StampMax - 1, impl.StampMax} {
			list = append(list, standing(busy, epoch, impl.StandOwns), standing(busy, epoch, impl.StandLeaving))
			list = append(list, standing(impl.Server{Site: site, Up: true, Knows: someDebts()}, epoch, impl.StandNone))
		}
		some := busy
		some.Slots = []impl.Slot{{Epoch: 1, Stand: impl.StandOwns}, {}, {Epoch: impl.StampMax, Stand: impl.StandLeaving}}
		some.Vers, some.Waits, some.Owes = notOfSlot(busy.Vers, 1), notOfSlot(busy.Waits, 1), busy.Owes[:2]
		list = append(list, some)
	}
	for _, s := range slices.Clone(list) {
		list = append(list, fallen(s))
	}
	return list
}

// notOfSlot is all versions but those of a slot, told by their keys.
func notOfSlot(list []impl.Ver, slot int) []impl.Ver {
	return slices.DeleteFunc(slices.Clone(list), func(v impl.Ver) bool { return v.Key/2 == slot })
}

func ofSlot(list []impl.Ver, slot int) []impl.Ver {
	return slices.DeleteFunc(slices.Clone(list), func(v impl.Ver) bool { return v.Key/2 != slot })
}

func sameServer(a impl.Server, b impl.Server) bool {
	return a.Site == b.Site && a.Up == b.Up && slices.Equal(a.Slots, b.Slots) && sameVers(a.Vers, b.Vers) &&
		sameVers(a.Waits, b.Waits) && slices.Equal(a.Owes, b.Owes) && slices.Equal(a.Knows, b.Knows)
}

func sameWord(a impl.Word, b impl.Word) bool {
	return a.Kind == b.Kind && a.From == b.From && a.To == b.To && a.Call == b.Call && a.Key == b.Key && a.Stamp == b.Stamp &&
		a.Val == b.Val && a.Yes == b.Yes && slices.Equal(a.Deps, b.Deps) && a.Slot == b.Slot && a.Epoch == b.Epoch &&
		sameVers(a.Vers, b.Vers) && sameVers(a.Waits, b.Waits) && slices.Equal(a.Owes, b.Owes)
}

func noServer(s impl.Server) bool {
	return sameServer(s, impl.Server{})
}

func noWord(w impl.Word) bool {
	return sameWord(w, impl.Word{})
}

// anyKeys has all keys, the numbers beside them, and far ones.
func anyKeys() []int {
	return []int{math.MinInt, -2, -1, 0, 1, 2, 3, 4, 5, 6, 7, math.MaxInt}
}

// anySlots has all slots, the numbers beside them, and far ones.
func anySlots() []int {
	return []int{math.MinInt, -2, -1, 0, 1, 2, 3, 4, math.MaxInt}
}

func TestStandNumbersAreFixed(t *testing.T) {
	if impl.StandNone != 0 || impl.StandOwns != 1 || impl.StandLeaving != 2 {
		t.Error(impl.StandNone, impl.StandOwns, impl.StandLeaving)
	}
}

func TestServerAtFirst(t *testing.T) {
	owned, none := impl.Slot{Epoch: 1, Stand: 1}, impl.Slot{}
	for site, slots := range [][]impl.Slot{{owned, none, owned}, {none, owned, none}, {owned, none, owned}, {none, owned, none}} {
		s := impl.ServerStart(site)
		if !sameServer(s, impl.Server{Site: site, Up: true, Slots: slots}) || !impl.ServerOk(s) {
			t.Error(site, s)
		}
	}
	for _, site := range []int{math.MinInt, math.MinInt + 1, -2, -1, 4, 5, 10, 11, math.MaxInt - 1, math.MaxInt} {
		if s := impl.ServerStart(site); !noServer(s) || impl.ServerOk(s) {
			t.Error(site, s)
		}
	}
}

// Promise 28: at first each key's slot is owned by one server of each side.
func TestAtFirstEachSlotHasOneOwnerOfEachSide(t *testing.T) {
	for key := range impl.VerKeys {
		owners := []int{0, 0}
		for site := range impl.Sites {
			if impl.ServerOwns(impl.ServerStart(site), key) {
				owners[site/2]++
			}
		}
		if !slices.Equal(owners, []int{1, 1}) {
			t.Error(key, owners)
		}
	}
}

// Promise 29: who owns a key's slot has it, and does not leave; both keys of a slot are owned, or none.
func TestOwnedSlots(t *testing.T) {
	for _, s := range someServers() {
		for _, key := range anyKeys() {
			want := key >= 0 && key < impl.VerKeys && s.Slots[key/2].Stand == impl.StandOwns
			if impl.ServerOwns(s, key) != want {
				t.Error(s, key)
			}
		}
		for slot := range impl.VerSlots {
			if impl.ServerOwns(s, 2*slot) != impl.ServerOwns(s, 2*slot+1) {
				t.Error(s, slot)
			}
		}
	}
}

// Promise 29: a slot that was let leave is owned no more, all others are as they were.
func TestSlotsThatLeaveAreNotOwned(t *testing.T) {
	for _, s := range someServers() {
		for slot := range impl.VerSlots {
			left, _, ok := impl.ServerMove(s, slot)
			for key := range impl.VerKeys {
				if impl.ServerOwns(left, key) != (impl.ServerOwns(s, key) && (!ok || key/2 != slot)) {
					t.Error(s, slot, key)
				}
			}
		}
	}
}

func TestServersThatAreOk(t *testing.T) {
	for _, s := range someServers() {
		if !impl.ServerOk(s) {
			t.Error(s)
		}
	}
	for _, list := range [][]impl.Dep{nil, {}, someDebts(), longDebts(impl.ChainMax), oneKeyDebts(impl.ChainMax)} {
		s := busyServer(1)
		s.Knows = list
		if !impl.ServerOk(s) {
			t.Error("what it knows may be of any key, and any site", list)
		}
	}
	for _, n := range []int{impl.ChainMax - 1, impl.ChainMax} {
		s := standing(impl.Server{Site: 3, Vers: longChain(n), Owes: longDebts(n)}, 1, impl.StandLeaving)
		if !impl.ServerOk(s) {
			t.Error("versions of any site may be seen, and owed", n)
		}
	}
}

// Each slot, in each way to stand, by each number at the limits.
func TestSlotsAtTheirLimits(t *testing.T) {
	for slot := range impl.VerSlots {
		for _, stand := range []int{math.MinInt, -1, 0, 1, 2, 3, math.MaxInt} {
			for _, epoch := range []int{math.MinInt, -1, 0, 1, impl.StampMax - 1, impl.StampMax, impl.StampMax + 1, math.MaxInt} {
				s := impl.Server{Site: 1, Up: true, Slots: slotsAll(4, impl.StandOwns)}
				s.Slots[slot] = impl.Slot{Epoch: epoch, Stand: stand}
				want := stand >= 0 && stand <= 2 && epoch >= 0 && epoch <= impl.StampMax && (epoch > 0 || stand == impl.StandNone)
				if impl.ServerOk(s) != want || impl.ServerOwns(s, 2*slot) != (want && stand == impl.StandOwns) {
					t.Error(s)
				}
			}
		}
	}
}

// Versions, that can be seen or wait, are of slots that are here, whatever the number by which another one is known.
func TestVersionsOfASlotThatIsNotHere(t *testing.T) {
	for key := range impl.VerKeys {
		for _, gone := range []impl.Slot{{}, {Epoch: 1}, {Epoch: impl.StampMax}} {
			for slot := range impl.VerSlots {
				seen := impl.Server{Site: 0, Up: true, Slots: slotsAll(1, impl.StandOwns), Vers: []impl.Ver{ver(key, 5, 1)}}
				waits := impl.Server{Site: 0, Up: true, Slots: slotsAll(1, impl.StandLeaving), Waits: []impl.Ver{ver(key, 5, 2)}}
				seen.Slots[slot], waits.Slots[slot] = gone, gone
				if impl.ServerOk(seen) != (slot != key/2) || impl.ServerOk(waits) != (slot != key/2) {
					t.Error(key, gone, slot)
				}
			}
		}
	}
}

// What waits has a stamp of the other side, and cannot be seen yet.
func TestWhatMayWait(t *testing.T) {
	for site := range impl.Sites {
		for from := range impl.Sites {
			s := impl.Server{Site: site, Slots: slotsAll(1, impl.StandOwns), Waits: []impl.Ver{ver(2, 5, (site+2)%impl.Sites), ver(4, 5, from)}}
			if impl.ServerOk(s) != (site/2 != from/2) {
				t.Error(site, from)
			}
			s.Waits = slices.Delete(s.Waits, 0, 1)
			if impl.ServerOk(s) != (site/2 != from/2) {
				t.Error(site, from)
			}
		}
	}
	for i, v := range busyServer(2).Waits {
		s := busyServer(2)
		v.Val++
		place, _ := slices.BinarySearchFunc(s.Vers, v, verOrder)
		s.Vers = slices.Insert(s.Vers, place, v)
		if impl.ServerOk(s) {
			t.Error("it waits, and can be seen", i)
		}
		s.Waits = slices.Delete(s.Waits, i, i+1)
		if !impl.ServerOk(s) {
			t.Error(i)
		}
	}
}

// Each debt is of a version that can be seen: just that one, not another one of its key, and none that waits.
func TestWhatMayBeOwed(t *testing.T) {
	busy := busyServer(2)
	for key := range impl.VerKeys {
		for time := 1; time <= 11; time++ {
			for site := range impl.Sites {
				s := busy
				s.Owes = []impl.Dep{dep(key, time, site)}
				if impl.ServerOk(s) != (len(findVers(busy.Vers, key, impl.Stamp{Time: time, Site: site})) == 1) {
					t.Error(key, time, site)
				}
			}
		}
	}
	for i, d := range busy.Owes {
		s := busy
		s.Vers = slices.DeleteFunc(slices.Clone(busy.Vers), func(v impl.Ver) bool { return v.Key == d.Key && v.Stamp == d.Stamp })
		if impl.ServerOk(s) {
			t.Error("that version is not there any more", i)
		}
	}
}

// wrongServers has servers that are not ok, one fault each.
func wrongServers() []impl.Server {
	list := []impl.Server{{}, {Up: true}}
	change := func(changes ...func(s *impl.Server)) {
		for _, f := range changes {
			s := busyServer(2)
			s.Slots, s.Owes, s.Knows = slices.Clone(s.Slots), slices.Clone(s.Owes), slices.Clone(s.Knows)
			f(&s)
			list = append(list, s)
		}
	}
	for _, site := range []int{math.MinInt, -1, 4, 10, math.MaxInt} {
		change(func(s *impl.Server) { s.Site = site })
	}
	for _, n := range []int{0, 1, impl.VerSlots - 1, impl.VerSlots + 1, 50} {
		change(func(s *impl.Server) { s.Slots = slices.Repeat([]impl.Slot{{Epoch: 1, Stand: impl.StandOwns}}, n) })
	}
	for slot := range impl.VerSlots {
		for _, wrong := range []impl.Slot{{Epoch: 1, Stand: -1}, {Epoch: 1, Stand: 3}, {Epoch: -1, Stand: 1}, {Epoch: impl.StampMax + 1, Stand: 1}, {Stand: 1}, {Stand: 2}, {}, {Epoch: 3}} {
			change(func(s *impl.Server) { s.Slots[slot] = wrong })
		}
	}
	change(
		func(s *impl.Server) { s.Site = 0 },
		func(s *impl.Server) { s.Waits = append(s.Waits, ver(5, 20, 2)) },
		func(s *impl.Server) { s.Waits = append(s.Waits, ver(5, 20, 3)) },
		func(s *impl.Server) { s.Waits = slices.Insert(s.Waits, 0, s.Vers[0]) },
		func(s *impl.Server) { s.Vers = append(s.Vers, s.Waits[len(s.Waits)-1]) },
		func(s *impl.Server) { s.Owes = append(s.Owes, dep(5, 6, 2)) },
		func(s *impl.Server) { s.Owes = append(s.Owes, dep(5, 10, 1)) },
		func(s *impl.Server) { s.Owes = append(s.Owes, s.Owes[len(s.Owes)-1]) },
		func(s *impl.Server) { s.Owes[0], s.Owes[1] = s.Owes[1], s.Owes[0] },
		func(s *impl.Server) { s.Knows = append(s.Knows, s.Knows[len(s.Knows)-1]) },
		func(s *impl.Server) { s.Knows[0], s.Knows[1] = s.Knows[1], s.Knows[0] },
		func(s *impl.Server) { s.Up = false },
		func(s *impl.Server) { s.Up, s.Knows = false, s.Knows[:1] },
	)
	for _, wrong := range wrongChains() {
		change(func(s *impl.Server) { *s = impl.Server{Up: true, Slots: slotsAll(1, 1), Vers: wrong} })
		far := slices.Clone(wrong)
		for i := range far {
			far[i].Stamp.Site |= 2
		}
		if !impl.ChainOk(far) {
			change(func(s *impl.Server) { *s = impl.Server{Up: true, Slots: slotsAll(1, 1), Waits: far} })
		}
	}
	for _, wrong := range wrongDebts() {
		change(func(s *impl.Server) { s.Knows = wrong })
		change(func(s *impl.Server) { *s = impl.Server{Slots: slotsAll(1, 1), Vers: someVers(), Owes: wrong} })
	}
	return list
}

// A server that is not ok has one fixed answer at each function.
func TestWrongServersAreRefused(t *testing.T) {
	for i, s := range wrongServers() {
		if impl.ServerOk(s) {
			t.Error(i, s)
		}
		for _, key := range anyKeys() {
			if impl.ServerOwns(s, key) {
				t.Error(i, key, s)
			}
		}
		if !noServer(impl.ServerSettle(s)) || !noServer(impl.ServerFall(s)) || !noServer(impl.ServerRise(s)) {
			t.Error(i, s)
		}
		for _, slot := range anySlots() {
			if left, word, ok := impl.ServerMove(s, slot); !noServer(left) || !noWord(word) || ok {
				t.Error(i, slot, left, word, ok)
			}
		}
	}
}

// leftBy is what a slot that leaves comes to, without the program.
func leftBy(s impl.Server, slot int) (impl.Server, impl.Word, bool) {
	if !s.Up || slot < 0 || slot >= impl.VerSlots || s.Slots[slot].Stand != impl.StandOwns || s.Slots[slot].Epoch == impl.StampMax {
		return s, impl.Word{}, false
	}
	left := s
	left.Slots = slices.Clone(s.Slots)
	left.Slots[slot] = impl.Slot{Epoch: s.Slots[slot].Epoch + 1, Stand: impl.StandLeaving}
	word := impl.Word{
		Kind: impl.WordBulk, From: s.Site, To: otherOf(s.Site), Slot: slot, Epoch: s.Slots[slot].Epoch + 1,
		Vers: ofSlot(s.Vers, slot), Waits: ofSlot(s.Waits, slot),
		Owes: slices.DeleteFunc(slices.Clone(s.Owes), func(d impl.Dep) bool { return d.Key/2 != slot }),
	}
	return left, word, true
}

// Promise 32: a slot leaves by the next number, with all that is of it; the server that it leaves keeps all.
// One that is not owned, is leaving already, has the last number, or is at a server that is not up stays.
func TestSlotsLeave(t *testing.T) {
	moved := 0
	for _, s := range someServers() {
		for _, slot := range anySlots() {
			left, word, ok := impl.ServerMove(s, slot)
			wantLeft, wantWord, want := leftBy(s, slot)
			if ok != want || !sameServer(left, wantLeft) || !sameWord(word, wantWord) {
				t.Error(s, slot, left, word, ok)
			}
			if !impl.ServerOk(left) || impl.WordOk(word) != ok {
				t.Error(s, slot, left, word)
			}
			if ok && len(word.Vers) > 0 && len(word.Waits) > 0 && len(word.Owes) > 0 {
				moved++
			}
		}
	}
	if moved < 20 {
		t.Error("too few that left with something", moved)
	}
}

// Promise 32: a slot that is leaving does not leave once more, and all slots can leave one behind the other.
func TestSlotsLeaveOnce(t *testing.T) {
	for site := range impl.Sites {
		s := standing(busyServer(site), impl.StampMax-1, impl.StandOwns)
		for slot := range impl.VerSlots {
			left, word, ok := impl.ServerMove(s, slot)
			if !ok || word.Epoch != impl.StampMax || left.Slots[slot] != (impl.Slot{Epoch: impl.StampMax, Stand: impl.StandLeaving}) {
				t.Error(site, slot, left, word)
			}
			again, second, ok := impl.ServerMove(left, slot)
			if ok || !noWord(second) || !sameServer(again, left) {
				t.Error(site, slot, again, second)
			}
			s = left
		}
		if !sameServer(s, standing(busyServer(site), impl.StampMax, impl.StandLeaving)) {
			t.Error(site, s)
		}
	}
}

// Promise 32: what leaves with each slot is, together, all that the server has, and nothing that it knows.
func TestParcelsOfAllSlots(t *testing.T) {
	for site := range impl.Sites {
		for _, s := range []impl.Server{standing(busyServer(site), 3, impl.StandOwns), fullServer(site)} {
			var vers, waits []impl.Ver
			var owes []impl.Dep
			for slot := range impl.VerSlots {
				_, word, _ := impl.ServerMove(s, slot)
				vers, waits, owes = append(vers, word.Vers...), append(waits, word.Waits...), append(owes, word.Owes...)
			}
			if !sameVers(vers, s.Vers) || !sameVers(waits, s.Waits) || !slices.Equal(owes, s.Owes) {
				t.Error(s, vers, waits, owes)
			}
		}
	}
}

// Promise 33: a server that falls and rises has all but what it knew of its side.
func TestServersFallAndRise(t *testing.T) {
	for _, s := range someServers() {
		down := impl.ServerFall(s)
		if !sameServer(down, fallen(s)) || !impl.ServerOk(down) || !sameServer(impl.ServerFall(down), down) {
			t.Error(s, down)
		}
		want := fallen(s)
		want.Up = true
		up := impl.ServerRise(down)
		if !sameServer(up, want) || !impl.ServerOk(up) || !sameServer(impl.ServerRise(up), up) {
			t.Error(s, up)
		}
	}
}

// A server that is up rises as it is, with what it knows.
func TestServersThatAreUpRise(t *testing.T) {
	for _, s := range someServers() {
		if s.Up && !sameServer(impl.ServerRise(s), s) {
			t.Error(s)
		}
	}
}

// What a server that is down has of slots is its own still, but it lets none leave.
func TestServersThatAreDown(t *testing.T) {
	for site := range impl.Sites {
		down := impl.ServerFall(busyServer(site))
		for key := range impl.VerKeys {
			if impl.ServerOwns(down, key) != impl.ServerOwns(busyServer(site), key) {
				t.Error(site, key)
			}
		}
		for slot := range impl.VerSlots {
			if left, word, ok := impl.ServerMove(down, slot); ok || !noWord(word) || !sameServer(left, down) {
				t.Error(site, slot, left, word)
			}
		}
	}
}
