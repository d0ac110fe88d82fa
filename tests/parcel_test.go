package tests

import (
	"slices"
	"testing"

	"loop.example/tombolo/impl"
)

// bulkTo is a parcel of a slot for a server, from its twin, with nothing in it.
func bulkTo(s impl.Server, slot int, epoch int) impl.Word {
	return impl.Word{Kind: impl.WordBulk, From: otherOf(s.Site), To: s.Site, Slot: slot, Epoch: epoch}
}

func bulkOkTo(s impl.Server, slot int, epoch int) impl.Word {
	w := bulkTo(s, slot, epoch)
	w.Kind = impl.WordBulkOk
	return w
}

// partOf is all that a server has of a slot.
func partOf(s impl.Server, slot int) impl.Server {
	owes := slices.DeleteFunc(slices.Clone(s.Owes), func(d impl.Dep) bool { return d.Key/2 != slot })
	return impl.Server{Vers: ofSlot(s.Vers, slot), Waits: ofSlot(s.Waits, slot), Owes: owes}
}

// Promise 41: a slot comes only by a greater number than is known, with just what came; else it is said that it has come, and nothing changes.
func TestSlotsCome(t *testing.T) {
	t.Parallel()
	come, refused := 0, 0
	for _, s := range hearServers() {
		for _, w := range bulksFor(s) {
			if w.Kind != impl.WordBulk {
				continue
			}
			x, words := checkHeard(t, s, w)
			known := s.Slots[w.Slot].Epoch
			switch {
			case w.Epoch == 0 || len(words) == 0:
				refused++
				if len(words) > 0 || !sameServer(x, s) || w.Epoch > 0 && w.Epoch <= known {
					t.Error(s, w, x, words)
				}
				continue
			case w.Epoch <= known:
				if !sameServer(x, s) {
					t.Error("it is known by that number, or a greater one", s, w, x)
				}
			default:
				come++
				checkCame(t, s, w, x)
			}
			if !sameWord(words[0], bulkOkTo(impl.Server{Site: w.From}, w.Slot, w.Epoch)) {
				t.Error(w, words)
			}
		}
	}
	if come < 200 || refused < 200 {
		t.Error("too few", come, refused)
	}
}

// checkCame: the slot is owned by that number, has just what came, seen or waiting, and no other slot has another stand.
func checkCame(t *testing.T, s impl.Server, w impl.Word, x impl.Server) {
	t.Helper()
	for slot := range s.Slots {
		if slot == w.Slot && x.Slots[slot] != (impl.Slot{Epoch: w.Epoch, Stand: impl.StandOwns}) || slot != w.Slot && x.Slots[slot] != s.Slots[slot] {
			t.Error(s, w, x.Slots)
		}
	}
	part, sent := partOf(x, w.Slot), partOf(impl.Server{Vers: w.Vers, Waits: w.Waits, Owes: w.Owes}, w.Slot)
	all, want := slices.Concat(part.Vers, part.Waits), slices.Concat(sent.Vers, sent.Waits)
	slices.SortFunc(all, verOrder)
	slices.SortFunc(want, verOrder)
	if !sameVers(all, want) || !slices.Equal(part.Owes, sent.Owes) {
		t.Error("not just what came", s, w, x)
	}
	for _, v := range sent.Vers {
		if !hasName(part.Vers, nameOf(v)) {
			t.Error("it could be seen where it came from", s, w, v)
		}
	}
}

// Promise 41: by each number below, at, and above the one that is known, and by none, however the slot stands.
func TestNumbersOfSlotsThatCome(t *testing.T) {
	for stand := range 3 {
		for _, known := range []int{0, 1, 5, impl.StampMax - 1, impl.StampMax} {
			for _, epoch := range []int{0, 1, 2, 4, 5, 6, impl.StampMax - 1, impl.StampMax} {
				if known == 0 && stand > 0 {
					continue
				}
				s := hearing(3)
				s.Slots[1] = impl.Slot{Epoch: known, Stand: stand}
				if stand > 0 {
					s.Vers = []impl.Ver{came(2, 3, 2)}
				}
				w := bulkTo(s, 1, epoch)
				w.Vers = []impl.Ver{came(3, 4, 3)}
				x, words := checkHeard(t, s, w)
				if (len(words) == 1) != (epoch > 0) || sameServer(x, s) != (epoch <= known) {
					t.Error(stand, known, epoch, x, words)
				}
			}
		}
	}
}

// Promise 41: from the twin alone: neither from the other side, nor from a client, nor from itself.
func TestParcelsOfOthers(t *testing.T) {
	for site := range impl.Sites {
		s := standing(busyServer(site), 4, impl.StandLeaving)
		for _, from := range places() {
			for _, w := range []impl.Word{bulkTo(s, 1, 9), bulkTo(s, 1, 2), bulkOkTo(s, 1, 4)} {
				w.From = from
				x, words := checkHeard(t, s, w)
				if (len(words) > 0 || !sameServer(x, s)) != (from == otherOf(site)) {
					t.Error(site, from, w, words)
				}
			}
		}
	}
}

// A parcel of which more than ChainMax would come, of each list, does nothing; just ChainMax come. What goes with the slot makes room.
func TestParcelsWhereRoomEnds(t *testing.T) {
	n := impl.ChainMax
	seen, waits, owed := hearing(0), hearing(0), hearing(0)
	for i := range n - 3 {
		seen.Vers = append(seen.Vers, came(1, 10+i, 3))
		waits.Waits = append(waits.Waits, came(1, 10+i, 3, dep(0, 9, 3)))
		owed.Vers = append(owed.Vers, came(1, 10+i, 0))
		owed.Owes = append(owed.Owes, dep(1, 10+i, 0))
	}
	for more := 1; more <= 5; more++ {
		var vers, late, debts impl.Word
		for i := range more {
			vers.Vers = append(vers.Vers, came(4, 10+i, 3))
			late.Waits = append(late.Waits, came(4, 10+i, 3, dep(0, 9, 3)))
			debts.Vers, debts.Owes = append(debts.Vers, came(4, 10+i, 0)), append(debts.Owes, dep(4, 10+i, 0))
		}
		for i, c := range []struct {
			s impl.Server
			w impl.Word
		}{{seen, vers}, {waits, late}, {owed, debts}} {
			w := bulkTo(c.s, 2, 7)
			w.Vers, w.Waits, w.Owes = c.w.Vers, c.w.Waits, c.w.Owes
			x, words := checkHeard(t, c.s, w)
			if (len(words) == 1) != (more <= 3) || sameServer(x, c.s) != (more > 3) {
				t.Error(i, more, words)
			}
			w.Slot = 0
			for j := range w.Vers {
				w.Vers[j].Key = 0
			}
			for j := range w.Waits {
				w.Waits[j].Key = 0
			}
			for j := range w.Owes {
				w.Owes[j].Key = 0
			}
			if x, words := checkHeard(t, c.s, w); len(words) != 1 || len(x.Vers)+len(x.Waits) != more {
				t.Error("all that was here of the slot goes", i, more, x)
			}
		}
	}
}

// What would come to more than ChainMax that wait does nothing, though some of it could be seen at once.
func TestParcelsAreCountedAheadOfSettling(t *testing.T) {
	s := hearing(0)
	for i := range impl.ChainMax {
		s.Waits = append(s.Waits, came(1, 10+i, 3, dep(0, 9, 3)))
	}
	w := bulkTo(s, 2, 7)
	w.Waits = []impl.Ver{came(4, 2, 3)}
	checkUnheard(t, s, w)
	one := less(s, 0, impl.ChainMax-1, 0)
	if x, words := checkHeard(t, one, w); len(words) != 1 || !hasName(x.Vers, dep(4, 2, 3)) {
		t.Error(x)
	}
}

// A parcel does nothing, if what came of it were not ok: what waits must be of the other side and not be seen, a debt be of what is seen,
// and all be of slots that are here.
func TestParcelsThatWouldSpoil(t *testing.T) {
	s := hearing(2, came(0, 3, 2), came(2, 4, 3))
	s.Waits, s.Owes = []impl.Ver{came(3, 9, 0, dep(5, 8, 1))}, []impl.Dep{dep(0, 3, 2)}
	s.Slots[2] = impl.Slot{Epoch: 6}
	good := bulkTo(s, 1, 2)
	good.Vers, good.Waits, good.Owes = []impl.Ver{came(2, 5, 2)}, []impl.Ver{came(3, 9, 1, dep(5, 8, 1))}, []impl.Dep{dep(2, 5, 2)}
	if _, words := checkHeard(t, s, good); len(words) != 1 {
		t.Fatal(words)
	}
	for i, change := range []func(w *impl.Word){
		func(w *impl.Word) { w.Waits = []impl.Ver{came(3, 9, 2)} },
		func(w *impl.Word) { w.Waits = []impl.Ver{came(3, 9, 3)} },
		func(w *impl.Word) { w.Vers = append(w.Vers, w.Waits[0]) },
		func(w *impl.Word) { w.Vers = nil },
		func(w *impl.Word) { w.Owes = append(w.Owes, dep(3, 9, 1)) },
		func(w *impl.Word) { w.Vers = append(w.Vers, came(4, 5, 2)) },
		func(w *impl.Word) { w.Waits = append(w.Waits, came(5, 9, 1)) },
		func(w *impl.Word) { w.Waits = []impl.Ver{came(0, 3, 0), came(0, 3, 2)} },
	} {
		w := good
		w.Vers, w.Waits, w.Owes = slices.Clone(good.Vers), slices.Clone(good.Waits), slices.Clone(good.Owes)
		change(&w)
		if !impl.WordOk(w) {
			t.Fatal(i)
		}
		checkUnheard(t, s, w)
	}
}

// What a parcel has of other slots that are here comes, too, as the word says.
func TestParcelsWithThingsOfOtherSlots(t *testing.T) {
	s := hearing(2, came(0, 3, 2))
	w := bulkTo(s, 1, 2)
	w.Vers, w.Waits, w.Owes = []impl.Ver{came(0, 4, 3)}, []impl.Ver{came(5, 9, 1, dep(5, 8, 1))}, []impl.Dep{dep(0, 3, 2), dep(0, 4, 3)}
	if x, words := checkHeard(t, s, w); len(words) != 1 || len(x.Vers) != 2 || len(x.Waits) != 1 || len(x.Owes) != 2 {
		t.Error(x, words)
	}
}

// withThere is a server with a version that can be seen and is owed, and one that waits, and a parcel of another slot with just these.
func withThere() (impl.Server, impl.Word) {
	s := hearing(2, came(0, 3, 2, dep(4, 1, 2)), came(2, 4, 3))
	s.Waits, s.Owes = []impl.Ver{came(1, 9, 0, dep(5, 8, 1))}, []impl.Dep{dep(0, 3, 2)}
	w := bulkTo(s, 1, 2)
	w.Vers, w.Waits, w.Owes = []impl.Ver{came(0, 3, 2, dep(4, 1, 2))}, []impl.Ver{came(1, 9, 0, dep(5, 8, 1))}, []impl.Dep{dep(0, 3, 2)}
	return s, w
}

// Promise 41: what a parcel brings along and is there already, of Vers, of Waits, and of Owes, by itself and together, is there once,
// and the slot comes.
func TestParcelsWithWhatIsThere(t *testing.T) {
	for which := range 8 {
		s, w := withThere()
		want := emptied(s, 1, impl.Slot{Epoch: 2, Stand: impl.StandOwns})
		w.Vers, w.Waits, w.Owes = w.Vers[:which&1], w.Waits[:which>>1&1], w.Owes[:which>>2]
		x, words := checkHeard(t, s, w)
		if !sameServer(x, want) || len(words) != 1 || !sameWord(words[0], bulkOkTo(impl.Server{Site: 3}, 1, 2)) {
			t.Error(which, x, words)
		}
	}
}

// What is there stays as it was, by its key and stamp, though what comes says something else, and stands in its place among what is new.
func TestParcelsDoNotChangeWhatIsThere(t *testing.T) {
	s, w := withThere()
	w.Vers[0].Val, w.Vers[0].Deps = 4711, []impl.Dep{dep(5, 2, 3)}
	w.Waits[0].Val, w.Waits[0].Deps = 4711, []impl.Dep{dep(5, 7, 1)}
	w.Vers = []impl.Ver{came(0, 2, 2), w.Vers[0], came(0, 4, 2), came(3, 6, 3)}
	w.Waits = []impl.Ver{came(1, 8, 0, dep(5, 7, 1)), w.Waits[0], came(3, 9, 0, dep(5, 7, 1))}
	w.Owes = []impl.Dep{dep(0, 2, 2), dep(0, 3, 2), dep(3, 6, 3)}
	x, words := checkHeard(t, s, w)
	if len(words) != 1 || len(x.Vers) != 4 || len(x.Waits) != 3 || !slices.Equal(x.Owes, w.Owes) {
		t.Fatal(x, words)
	}
	if !sameVer(x.Vers[1], s.Vers[0]) || !sameVer(x.Waits[1], s.Waits[0]) {
		t.Error(x)
	}
}

// What comes and is there already is new memory, as all else, and shares none with what the parcel brings.
func TestParcelsWithWhatIsThereAreNewMemory(t *testing.T) {
	hear := func(s impl.Server, w impl.Word) told {
		server, words := impl.ServerHear(s, w)
		return told{server, words}
	}
	for slot := range 2 {
		s, w := withThere()
		w.Slot = slot
		checkMemory(t, s, w, hear)
		checkApart(t, hear(tangled(s), tangledWord(w)))
	}
}

// What is of the slot itself goes, so that it is there as it comes, and not as it was.
func TestParcelsWithWhatGoes(t *testing.T) {
	s, w := withThere()
	w.Slot = 0
	w.Vers[0].Val, w.Waits[0].Val, w.Owes = 4711, 4711, nil
	x, words := checkHeard(t, s, w)
	if len(words) != 1 || !sameVer(x.Vers[0], w.Vers[0]) || !sameVer(x.Waits[0], w.Waits[0]) || len(x.Owes) > 0 {
		t.Error(x, words)
	}
}

// What can be seen here and comes as one that waits, or the other way round, would be both: nothing is done.
func TestParcelsWithWhatIsThereOtherwise(t *testing.T) {
	s := hearing(2, came(0, 3, 0))
	s.Waits = []impl.Ver{came(1, 9, 0, dep(5, 8, 1))}
	seen, waits := bulkTo(s, 1, 2), bulkTo(s, 1, 2)
	seen.Vers, waits.Waits = s.Waits, s.Vers
	checkUnheard(t, s, seen)
	checkUnheard(t, s, waits)
}

// What comes and is there already counts twice, of each list: it comes, if both together are ChainMax, and not, if they are one more.
func TestParcelsWithWhatIsThereWhereRoomEnds(t *testing.T) {
	for more := range 3 {
		seen, waits, owed := hearing(0), hearing(0), hearing(0)
		for i := range impl.ChainMax - 2 + more {
			seen.Vers = append(seen.Vers, came(1, 10+i, 3))
			waits.Waits = append(waits.Waits, came(1, 10+i, 3, dep(0, 9, 3)))
			owed.Vers = append(owed.Vers, came(1, 10+i, 0))
			owed.Owes = append(owed.Owes, dep(1, 10+i, 0))
		}
		for i, s := range []impl.Server{seen, waits, owed} {
			w := bulkTo(s, 2, 7)
			switch i {
			case 0:
				w.Vers = s.Vers[3:4]
			case 1:
				w.Waits = s.Waits[3:4]
			case 2:
				w.Owes = s.Owes[3:4]
			}
			want := emptied(s, 2, impl.Slot{Epoch: 7, Stand: impl.StandOwns})
			if more == 2 {
				want = s
			}
			if x, words := checkHeard(t, s, w); (len(words) == 1) != (more < 2) || !sameServer(x, want) {
				t.Error(i, more, x.Slots, words)
			}
		}
	}
}

// All is settled when a slot comes: what it brings, and what waited here for what it brings; it does not have to be known any more.
func TestParcelsSettle(t *testing.T) {
	s := hearing(0)
	s.Slots[2] = impl.Slot{}
	s.Waits, s.Knows = []impl.Ver{came(0, 9, 2, dep(4, 3, 2)), came(1, 9, 2, dep(5, 8, 2))}, []impl.Dep{dep(3, 1, 1)}
	w := bulkTo(s, 2, 5)
	w.Vers, w.Waits = []impl.Ver{came(4, 3, 2)}, []impl.Ver{came(5, 4, 3, dep(4, 3, 2)), came(5, 7, 3, dep(5, 6, 3))}
	x, _ := checkHeard(t, s, w)
	if !slices.Equal(keysOf(x.Vers), []int{0, 4, 5}) || !slices.Equal(keysOf(x.Waits), []int{1, 5}) || len(x.Knows) > 0 {
		t.Error(x)
	}
	if again, words := checkHeard(t, x, w); !sameServer(again, x) || len(words) != 1 {
		t.Error("twice is once", again)
	}
}

// Promise 42: a slot goes when the other one has it, by that number, and not before.
func TestSlotsGo(t *testing.T) {
	for site := range impl.Sites {
		for stand := range 3 {
			for slot := range impl.VerSlots {
				for _, epoch := range []int{0, 1, 5, 6, 7, impl.StampMax} {
					s := standing(busyServer(site), 6, impl.StandOwns)
					if stand == impl.StandNone {
						s = emptied(s, slot, impl.Slot{Epoch: 6})
					}
					s.Slots[slot].Stand = stand
					checkGone(t, s, slot, epoch)
				}
			}
		}
	}
}

func checkGone(t *testing.T, s impl.Server, slot int, epoch int) {
	t.Helper()
	x, words := checkHeard(t, s, bulkOkTo(s, slot, epoch))
	if len(words) > 0 {
		t.Error(words)
	}
	if s.Slots[slot] != (impl.Slot{Epoch: epoch, Stand: impl.StandLeaving}) {
		if !sameServer(x, s) {
			t.Error("it does not leave by that number", s, epoch, x)
		}
		return
	}
	part := partOf(x, slot)
	if x.Slots[slot] != (impl.Slot{Epoch: epoch}) || len(part.Vers)+len(part.Waits)+len(part.Owes) > 0 {
		t.Error("something of it is there still", slot, x)
	}
	for other := range s.Slots {
		if other != slot && (x.Slots[other] != s.Slots[other] || !slices.Equal(partOf(x, other).Owes, partOf(s, other).Owes)) {
			t.Error("another one has changed", slot, other, x)
		}
	}
	if again, _ := checkHeard(t, x, bulkOkTo(s, slot, epoch)); !sameServer(again, x) {
		t.Error("it goes once", again)
	}
}

// When a slot goes all is settled; what was seen in it is not seen here any more, till the twin says that it has it.
func TestSlotsThatWentAreNotSeen(t *testing.T) {
	s := hearing(2, came(2, 4, 3))
	s.Slots[1] = impl.Slot{Epoch: 3, Stand: impl.StandLeaving}
	s.Waits = []impl.Ver{came(0, 9, 0, dep(2, 4, 3), dep(3, 8, 1)), came(3, 8, 1, dep(5, 1, 0)), came(4, 6, 0)}
	s.Knows = []impl.Dep{dep(5, 1, 0)}
	x, _ := checkHeard(t, s, bulkOkTo(s, 1, 3))
	if !slices.Equal(keysOf(x.Vers), []int{4}) || !slices.Equal(keysOf(x.Waits), []int{0}) || len(x.Knows) > 0 {
		t.Error(x)
	}
	if asked := impl.ServerTend(x); len(asked) != 2 || asked[0].Key != 2 || asked[1].Key != 3 {
		t.Error(asked)
	}
	x, _ = checkHeard(t, x, haveOf(s, dep(2, 4, 3)))
	x, _ = checkHeard(t, x, haveOf(s, dep(3, 8, 1)))
	if !slices.Equal(keysOf(x.Vers), []int{0, 4}) || len(x.Knows) > 0 {
		t.Error(x)
	}
}

// Promise 47: a slot that is handed over is where it was handed to, with all that is in it; told so, the one that it left has nothing of it.
func TestSlotsAreHandedOver(t *testing.T) {
	for site := range impl.Sites {
		for _, s := range []impl.Server{standing(busyServer(site), 3, impl.StandOwns), fullServer(site), impl.ServerStart(site)} {
			for slot := range impl.VerSlots {
				left, parcel, ok := impl.ServerMove(s, slot)
				if !ok {
					continue
				}
				twin := impl.ServerStart(otherOf(site))
				twin, told := checkHeard(t, twin, parcel)
				checkCame(t, impl.ServerStart(otherOf(site)), parcel, twin)
				if !impl.ServerOwns(twin, 2*slot) || len(told) != 1 {
					t.Error(site, slot, twin)
				}
				gone, _ := checkHeard(t, left, told[0])
				part := partOf(gone, slot)
				if gone.Slots[slot].Stand != impl.StandNone || len(part.Vers)+len(part.Waits)+len(part.Owes) > 0 {
					t.Error(site, slot, gone)
				}
			}
		}
	}
}

// Promise 47: till it is told so, the one that it leaves says the parcel again, and hearing it again changes nothing.
func TestSlotsAreHandedOverOnce(t *testing.T) {
	s := standing(busyServer(1), 3, impl.StandOwns)
	left, parcel, _ := impl.ServerMove(s, 0)
	if said := impl.ServerTend(left); len(said) == 0 || !sameWord(said[0], parcel) {
		t.Error(said)
	}
	twin, told := checkHeard(t, impl.ServerStart(0), parcel)
	twin, _ = checkHeard(t, twin, putOf(twin, 0, 20, 1, 77))
	again, said := checkHeard(t, twin, parcel)
	if !sameServer(again, twin) || !sameWords(said, told) {
		t.Error("what was put behind is lost", again)
	}
}

// Promise 49: an old parcel does nothing: not at who it was for, since when the slot has moved on, and not at who had sent it.
func TestOldParcelsDoNothing(t *testing.T) {
	here, there := hearing(0, came(2, 3, 0)), impl.Server{Site: 1, Up: true, Slots: slotsAll(0, impl.StandNone)}
	var parcels []impl.Word
	for i := range 6 {
		left, parcel, _ := impl.ServerMove(here, 1)
		next, told := checkHeard(t, there, parcel)
		gone, _ := checkHeard(t, left, told[0])
		parcels = append(parcels, parcel)
		next, _ = checkHeard(t, next, putOf(next, 0, 10+i, 3, i))
		for _, old := range parcels {
			for _, s := range []impl.Server{next, gone, left} {
				x, words := checkHeard(t, s, old)
				if !sameServer(x, s) || (len(words) == 1) != (old.To == s.Site) {
					t.Error(i, s, old, words)
				}
			}
			for _, s := range []impl.Server{next, gone} {
				ok := bulkOkTo(s, 1, old.Epoch)
				checkUnheard(t, s, ok)
			}
		}
		here, there = next, gone
	}
	if len(here.Vers) != 7 || here.Slots[1] != (impl.Slot{Epoch: 7, Stand: impl.StandOwns}) {
		t.Error(here)
	}
}

// Promise 49: that an old parcel came does not let go a slot that leaves by a newer number.
func TestOldAnswersLetNothingGo(t *testing.T) {
	s := hearing(3, came(2, 3, 3))
	first, _, _ := impl.ServerMove(s, 1)
	back := bulkTo(s, 1, 3)
	back.Vers = []impl.Ver{came(2, 3, 3), came(2, 4, 2)}
	again, _ := checkHeard(t, first, back)
	second, parcel, _ := impl.ServerMove(again, 1)
	if parcel.Epoch != 4 || len(parcel.Vers) != 2 {
		t.Fatal(parcel)
	}
	checkUnheard(t, second, bulkOkTo(s, 1, 2))
	checkUnheard(t, second, bulkOkTo(s, 1, 3))
	if x, _ := checkHeard(t, second, bulkOkTo(s, 1, 4)); len(x.Vers) > 0 || x.Slots[1] != (impl.Slot{Epoch: 4}) {
		t.Error(x)
	}
}
