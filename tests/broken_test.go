package tests

import (
	"slices"
	"testing"

	"loop.example/tombolo/impl"
)

// checkBroken: that is amiss in the world, and nothing else, whoever is called what; nothing at all, if there is no flaw.
func checkBroken(t *testing.T, w impl.Neck, want ...string) {
	t.Helper()
	for _, m := range everyone() {
		x := m.neck(w)
		if !neckOkBy(x) || !slices.Equal(safeFlawsBy(x), want) {
			t.Fatalf("the test does not break just that: %d %v %v %+v", m, safeFlawsBy(x), neckOkBy(x), x)
		}
		if got := checkLooks(t, x); got.safe != (len(want) == 0) {
			t.Fatal(m, want, x)
		}
	}
}

// checkBreaks asks so of each change of the world that is safe.
func checkBreaks(t *testing.T, flaw string, changes ...neckChange) {
	t.Helper()
	for i, change := range changes {
		t.Log(i)
		checkBroken(t, change.of(safeNeck()), flaw)
	}
}

// checkStaysSafe: none of the changes spoils the world that is safe.
func checkStaysSafe(t *testing.T, changes ...neckChange) {
	t.Helper()
	for i, change := range changes {
		t.Log(i)
		checkBroken(t, change.of(safeNeck()))
	}
}

// verChange makes another version of one.
type verChange func(v *impl.Ver)

// at changes the version of that key and stamp at these sites, be it seen there or waiting.
func (change verChange) at(d impl.Dep, sites ...int) neckChange {
	turned := func(v impl.Ver) impl.Ver {
		if nameOf(v) == d {
			change(&v)
		}
		return v
	}
	return func(w *impl.Neck) {
		for _, site := range sites {
			s := &w.Servers[site]
			s.Vers, s.Waits = made(s.Vers, turned), made(s.Waits, turned)
		}
	}
}

// cameOf has a version come of one more, or of another one of that key, too.
func cameOf(d impl.Dep) verChange {
	return func(v *impl.Ver) {
		others := slices.DeleteFunc(slices.Clone(v.Deps), func(e impl.Dep) bool { return e.Key == d.Key })
		v.Deps = depInPlace(others, d)
	}
}

// cameOfNo has a version come of none of that key.
func cameOfNo(key int) verChange {
	return func(v *impl.Ver) {
		v.Deps = slices.DeleteFunc(slices.Clone(v.Deps), func(e impl.Dep) bool { return e.Key == key })
	}
}

func valued(val int) verChange {
	return func(v *impl.Ver) { v.Val = val }
}

func madeIn(client int, call int) verChange {
	return func(v *impl.Ver) { v.Client, v.Call = client, call }
}

// added puts a version in its place at these sites.
func added(v impl.Ver, sites ...int) neckChange {
	return func(w *impl.Neck) {
		for _, site := range sites {
			w.Servers[site].Vers = inPlace(w.Servers[site].Vers, v)
		}
	}
}

// waiting has a version wait at a site.
func waiting(v impl.Ver, site int) neckChange {
	return func(w *impl.Neck) { w.Servers[site].Waits = inPlace(w.Servers[site].Waits, v) }
}

// and is one change, and then others.
func (change neckChange) and(others ...neckChange) neckChange {
	return func(w *impl.Neck) {
		change(w)
		for _, other := range others {
			other(w)
		}
	}
}

// A dep of a version that is not among its side's versions: nowhere, of a time, or a site, that none of that key is of, on the other side alone,
// or waiting alone. What one server's versions came of may be at the other one.
func TestSafeVersionsHaveWhatTheyCameOf(t *testing.T) {
	first, second, third, fourth, fifth, last := nameOf(firstOf()), nameOf(secondOf()), nameOf(thirdOf()), nameOf(fourthOf()), nameOf(fifthOf()), nameOf(lastOf())
	checkBreaks(t, depGone,
		cameOf(dep(1, 1, 0)).at(fifth, 1), cameOf(dep(1, 1, 3)).at(fifth, 1), cameOf(dep(2, 4, 1)).at(fifth, 1), cameOf(dep(2, 2, 0)).at(fifth, 1), cameOf(dep(0, 3, 0)).at(fifth, 1),
		cameOf(dep(0, 4, 1)).at(fifth, 1), cameOf(dep(0, 1, 2)).at(fourth, 0, 2), cameOf(dep(3, 3, 3)).at(fourth, 0, 2), cameOf(dep(0, 4, 0)).at(last, 3, 1),
		cameOf(dep(2, 5, 1)).at(last, 3, 1), cameOf(dep(1, 1, 1)).at(second, 0, 1, 2, 3), cameOf(dep(5, 2, 2)).at(third, 0, 1, 2), cameOf(dep(0, 1, 1)).at(second, 0, 1, 2, 3),
		added(wrote(dep(1, 9, 1), 0, 90, dep(3, 7, 3)), 0), added(wrote(dep(1, 9, 0), 0, 90, dep(1, 8, 0)), 0), added(wrote(dep(4, 9, 0), 0, 90, dep(5, 6, 2)), 1),
		added(wrote(dep(1, 9, 0), 0, 90, dep(0, 4, 0), dep(1, 8, 1), dep(2, 5, 1)), 0),
	)
	checkStaysSafe(t,
		added(wrote(dep(1, 9, 0), 0, 90, dep(0, 4, 0), dep(2, 5, 1), dep(4, 3, 2)), 0), added(wrote(dep(2, 9, 0), 0, 90, dep(0, 1, 0)), 1), cameOf(dep(0, 1, 0)).at(fifth, 1),
		cameOfNo(0).at(fifth, 1), cameOfNo(2).at(fourth, 0, 2), cameOf(first).at(third, 0, 1, 2), added(wrote(dep(1, 9, 1), 0, 90), 0),
	)
}

// Two versions of one Client and Call, of one key or of two, at one server or at both; not two of one Call of two clients, or of two Calls of one.
func TestSafeVersionsAreOfOneCallEach(t *testing.T) {
	checkBreaks(t, madeTwice,
		added(wrote(dep(0, 9, 0), 0, 1), 0), added(wrote(dep(1, 9, 0), 0, 1), 0), added(wrote(dep(0, 9, 1), 0, 2), 0), added(wrote(dep(1, 1, 0), 0, 4), 0), added(wrote(dep(2, 9, 1), 0, 1), 1),
		added(wrote(dep(3, 9, 0), 0, 5), 1), added(wrote(dep(5, 9, 0), 0, 5), 0), added(wrote(dep(0, 9, 0), 1, 1), 0), added(wrote(dep(3, 9, 1), 1, 1), 1),
		added(wrote(dep(1, 9, 0), 0, 70), 0).and(added(wrote(dep(3, 9, 1), 0, 70), 1)), added(wrote(dep(1, 9, 0), 0, 70), 0).and(added(wrote(dep(1, 10, 0), 0, 70), 0)),
		added(wrote(dep(1, 9, 0), 1, 99), 0, 2).and(added(wrote(dep(5, 10, 0), 1, 99), 0, 1, 2)), madeIn(0, 4).at(nameOf(fifthOf()), 1),
	)
	checkStaysSafe(t,
		added(wrote(dep(0, 9, 0), 0, 3), 0), added(wrote(dep(0, 9, 0), 1, 2), 0), added(wrote(dep(0, 9, 0), 1, 5), 0), added(wrote(dep(0, 9, 0), 0, 70), 0).and(added(wrote(dep(0, 10, 0), 1, 70), 0)),
		added(wrote(dep(0, 9, 0), 0, 70), 0).and(added(wrote(dep(0, 9, 2), 0, 70), 2)), added(wrote(dep(4, 9, 0), 0, 70), 0, 1), madeIn(1, 3).at(nameOf(fifthOf()), 1),
	)
}

// A version that both sides have, unlike in its Val, its Client, its Call or its Deps. Of two servers of one side the first one's counts.
func TestSafeVersionsAreAlikeOnBothSides(t *testing.T) {
	third, more := nameOf(thirdOf()), wrote(dep(1, 9, 0), 0, 60, dep(0, 1, 0))
	there := added(more, 0, 2)
	checkStaysSafe(t, there)
	checkBreaks(t, unlike,
		valued(102).at(third, 0, 1), valued(0).at(third, 0, 1), valued(impl.VerMaxVal).at(third, 0, 1), madeIn(1, 60).at(third, 0, 1), cameOf(dep(0, 1, 0)).at(third, 0, 1),
		madeIn(0, 60).at(third, 0, 1), cameOfNo(0).at(nameOf(secondOf()), 2, 3), cameOfNo(0).at(nameOf(secondOf()), 1), cameOf(dep(2, 2, 1)).at(third, 0, 1),
		there.and(valued(61).at(nameOf(more), 0)), there.and(valued(61).at(nameOf(more), 2)), there.and(madeIn(1, 60).at(nameOf(more), 2)), there.and(madeIn(1, 60).at(nameOf(more), 0)),
		there.and(madeIn(0, 61).at(nameOf(more), 2)), there.and(madeIn(0, 61).at(nameOf(more), 0)), there.and(cameOfNo(0).at(nameOf(more), 2)),
		there.and(cameOf(third).at(nameOf(more), 2)), there.and(cameOf(dep(2, 2, 1)).at(nameOf(more), 0)),
	)
	for _, change := range []verChange{valued(1), madeIn(1, 70), cameOf(dep(0, 1, 0)), cameOf(dep(1, 1, 1))} {
		w := change.at(third, 1).of(safeNeck())
		if got := checkLooks(t, w); !got.safe {
			t.Error("it stands behind the first server's", w)
		}
		for _, x := range []impl.Neck{as(1).neck(w), as(3).neck(w), change.at(third, 0).of(safeNeck())} {
			if got := checkLooks(t, x); got.safe {
				t.Error("it stands ahead of the second server's", x)
			}
		}
	}
}

// A version that the other side does not have, of a site of that side; one of either site of its own side may be there alone.
func TestSafeVersionsThatOneSideHasAreItsOwn(t *testing.T) {
	var breaks, fine []neckChange
	for site := range impl.Sites {
		for _, key := range []int{0, 1, 4, 5} {
			change := added(wrote(dep(key, 9, site), 1, 70), 0)
			if site < 2 {
				fine = append(fine, change, change.and(waiting(wrote(dep(key, 9, site), 1, 70), 2)))
			} else {
				breaks = append(breaks, change)
				fine = append(fine, change.and(added(wrote(dep(key, 9, site), 1, 70), 2)))
			}
		}
		change := added(wrote(dep(3, 9, site), 0, 70), 1)
		if site < 2 {
			fine = append(fine, change)
		} else {
			breaks = append(breaks, change)
			fine = append(fine, change.and(added(wrote(dep(3, 9, site), 0, 70), 2)), change.and(added(wrote(dep(3, 9, site), 0, 70), 3)))
		}
	}
	checkBreaks(t, foreign, breaks...)
	checkStaysSafe(t, fine...)
	gone := func(w *impl.Neck) {
		s := &w.Servers[2]
		s.Vers = slices.DeleteFunc(slices.Clone(s.Vers), func(v impl.Ver) bool { return nameOf(v) == dep(4, 3, 2) })
	}
	x := neckChange(gone).of(safeNeck())
	if checkLooks(t, x).safe || !slices.Contains(safeFlawsBy(x), foreign) {
		t.Error(x)
	}
}

// slotted is the world with a slot standing so at the first side's servers, nothing being in it.
func slotted(slot int, first impl.Slot, second impl.Slot) neckChange {
	return func(w *impl.Neck) {
		for site, stands := range []impl.Slot{first, second} {
			w.Servers[site].Slots = slices.Clone(w.Servers[site].Slots)
			w.Servers[site].Slots[slot] = stands
		}
	}
}

// Each way in which a slot may stand at both servers of a side: by the numbers 0 to 3, and at their limits.
func TestSafeSlotsEachWay(t *testing.T) {
	var stands []impl.Slot
	for _, epoch := range []int{0, 1, 2, 3, impl.StampMax - 1, impl.StampMax} {
		for stand := impl.StandNone; stand <= impl.StandLeaving; stand++ {
			if epoch > 0 || stand == impl.StandNone {
				stands = append(stands, impl.Slot{Epoch: epoch, Stand: stand})
			}
		}
	}
	fine := 0
	for _, first := range stands {
		for _, second := range stands {
			for slot := range impl.VerSlots {
				w := slotted(slot, first, second).of(impl.NeckStart())
				if slotKeptBy(first, second) {
					fine++
					checkBroken(t, w)
				} else {
					checkBroken(t, w, slotAmiss)
				}
			}
		}
	}
	if fine != slotWaysThatAreFine*impl.VerSlots {
		t.Error(fine)
	}
}

// slotWaysThatAreFine is how many of these ways there are, counted by hand: owned by one at one of six numbers but 0, the other one having
// none of it by one of as many numbers, or fewer, or leaving it by just that number; or leaving at one, the other one leaving it,
// or having none of it, by a lesser number.
const slotWaysThatAreFine = 2*(2+3+4+5+6+5) + 2*(1+2+3+4+5) + 2*(0+1+2+3+4)

// What the document says of slots, case by case: which server of the side it is does not matter.
func TestSafeSlots(t *testing.T) {
	none, owns, leaving := impl.StandNone, impl.StandOwns, impl.StandLeaving
	for _, c := range []struct {
		first  impl.Slot
		second impl.Slot
		want   bool
	}{
		{impl.Slot{Epoch: 2, Stand: owns}, impl.Slot{}, true},
		{impl.Slot{Epoch: 2, Stand: owns}, impl.Slot{Epoch: 1, Stand: none}, true},
		{impl.Slot{Epoch: 2, Stand: owns}, impl.Slot{Epoch: 2, Stand: none}, true},
		{impl.Slot{Epoch: 2, Stand: owns}, impl.Slot{Epoch: 3, Stand: none}, false},
		{impl.Slot{Epoch: 2, Stand: owns}, impl.Slot{Epoch: 1, Stand: leaving}, false},
		{impl.Slot{Epoch: 2, Stand: owns}, impl.Slot{Epoch: 2, Stand: leaving}, true},
		{impl.Slot{Epoch: 2, Stand: owns}, impl.Slot{Epoch: 3, Stand: leaving}, false},
		{impl.Slot{Epoch: 2, Stand: owns}, impl.Slot{Epoch: 1, Stand: owns}, false},
		{impl.Slot{Epoch: 2, Stand: owns}, impl.Slot{Epoch: 2, Stand: owns}, false},
		{impl.Slot{Epoch: 2, Stand: owns}, impl.Slot{Epoch: 3, Stand: owns}, false},
		{impl.Slot{}, impl.Slot{}, false},
		{impl.Slot{Epoch: 2, Stand: none}, impl.Slot{Epoch: 1, Stand: none}, false},
		{impl.Slot{Epoch: 2, Stand: leaving}, impl.Slot{}, true},
		{impl.Slot{Epoch: 2, Stand: leaving}, impl.Slot{Epoch: 1, Stand: none}, true},
		{impl.Slot{Epoch: 2, Stand: leaving}, impl.Slot{Epoch: 2, Stand: none}, false},
		{impl.Slot{Epoch: 2, Stand: leaving}, impl.Slot{Epoch: 3, Stand: none}, false},
		{impl.Slot{Epoch: 2, Stand: leaving}, impl.Slot{Epoch: 1, Stand: leaving}, true},
		{impl.Slot{Epoch: 2, Stand: leaving}, impl.Slot{Epoch: 2, Stand: leaving}, false},
		{impl.Slot{Epoch: 2, Stand: leaving}, impl.Slot{Epoch: 3, Stand: leaving}, true},
	} {
		for slot := range impl.VerSlots {
			for _, change := range []neckChange{slotted(slot, c.first, c.second), slotted(slot, c.second, c.first)} {
				w := change.of(impl.NeckStart())
				if c.want {
					checkBroken(t, w)
				} else {
					checkBroken(t, w, slotAmiss)
				}
			}
		}
	}
}

// callAt changes the call at a place.
func callAt(place int, change callChange) neckChange {
	return func(w *impl.Neck) { w.Calls[place] = change.of(w.Calls[place]) }
}

// A put that its client has an End of, and whose Key, Stamp, Val, Client or Call is not that of a version of its side; one that has none,
// or that was given up, and what the other client put, need not be there.
func TestSafePutsAreThere(t *testing.T) {
	fourth, last := nameOf(fourthOf()), nameOf(lastOf())
	stamped := func(time int, site int) callChange {
		return func(c *impl.Call) { c.Stamp = impl.Stamp{Time: time, Site: site} }
	}
	noVal, otherKey := func(c *impl.Call) { c.Val = 0 }, func(c *impl.Call) { c.Keys = []int{1} }
	checkBreaks(t, putGone,
		callAt(5, stamped(4, 1)), callAt(5, stamped(4, 2)), callAt(5, stamped(3, 0)), callAt(5, stamped(5, 0)), callAt(5, stamped(1, 0)), callAt(5, stamped(9999, 3)),
		callAt(5, noVal), callAt(5, func(c *impl.Call) { c.Val++ }), callAt(5, otherKey), callAt(0, noVal), callAt(0, otherKey), callAt(1, noVal), callAt(2, otherKey),
		callAt(6, noVal), callAt(8, stamped(7, 2)), callAt(8, otherKey), callAt(1, stamped(3, 3)), callAt(0, func(c *impl.Call) { c.Keys = []int{2} }),
		valued(5).at(fourth, 0, 2), madeIn(0, 70).at(fourth, 0, 2), madeIn(1, 4).at(fourth, 0, 2), madeIn(1, 70).at(fourth, 0, 2), valued(5).at(last, 1, 3),
		madeIn(1, 70).at(last, 1, 3), madeIn(0, 4).at(last, 1, 3),
	)
	checkStaysSafe(t,
		callAt(7, noVal), callAt(7, otherKey), valued(5).at(nameOf(fifthOf()), 1), madeIn(1, 70).at(nameOf(fifthOf()), 1),
		callAt(7, func(c *impl.Call) { c.Keys, c.Val, c.Ctx = []int{5}, 9999, nil }), func(w *impl.Neck) { w.Calls = nil }, func(w *impl.Neck) { w.Calls = w.Calls[:5] },
		func(w *impl.Neck) {
			w.Calls = append(w.Calls, impl.Call{Client: 0, Num: 7, Kind: 1, Keys: []int{1}, Begin: 37})
		},
		callAt(9, func(c *impl.Call) { c.Got = []impl.Answer{yes(came(0, 9, 3)), none(1), yes(came(2, 9, 3))} }), callAt(5, func(c *impl.Call) { c.Ctx = fullDeps() }),
	)
}

// What a client has seen and its side's versions do not have: nowhere, of another time or site, or on the other side alone; it may have seen less.
func TestSafeSeenIsThere(t *testing.T) {
	seen := func(d impl.Dep) neckChange {
		return func(w *impl.Neck) {
			w.Seen[0] = depInPlace(slices.DeleteFunc(slices.Clone(w.Seen[0]), func(e impl.Dep) bool { return e.Key == d.Key }), d)
		}
	}
	checkBreaks(t, seenGone,
		seen(dep(1, 1, 0)), seen(dep(0, 3, 0)), seen(dep(0, 5, 0)), seen(dep(0, 4, 1)), seen(dep(0, 4, 2)), seen(dep(2, 2, 0)), seen(dep(3, 7, 3)), seen(dep(5, 6, 2)), seen(dep(4, 9999, 2)),
		seen(dep(5, 9999, 0)), func(w *impl.Neck) { w.Seen[1] = []impl.Dep{dep(2, 5, 1)} }, func(w *impl.Neck) { w.Seen[1] = []impl.Dep{dep(0, 4, 0)} },
		func(w *impl.Neck) { w.Seen[1] = []impl.Dep{dep(0, 1, 0), dep(2, 2, 1), dep(3, 7, 3), dep(4, 3, 3)} }, func(w *impl.Neck) { w.Seen = [][]impl.Dep{w.Seen[1], w.Seen[0]} },
	)
	checkStaysSafe(t,
		seen(dep(0, 1, 0)), seen(dep(2, 2, 1)), func(w *impl.Neck) { w.Seen = [][]impl.Dep{{}, nil} }, func(w *impl.Neck) { w.Seen[0] = w.Seen[0][1:] },
		func(w *impl.Neck) {
			w.Seen[1] = []impl.Dep{dep(0, 1, 0), dep(2, 2, 1), dep(3, 7, 3), dep(4, 3, 2), dep(5, 6, 2)}
		},
		added(wrote(dep(1, 9, 1), 0, 70), 0).and(seen(dep(1, 9, 1))), func(w *impl.Neck) { w.Seen[1] = []impl.Dep{dep(4, 3, 2)} },
	)
}

// A wait that the other side does not have, or has otherwise: in its Val, its Client, its Call or its Deps. What waits twice may.
func TestSafeWaitsAreOnTheOtherSide(t *testing.T) {
	fourth, sixth, last := nameOf(fourthOf()), nameOf(sixthOf()), nameOf(lastOf())
	breaks := []neckChange{
		waiting(wrote(dep(0, 9, 0), 0, 70), 2), waiting(wrote(dep(0, 4, 1), 0, 4), 2), waiting(wrote(dep(0, 5, 0), 0, 4), 2), waiting(wrote(dep(1, 4, 0), 0, 4), 2),
		waiting(wrote(dep(2, 9, 1), 1, 99), 3), waiting(wrote(dep(3, 1, 1), 0, 1), 3), waiting(wrote(dep(0, 1, 2), 0, 1), 0), waiting(wrote(dep(5, 6, 3), 1, 3), 0),
		waiting(wrote(dep(5, 7, 2), 1, 3), 0), waiting(wrote(dep(2, 9, 2), 1, 70), 1),
	}
	for _, d := range []impl.Dep{fourth, sixth, last} {
		for _, change := range []verChange{valued(77), madeIn(0, 77), madeIn(1, 77), cameOf(dep(1, 1, 0)), cameOfNo(2), cameOfNo(4)} {
			site := map[impl.Dep]int{fourth: 2, sixth: 1, last: 1}[d]
			breaks = append(breaks, change.at(d, site))
		}
		breaks = append(breaks, madeIn(1-d.Stamp.Site/2, 4).at(d, map[impl.Dep]int{fourth: 2, sixth: 1, last: 1}[d]))
	}
	checkBreaks(t, waitGone, breaks...)
	checkStaysSafe(t,
		waiting(sixthOf(), 0), waiting(fifthOf(), 3), waiting(fifthOf(), 2), waiting(fifthOf(), 2).and(waiting(fifthOf(), 3)), func(w *impl.Neck) { w.Servers[1].Waits = nil },
		added(wrote(dep(1, 9, 1), 1, 70), 0).and(waiting(wrote(dep(1, 9, 1), 1, 70), 2)),
	)
}

// Words, the time, what is owed and known, and who is up have no part in it.
func TestSafeWhateverIsUnderWay(t *testing.T) {
	checkStaysSafe(t,
		func(w *impl.Neck) { w.Radio = nil }, func(w *impl.Neck) { w.Radio = busyNeck().Radio }, func(w *impl.Neck) { w.Radio = filler(60) }, func(w *impl.Neck) { w.Time = impl.NeckMaxTime },
		func(w *impl.Neck) { w.Servers = made(w.Servers, fallen) }, func(w *impl.Neck) { w.Servers[3] = impl.ServerRise(w.Servers[3]) },
		func(w *impl.Neck) {
			w.Servers = made(w.Servers, func(s impl.Server) impl.Server {
				s.Owes = nil
				return s
			})
		},
		func(w *impl.Neck) {
			w.Servers = made(w.Servers, func(s impl.Server) impl.Server {
				s.Up, s.Knows = true, longDebts(80)
				return s
			})
		},
	)
}
