package tests

import (
	"slices"
	"testing"

	"loop.example/tombolo/impl"
)

// checkCallFlaws: that is amiss with the world's calls, and nothing else, whichever client is which; nothing at all, if there is no flaw.
func checkCallFlaws(t *testing.T, w impl.Neck, want ...string) {
	t.Helper()
	for _, x := range []impl.Neck{w, otherClients(w)} {
		if !neckOkBy(x) || !slices.Equal(callFlawsBy(x), want) {
			t.Fatalf("the test does not break just that: %v %v %+v", callFlawsBy(x), neckOkBy(x), x)
		}
		if got := checkLooks(t, x); got.calls != (len(want) == 0) {
			t.Fatal(want, x)
		}
	}
}

// otherClients is the world in which each client made the other one's calls.
func otherClients(w impl.Neck) impl.Neck {
	w.Calls = made(w.Calls, func(c impl.Call) impl.Call {
		c.Client = 1 - c.Client
		return c
	})
	w.Seen = [][]impl.Dep{w.Seen[1], w.Seen[0]}
	return w
}

// checkReads asks of each read, as the only call of a world, as the first and as the last of several; each call begins where the one ahead ended.
func checkReads(t *testing.T, reads []impl.Call, want ...string) {
	t.Helper()
	for i, c := range reads {
		t.Log(i)
		checkCallFlaws(t, readIn(calledNeck(99), c), want...)
		checkCallFlaws(t, readIn(calledNeck(99, over(callOf(0, 1, 1)), endedAt(callOf(1, 1, 2), 5)), c), want...)
		x := readIn(calledNeck(99, endedAt(callOf(1, 1, 2), 4)), c)
		last := putAt(wrote(dep(2, 60, 1), 0, 2), 81, 90)
		x.Calls = append(x.Calls, callOf(1, 2, 80), last)
		checkCallFlaws(t, chained(x), want...)
	}
}

// readIn is the world with a read of the first client behind its calls, which may have seen whatever it says.
func readIn(w impl.Neck, c impl.Call) impl.Neck {
	c.Num = 1
	for _, other := range w.Calls {
		if other.Client == c.Client {
			c.Num++
		}
	}
	w = chained(w)
	w.Calls = append(w.Calls, c)
	for place, other := range w.Calls[:len(w.Calls)-1] {
		if other.Client == c.Client && other.Num == c.Num-1 {
			w.Calls[place].Ctx = c.Ctx
		}
	}
	return chainedFrom(w, len(w.Calls)-1)
}

// seeing is a call whose client had seen that when it began.
func seeing(c impl.Call, ctx ...impl.Dep) impl.Call {
	c.Ctx = ctx
	return c
}

// reading is a read of the first client that has ended with these answers.
func reading(got ...impl.Answer) impl.Call {
	return readAt(0, 1, 20, 30, got...)
}

// An answer that is older than what the deps of another answer say of its key, by its time or its site, or that there is none:
// of two keys and of three, whichever of them it is.
func TestAnswersOlderThanWhatOthersCameOf(t *testing.T) {
	var older, fine []impl.Call
	for _, keys := range [][]int{{0, 1}, {0, 5}, {2, 3}, {0, 1, 2}, {1, 3, 5}, {0, 4, 5}} {
		for i, behind := range keys {
			for j, other := range keys {
				if i == j {
					continue
				}
				var got, none0 []impl.Answer
				for _, key := range keys {
					got, none0 = append(got, yes(came(key, 5, 1))), append(none0, none(key))
				}
				turned := func(list []impl.Answer, deps ...impl.Dep) impl.Call {
					list = slices.Clone(list)
					list[j] = yes(came(other, 50, 2, deps...))
					return reading(list...)
				}
				older = append(older, turned(got, dep(behind, 6, 0)), turned(got, dep(behind, 5, 2)), turned(got, dep(behind, 49, 3)), turned(none0, dep(behind, 1, 0)),
					turned(none0, dep(behind, 49, 3)))
				fine = append(fine, turned(got, dep(behind, 5, 1)), turned(got, dep(behind, 5, 0)), turned(got, dep(behind, 4, 3)), turned(got, dep(other, 49, 3)), turned(none0, dep(other, 49, 3)),
					turned(got), turned(none0))
			}
		}
	}
	checkReads(t, older, readOlder)
	checkReads(t, fine)
}

// An answer that is older than what its client had seen of its key when it began, or that there is none where it had seen one.
func TestAnswersOlderThanWhatWasSeen(t *testing.T) {
	one, two := yes(came(1, 5, 1)), yes(came(3, 7, 2, dep(1, 4, 0), dep(3, 6, 0)))
	checkReads(t, []impl.Call{
		seeing(reading(one), dep(1, 6, 0)), seeing(reading(one), dep(1, 5, 2)), seeing(reading(one), dep(0, 1, 0), dep(1, 9999, 3), dep(2, 1, 0)), seeing(reading(none(1)), dep(1, 1, 0)),
		seeing(reading(one, two), dep(1, 6, 0)), seeing(reading(one, two), dep(3, 7, 3)), seeing(reading(one, two), dep(1, 5, 1), dep(3, 8, 0)), seeing(reading(none(1), two), dep(1, 1, 0)),
		seeing(reading(one, none(3)), dep(3, 1, 0)), seeing(reading(none(0), one, two), dep(0, 1, 0)), seeing(reading(none(0), none(1), none(2)), dep(2, 1, 0)), reading(none(1), two),
		seeing(reading(none(0), one, two), fullDeps()...),
	}, readOlder)
	checkReads(t, []impl.Call{
		reading(one), reading(none(1)), reading(one, two), reading(none(0), one, two), seeing(reading(one), dep(1, 5, 1)), seeing(reading(one), dep(1, 5, 0)), seeing(reading(one), dep(1, 4, 3)),
		seeing(reading(one), dep(0, 9999, 3), dep(2, 9999, 3), dep(5, 9, 0)), seeing(reading(none(1)), dep(0, 9, 0), dep(2, 9, 0)), seeing(reading(one, two), dep(1, 5, 1), dep(3, 7, 2)),
		seeing(reading(none(0), one, two), dep(1, 5, 1), dep(2, 99, 2), dep(3, 7, 1), dep(5, 99, 1)), seeing(reading(one, none(3)), dep(1, 2, 0)),
	})
}

// A read that waits still, or was given up, may have what would not fit together, and a put has no answers: its stamp may be any.
func TestAnswersOfCallsThatHaveNotEnded(t *testing.T) {
	one, two := yes(came(1, 5, 1)), yes(came(3, 7, 2, dep(1, 6, 0)))
	open := func(c impl.Call) impl.Call {
		c.End = 0
		return c
	}
	bad := seeing(reading(one, two), dep(1, 6, 0), dep(3, 99, 0))
	put := putAt(came(1, 5, 1), 20, 30)
	put.Client = 0
	checkReads(t, []impl.Call{bad}, readOlder)
	checkCallFlaws(t, readIn(calledNeck(99), open(bad)))
	checkCallFlaws(t, readIn(calledNeck(99), needs(open(bad), dep(1, 6, 0))))
	checkReads(t, []impl.Call{over(open(bad)), over(needs(open(bad), dep(1, 6, 0))), seeing(put, dep(1, 9, 0), dep(3, 99, 0)), seeing(put, dep(1, 4, 0))})
}

// A call whose CallSaw is not the Ctx of its client's next call, whichever of its calls it is, one that has ended or was given up:
// it saw more, less, something newer, or something older.
func TestCallsBeginWhereTheLastOneEnded(t *testing.T) {
	t.Parallel()
	for _, w := range []impl.Neck{safeNeck(), chained(busyNeck()), chained(fullNeck())} {
		for place, c := range w.Calls {
			if c.Num == 1 {
				continue
			}
			for _, change := range otherSeen(c.Ctx) {
				x := neckChange(func(x *impl.Neck) { x.Calls[place].Ctx = change }).of(chained(w))
				x = chainedFrom(x, place)
				if !slices.Contains(callFlawsBy(x), sawOther) {
					t.Fatal("the test does not break that", place, change)
				}
				if checkLooks(t, x).calls || checkLooks(t, otherClients(x)).calls {
					t.Fatal(place, x)
				}
			}
		}
	}
}

// otherSeen has deps that are not these: with one more, with one less, with one newer, and with one older, of each key; and none.
func otherSeen(deps []impl.Dep) [][]impl.Dep {
	var list [][]impl.Dep
	for key := range impl.VerKeys {
		others := slices.DeleteFunc(slices.Clone(deps), func(d impl.Dep) bool { return d.Key == key })
		for _, s := range []impl.Stamp{{}, {Time: 1}, {Time: 1, Site: 3}, {Time: 9000, Site: 3}, {Time: stampOf(deps, key).Time, Site: 3 - stampOf(deps, key).Site}} {
			other := others
			if s.Time > 0 {
				other = depInPlace(others, impl.Dep{Key: key, Stamp: s})
			}
			if !slices.Equal(other, deps) {
				list = append(list, other)
			}
		}
	}
	return list
}

// That alone: calls of which nothing else is amiss, one of them given up, or none.
func TestCallsThatBeginElsewhere(t *testing.T) {
	had := []impl.Dep{dep(0, 3, 1), dep(4, 8, 0)}
	for _, first := range []impl.Call{
		over(seeing(callOf(0, 1, 5), had...)), seeing(endedAt(callOf(0, 1, 5), 7), had...), over(seeing(readAt(0, 1, 5, 0, yes(came(2, 9, 1))), had...)),
		seeing(readAt(0, 1, 5, 7, yes(came(2, 9, 1, dep(0, 2, 2)))), had...), seeing(readAt(0, 1, 5, 7, none(2), none(3)), had...),
	} {
		for _, between := range [][]impl.Call{nil, {callOf(1, 1, 8)}, {over(callOf(1, 1, 8)), endedAt(callOf(1, 2, 9), 12)}} {
			for _, next := range []impl.Call{callOf(0, 2, 20), over(callOf(0, 2, 20)), readAt(0, 2, 20, 25, none(5))} {
				w := chained(calledNeck(99, append(append([]impl.Call{first}, between...), next)...))
				checkCallFlaws(t, w)
				last := len(w.Calls) - 1
				for _, ctx := range otherSeen(w.Calls[last].Ctx) {
					if len(next.Got) == 0 || stampOf(ctx, 5) == (impl.Stamp{}) {
						x := neckChange(func(x *impl.Neck) { x.Calls[last].Ctx = ctx }).of(w)
						checkCallFlaws(t, chainedFrom(x, last), sawOther)
					}
				}
				checkSeenElsewhere(t, w)
			}
		}
	}
}

// checkSeenElsewhere: the last call's CallSaw is what its client has seen, or that is amiss; a client without calls may have seen whatever there is.
func checkSeenElsewhere(t *testing.T, w impl.Neck) {
	t.Helper()
	for client := range impl.VerClients {
		called := slices.ContainsFunc(w.Calls, func(c impl.Call) bool { return c.Client == client })
		for _, deps := range otherSeen(w.Seen[client]) {
			x := neckChange(func(x *impl.Neck) { x.Seen[client] = deps }).of(w)
			if called {
				checkCallFlaws(t, x, sawOther)
			} else {
				checkCallFlaws(t, x)
			}
		}
	}
}

// What a last call saw, and its client has not, or otherwise: one that has ended, waits, or was given up; and clients that never called.
func TestCallsThatEndElsewhere(t *testing.T) {
	checkSeenElsewhere(t, impl.NeckStart())
	checkSeenElsewhere(t, safeNeck())
	checkSeenElsewhere(t, restNeck())
	for _, c := range []impl.Call{callOf(0, 1, 5), over(callOf(1, 1, 5)), readAt(0, 1, 5, 7, none(2)), seeing(putAt(came(2, 4, 1), 5, 7), dep(1, 3, 3))} {
		c.Num = 1
		checkSeenElsewhere(t, chained(calledNeck(99, c)))
	}
	for n := range impl.NeckMaxCalls + 1 {
		checkSeenElsewhere(t, chained(calledNeck(99, manyCalls(n)...)))
	}
}

// The first call of a client may begin with whatever it had seen: no call is ahead of it. A world without calls has none that is amiss.
func TestFirstCallsBeginAnywhere(t *testing.T) {
	for _, deps := range someDeps() {
		c := seeing(callOf(0, 1, 5), deps...)
		w := calledNeck(99, over(c))
		w.Seen = [][]impl.Dep{deps, fullDeps()}
		checkCallFlaws(t, w)
		w.Calls = nil
		checkCallFlaws(t, w)
	}
}

// What calls are of, and what servers have, has no part in it: neither need what was read or written be there.
func TestCallsWhateverServersHave(t *testing.T) {
	for _, change := range []neckChange{
		func(w *impl.Neck) { w.Servers = impl.NeckStart().Servers }, func(w *impl.Neck) { w.Servers = busyNeck().Servers }, func(w *impl.Neck) { w.Servers = made(w.Servers, fallen) },
		func(w *impl.Neck) { w.Radio = filler(60) }, func(w *impl.Neck) { w.Time = impl.NeckMaxTime }, slotted(1, impl.Slot{}, impl.Slot{}).and(func(w *impl.Neck) { w.Servers[1] = impl.ServerStart(1) }),
	} {
		checkCallFlaws(t, change.of(safeNeck()))
	}
}

// checkRest: both sides are the same in the world, or not, whoever is called what.
func checkRest(t *testing.T, w impl.Neck, want bool) {
	t.Helper()
	for _, m := range everyone() {
		if got := checkLooks(t, m.neck(w)); got.same != want || !neckOkBy(m.neck(w)) {
			t.Fatalf("%d %+v", m, w)
		}
	}
}

// serverAt changes a server, by what makes another one of it.
func serverAt(site int, change func(s *impl.Server)) neckChange {
	return func(w *impl.Neck) {
		w.Servers[site].Slots = slices.Clone(w.Servers[site].Slots)
		change(&w.Servers[site])
	}
}

// At rest nothing is to be done by any server: one that is down, that has a wait, that owes, that knows, or from which a slot is leaving, breaks that alone.
func TestSameWhenNothingIsToBeDone(t *testing.T) {
	checkRest(t, restNeck(), true)
	for site := range impl.Sites {
		far := (site + 2) % impl.Sites
		for i, change := range []func(s *impl.Server){
			func(s *impl.Server) { s.Up = false }, func(s *impl.Server) { s.Owes = []impl.Dep{nameOf(s.Vers[0])} }, func(s *impl.Server) { s.Knows = []impl.Dep{dep(5, 1, site)} },
			func(s *impl.Server) { s.Waits = []impl.Ver{came(s.Vers[0].Key, 9, far)} }, func(s *impl.Server) { s.Slots[s.Vers[0].Key/2].Stand = impl.StandLeaving },
			func(s *impl.Server) { s.Owes, s.Knows, s.Up = []impl.Dep{nameOf(s.Vers[0])}, nil, false },
		} {
			t.Log(site, i)
			checkRest(t, serverAt(site, change).of(restNeck()), false)
		}
		for slot := range impl.VerSlots {
			leaving := func(s *impl.Server) { s.Slots[slot] = impl.Slot{Epoch: 9, Stand: impl.StandLeaving} }
			checkRest(t, serverAt(site, leaving).of(restNeck()), false)
			checkRest(t, serverAt(site, leaving).of(impl.NeckStart()), false)
			owns := func(s *impl.Server) { s.Slots[slot] = impl.Slot{Epoch: 9, Stand: impl.StandOwns} }
			checkRest(t, serverAt(site, owns).of(restNeck()), true)
		}
	}
}

// A word under way, whatever it is, breaks it; calls that wait do not, nor what clients have seen.
func TestSameWhateverIsCalled(t *testing.T) {
	for _, n := range []int{1, 2, impl.NeckMaxRadio} {
		checkRest(t, withRadio(restNeck(), filler(n)...), false)
		checkRest(t, withRadio(impl.NeckStart(), filler(n)...), false)
	}
	for _, word := range busyNeck().Radio {
		checkRest(t, withRadio(restNeck(), word), false)
	}
	for _, change := range []neckChange{
		func(w *impl.Neck) { w.Calls = nil }, func(w *impl.Neck) { w.Time, w.Calls = 99, busyNeck().Calls }, func(w *impl.Neck) { w.Time, w.Calls = 99, manyCalls(20) },
		func(w *impl.Neck) { w.Seen = [][]impl.Dep{fullDeps(), nil} }, func(w *impl.Neck) { w.Time = impl.NeckMaxTime },
	} {
		checkRest(t, change.of(restNeck()), true)
	}
}

// Versions that one side alone has, or has otherwise: by key, time and site, Val, Client, Call and Deps. It does not matter which of its servers has one.
func TestSameVersions(t *testing.T) {
	for _, change := range []verChange{
		func(v *impl.Ver) { v.Stamp.Time++ }, func(v *impl.Ver) { v.Stamp.Site ^= 1 }, func(v *impl.Ver) { v.Stamp.Site ^= 2 }, func(v *impl.Ver) { v.Key ^= 1 }, func(v *impl.Ver) { v.Val++ },
		func(v *impl.Ver) { v.Client = 1 - v.Client }, func(v *impl.Ver) { v.Call++ }, cameOf(dep(0, 1, 1)), cameOf(dep(5, 1, 0)), cameOfNo(0),
	} {
		checkRest(t, change.at(nameOf(secondOf()), 1).of(restNeck()), false)
		checkRest(t, change.at(nameOf(secondOf()), 2).of(restNeck()), false)
		checkRest(t, change.at(nameOf(secondOf()), 1, 2).of(restNeck()), true)
	}
	more := wrote(dep(2, 9, 1), 0, 70)
	for _, site := range []int{1, 2} {
		checkRest(t, added(more, site).of(restNeck()), false)
		checkRest(t, serverAt(site, func(s *impl.Server) { s.Vers = nil }).of(restNeck()), false)
	}
	checkRest(t, added(more, 1, 2).of(restNeck()), true)
	checkRest(t, serverAt(1, func(s *impl.Server) { s.Vers = nil }).and(serverAt(2, func(s *impl.Server) { s.Vers = s.Vers[:1] })).of(restNeck()), true)
}

// Versions that both servers of a side have, alike, or unlike, where the first one's count, and that only one of the two has.
func TestSameVersionsAtBothServers(t *testing.T) {
	all := []impl.Ver{firstOf(), secondOf(), thirdOf()}
	eachWay(2*len(all), 3, func(way []int) {
		var lists [impl.Sites][]impl.Ver
		for i, at := range way {
			side := i / len(all)
			for server := range 2 {
				if at == server || at == 2 {
					lists[2*side+server] = append(lists[2*side+server], all[i%len(all)])
				}
			}
		}
		if got := checkLooks(t, withVers(lists[:]...)); !got.same {
			t.Fatal(way)
		}
	})
	other := verChange(func(v *impl.Ver) { v.Val++ })
	for site, want := range []bool{false, true, false, true} {
		w := other.at(nameOf(secondOf()), site).of(withVers(all, all, all, all))
		if got := checkLooks(t, w); got.same != want {
			t.Error(site)
		}
		if got := checkLooks(t, other.at(nameOf(secondOf()), site, (site+2)%4).of(withVers(all, all, all, all))); !got.same {
			t.Error(site)
		}
	}
}

// At rest it may be safe, or not; it need not be at rest to be safe.
func TestSameIsNotSafe(t *testing.T) {
	bad := withVers([]impl.Ver{secondOf()}, nil, []impl.Ver{secondOf()})
	if got := checkLooks(t, bad); got.safe || !got.calls || !got.same {
		t.Error(got)
	}
	if got := checkLooks(t, safeNeck()); !got.safe || !got.calls || got.same {
		t.Error(got)
	}
	w := restNeck()
	w.Seen = [][]impl.Dep{nil, nil}
	if got := checkLooks(t, w); !got.safe || got.calls || !got.same {
		t.Error(got)
	}
}
