package tests

import (
	"slices"
	"testing"

	"loop.example/tombolo/impl"
)

// What can be amiss in a world that is ok.
const (
	depGone   = "a version came of what is not there"
	madeTwice = "two versions are of one call"
	unlike    = "a version is another one on the other side"
	foreign   = "a version of the other side's is not there"
	slotAmiss = "a slot is at none, or at both"
	putGone   = "what was put is not there"
	seenGone  = "what was seen is not there"
	waitGone  = "what waits is not there"
	readOlder = "an answer is older than what was seen"
	sawOther  = "a call begins elsewhere than the one ahead of it ended"
)

// flawsOf is those that do not hold, in turn.
type flawsOf []string

func (f *flawsOf) unless(holds bool, flaw string) {
	if !holds && !slices.Contains(*f, flaw) {
		*f = append(*f, flaw)
	}
}

// justSo says whether one of the versions is the same.
func justSo(list []impl.Ver, v impl.Ver) bool {
	return slices.ContainsFunc(list, func(other impl.Ver) bool { return sameVer(v, other) })
}

// versFlaws is what is amiss with the versions of a side.
func (f *flawsOf) versFlaws(side int, own []impl.Ver, far []impl.Ver) {
	for i, v := range own {
		for _, d := range v.Deps {
			f.unless(hasName(own, d), depGone)
		}
		for _, other := range own[:i] {
			f.unless(other.Client != v.Client || other.Call != v.Call, madeTwice)
		}
		f.unless(!hasName(far, nameOf(v)) || justSo(far, v), unlike)
		f.unless(hasName(far, nameOf(v)) || v.Stamp.Site/2 == side, foreign)
	}
}

// slotKeptBy says whether a slot is at one of both servers, the document's words one by one.
func slotKeptBy(a impl.Slot, b impl.Slot) bool {
	if a.Stand != 1 && b.Stand == 1 {
		return slotKeptBy(b, a)
	}
	if a.Stand == 1 {
		return b.Stand != 1 && b.Epoch <= a.Epoch && (b.Stand != 2 || b.Epoch == a.Epoch)
	}
	return a.Stand == 2 && a.Epoch > b.Epoch || b.Stand == 2 && b.Epoch > a.Epoch
}

// safeFlawsBy is what keeps a world that is ok from being safe, without the program's chapter 43.
func safeFlawsBy(w impl.Neck) flawsOf {
	var f flawsOf
	for side := range 2 {
		own, far := sideBy(w.Servers, side), sideBy(w.Servers, 1-side)
		f.versFlaws(side, own, far)
		for slot := range impl.VerSlots {
			f.unless(slotKeptBy(w.Servers[2*side].Slots[slot], w.Servers[2*side+1].Slots[slot]), slotAmiss)
		}
		for _, c := range w.Calls {
			if c.Client == side && c.Kind == 1 && c.End > 0 {
				at := findVers(own, c.Keys[0], c.Stamp)
				f.unless(len(at) == 1 && at[0].Val == c.Val && at[0].Client == side && at[0].Call == c.Num, putGone)
			}
		}
		for _, d := range w.Seen[side] {
			f.unless(hasName(own, d), seenGone)
		}
		for _, v := range slices.Concat(w.Servers[2*side].Waits, w.Servers[2*side+1].Waits) {
			f.unless(justSo(far, v), waitGone)
		}
	}
	return f
}

// callFlawsBy is what was read in a world that is ok and could not have been, without the program's chapter 43.
func callFlawsBy(w impl.Neck) flawsOf {
	var f flawsOf
	for place, c := range w.Calls {
		for _, a := range c.Got {
			s := newer(newestBy(c, a.Key), stampOf(c.Ctx, a.Key))
			f.unless(c.End == 0 || s == impl.Stamp{} || !olderThan(a, s), readOlder)
		}
		f.unless(slices.Equal(sawBy(c), thenSeen(w, place)), sawOther)
	}
	return f
}

// thenSeen is what a call's client had seen when its next one began, or has seen now.
func thenSeen(w impl.Neck, place int) []impl.Dep {
	client := w.Calls[place].Client
	for _, c := range w.Calls[place+1:] {
		if c.Client == client {
			return c.Ctx
		}
	}
	return w.Seen[client]
}

// atRestBy says whether nothing is to be done in a world any more.
func atRestBy(w impl.Neck) bool {
	for _, s := range w.Servers {
		if !s.Up || len(s.Waits) > 0 || len(s.Owes) > 0 || len(s.Knows) > 0 {
			return false
		}
		for _, slot := range s.Slots {
			if slot.Stand == 2 {
				return false
			}
		}
	}
	return len(w.Radio) == 0
}

// looks is what is said of a world: of each of both sides, and whether it is safe, calls are ok, and both sides are the same.
type looks struct {
	sides [2][]impl.Ver
	safe  bool
	calls bool
	same  bool
}

// looksBy is what the document says of a world, without the program's chapter 43.
func looksBy(w impl.Neck) looks {
	if !neckOkBy(w) {
		return looks{}
	}
	sides := [2][]impl.Ver{sideBy(w.Servers, 0), sideBy(w.Servers, 1)}
	return looks{sides, len(safeFlawsBy(w)) == 0, len(callFlawsBy(w)) == 0, atRestBy(w) && sameVers(sides[0], sides[1])}
}

func looksOf(w impl.Neck) looks {
	return looks{[2][]impl.Ver{impl.NeckSide(w, 0), impl.NeckSide(w, 1)}, impl.NeckSafe(w), impl.CallsOk(w), impl.NeckSame(w)}
}

func sameLooks(a looks, b looks) bool {
	return sameVers(a.sides[0], b.sides[0]) && sameVers(a.sides[1], b.sides[1]) && a.safe == b.safe && a.calls == b.calls && a.same == b.same
}

// checkLooks holds all that is said of a world against the document's words.
func checkLooks(t *testing.T, w impl.Neck) looks {
	t.Helper()
	got := looksOf(w)
	if want := looksBy(w); !sameLooks(got, want) {
		t.Fatalf("%+v\n%+v\n%+v", w, got, want)
	}
	return got
}

// wrote is a version that a call made, of just these.
func wrote(d impl.Dep, client int, call int, deps ...impl.Dep) impl.Ver {
	return impl.Ver{Key: d.Key, Stamp: d.Stamp, Val: 100*client + call, Client: client, Call: call, Deps: deps}
}

// putAt is a put that ended by making that version.
func putAt(v impl.Ver, begin int, end int) impl.Call {
	return impl.Call{Client: v.Client, Num: v.Call, Kind: impl.CallPut, Keys: []int{v.Key}, Val: v.Val, Begin: begin, End: end, Stamp: v.Stamp}
}

// readAt is a read of the keys of these answers.
func readAt(client int, num int, begin int, end int, got ...impl.Answer) impl.Call {
	c := impl.Call{Client: client, Num: num, Kind: impl.CallRead, Begin: begin, End: end, Got: got}
	for _, a := range got {
		c.Keys = append(c.Keys, a.Key)
	}
	return c
}

// chained lets each call begin where the one ahead of it, of its client, ended, and each client have seen what its last one saw.
func chained(w impl.Neck) impl.Neck {
	return chainedFrom(w, 0)
}

// chainedFrom does so of the calls behind a place alone.
func chainedFrom(w impl.Neck, place int) impl.Neck {
	w.Calls, w.Seen = slices.Clone(w.Calls), slices.Clone(w.Seen)
	for i, c := range w.Calls {
		next := slices.IndexFunc(w.Calls[i+1:], func(other impl.Call) bool { return other.Client == c.Client })
		switch {
		case i < place:
		case next < 0:
			w.Seen[c.Client] = sawBy(c)
		default:
			w.Calls[i+1+next].Ctx = sawBy(c)
		}
	}
	return w
}

// Versions of a world that is safe: the first three are on both sides, the next two on the first one, and the others on the second one.
func firstOf() impl.Ver  { return wrote(dep(0, 1, 0), 0, 1) }
func secondOf() impl.Ver { return wrote(dep(2, 2, 1), 0, 2, dep(0, 1, 0)) }
func thirdOf() impl.Ver  { return wrote(dep(4, 3, 2), 1, 1) }
func fourthOf() impl.Ver { return wrote(dep(0, 4, 0), 0, 4, dep(0, 1, 0), dep(2, 2, 1), dep(4, 3, 2)) }
func fifthOf() impl.Ver  { return wrote(dep(2, 5, 1), 0, 5, dep(0, 4, 0), dep(2, 2, 1), dep(4, 3, 2)) }
func sixthOf() impl.Ver  { return wrote(dep(5, 6, 2), 1, 3, dep(0, 1, 0), dep(2, 2, 1), dep(4, 3, 2)) }
func lastOf() impl.Ver {
	return wrote(dep(3, 7, 3), 1, 4, dep(0, 1, 0), dep(2, 2, 1), dep(4, 3, 2), dep(5, 6, 2))
}

// safeNeck has something in each part, and is safe: versions that both sides have and such as one has, that wait and that are owed;
// a slot that has come and is leaving still where it was, and one that is leaving twice; calls of both clients that have ended,
// were given up, and wait.
func safeNeck() impl.Neck {
	given := putAt(fifthOf(), 22, 0)
	given.Stamp, given.Over = impl.Stamp{}, true
	waits := readAt(1, 5, 36, 0, yes(thirdOf()))
	waits.Keys = []int{3, 4, 5}
	return chained(impl.Neck{
		Time: 40,
		Servers: []impl.Server{
			{Site: 0, Up: true, Slots: []impl.Slot{{Epoch: 1, Stand: 1}, {}, {Epoch: 2, Stand: 2}}, Vers: []impl.Ver{firstOf(), fourthOf(), thirdOf()}},
			{Site: 1, Up: true, Slots: []impl.Slot{{}, {Epoch: 1, Stand: 1}, {Epoch: 2, Stand: 1}}, Vers: []impl.Ver{secondOf(), fifthOf(), thirdOf()},
				Waits: []impl.Ver{lastOf(), sixthOf()}, Owes: []impl.Dep{dep(2, 5, 1)}, Knows: []impl.Dep{dep(0, 1, 0)}},
			{Site: 2, Up: true, Slots: []impl.Slot{{Epoch: 1, Stand: 1}, {Epoch: 3, Stand: 2}, {Epoch: 5, Stand: 1}},
				Vers: []impl.Ver{firstOf(), secondOf(), thirdOf(), sixthOf()}, Waits: []impl.Ver{fourthOf()}, Owes: []impl.Dep{dep(5, 6, 2)}},
			{Site: 3, Slots: []impl.Slot{{}, {Epoch: 4, Stand: 2}, {Epoch: 3}}, Vers: []impl.Ver{secondOf(), lastOf()}, Owes: []impl.Dep{dep(3, 7, 3)}},
		},
		Radio: filler(3),
		Calls: []impl.Call{
			putAt(firstOf(), 1, 3), putAt(thirdOf(), 2, 5), putAt(secondOf(), 6, 9), readAt(1, 2, 10, 15, yes(firstOf()), yes(secondOf())),
			readAt(0, 3, 11, 16, yes(secondOf()), yes(thirdOf())), putAt(fourthOf(), 17, 20), putAt(sixthOf(), 18, 21), given, putAt(lastOf(), 24, 26),
			readAt(0, 6, 30, 35, yes(fourthOf()), none(1), yes(fifthOf())), waits,
		},
		Seen: make([][]impl.Dep, 2),
	})
}

// restNeck is at rest, both sides having the same: versions that both servers of a side have, and such as one of them has.
func restNeck() impl.Neck {
	w := impl.NeckStart()
	w.Time = 9
	w.Servers[0].Vers, w.Servers[1].Vers = []impl.Ver{firstOf(), thirdOf()}, []impl.Ver{secondOf()}
	w.Servers[2].Slots[1], w.Servers[2].Slots[2] = impl.Slot{Epoch: 2, Stand: 1}, impl.Slot{Epoch: 2}
	w.Servers[3].Slots[1], w.Servers[3].Slots[2] = impl.Slot{Epoch: 1}, impl.Slot{Epoch: 3, Stand: 1}
	w.Servers[2].Vers, w.Servers[3].Vers = []impl.Ver{firstOf(), secondOf()}, []impl.Ver{thirdOf()}
	w.Calls = []impl.Call{putAt(firstOf(), 1, 3), putAt(thirdOf(), 4, 6), {Client: 0, Num: 2, Kind: impl.CallRead, Keys: []int{2}, Begin: 7}}
	return chained(w)
}

// as is a world in which others are called what they were: each site the other one of its side, or of the other side, and clients likewise.
type as int

func (m as) site(site int) int {
	return site ^ int(m)
}

func (m as) client(client int) int {
	return client ^ int(m)>>1
}

func (m as) deps(list []impl.Dep) []impl.Dep {
	other := made(list, func(d impl.Dep) impl.Dep { return m.dep(d) })
	slices.SortFunc(other, depOrder)
	return other
}

func (m as) dep(d impl.Dep) impl.Dep {
	return dep(d.Key, d.Stamp.Time, m.site(d.Stamp.Site))
}

func (m as) ver(v impl.Ver) impl.Ver {
	v.Stamp, v.Client, v.Deps = m.dep(nameOf(v)).Stamp, m.client(v.Client), m.deps(v.Deps)
	return v
}

func (m as) vers(list []impl.Ver) []impl.Ver {
	other := made(list, m.ver)
	slices.SortFunc(other, verOrder)
	return other
}

func (m as) call(c impl.Call) impl.Call {
	c.Client, c.Ctx, c.Needs = m.client(c.Client), m.deps(c.Ctx), m.deps(c.Needs)
	if c.Stamp != (impl.Stamp{}) {
		c.Stamp.Site = m.site(c.Stamp.Site)
	}
	c.Got = made(c.Got, func(a impl.Answer) impl.Answer {
		if a.Yes {
			a.Ver = m.ver(a.Ver)
		}
		return a
	})
	return c
}

func (m as) neck(w impl.Neck) impl.Neck {
	x := impl.Neck{Time: w.Time, Servers: make([]impl.Server, 4), Radio: w.Radio, Calls: made(w.Calls, m.call), Seen: make([][]impl.Dep, 2)}
	for _, s := range w.Servers {
		s.Site, s.Vers, s.Waits, s.Owes, s.Knows = m.site(s.Site), m.vers(s.Vers), m.vers(s.Waits), m.deps(s.Owes), m.deps(s.Knows)
		x.Servers[s.Site] = s
	}
	for client, deps := range w.Seen {
		x.Seen[m.client(client)] = m.deps(deps)
	}
	return x
}

// everyone is each way to call others what they were.
func everyone() []as {
	return []as{0, 1, 2, 3}
}

// Worlds that are ok, and safe or not, of all kinds: each of them is looked at as the document says, whoever is called what.
func TestLooksOfAllWorlds(t *testing.T) {
	t.Parallel()
	list := append(someNecks(), idleNeck(), safeNeck(), restNeck(), tangledNeck(busyNeck()), tangledNeck(safeNeck()))
	for _, w := range append(list, drawnNecks(t, 20)...) {
		for _, m := range everyone() {
			checkLooks(t, m.neck(w))
		}
	}
}

// Promise 81: at first nothing is there, and nothing is under way; all is safe, and the same.
func TestLooksAtFirst(t *testing.T) {
	w := impl.NeckStart()
	got := checkLooks(t, w)
	if !got.safe || !got.calls || !got.same || len(got.sides[0])+len(got.sides[1]) > 0 || len(w.Radio)+len(w.Calls) > 0 {
		t.Error(got)
	}
	for _, s := range w.Servers {
		if !s.Up || len(s.Vers)+len(s.Waits)+len(s.Owes)+len(s.Knows) > 0 {
			t.Error(s)
		}
	}
}

// Both worlds that the tests begin with are what they are to be.
func TestWorldsThatAreSafe(t *testing.T) {
	for _, m := range everyone() {
		got := checkLooks(t, m.neck(safeNeck()))
		if !got.safe || !got.calls || got.same {
			t.Error(m, got, safeFlawsBy(m.neck(safeNeck())), callFlawsBy(m.neck(safeNeck())))
		}
		got = checkLooks(t, m.neck(restNeck()))
		if !got.safe || !got.calls || !got.same || len(got.sides[0]) != 3 {
			t.Error(m, got)
		}
	}
}
