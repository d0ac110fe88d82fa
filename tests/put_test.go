package tests

import (
	"slices"
	"testing"

	"loop.example/tombolo/impl"
)

// hearing is an up server that owns all slots, with these versions.
func hearing(site int, vers ...impl.Ver) impl.Server {
	return impl.Server{Site: site, Up: true, Slots: slotsAll(1, impl.StandOwns), Vers: vers}
}

func putOf(s impl.Server, client int, call int, key int, val int, deps ...impl.Dep) impl.Word {
	return impl.Word{Kind: impl.WordPut, From: impl.WordClient + client, To: s.Site, Call: call, Key: key, Val: val, Deps: deps}
}

func getOf(s impl.Server, key int, stamp impl.Stamp) impl.Word {
	return impl.Word{Kind: impl.WordGet, From: impl.WordClient + 1, To: s.Site, Call: 5, Key: key, Stamp: stamp}
}

// checkUnheard: a word does nothing, and is not answered.
func checkUnheard(t *testing.T, s impl.Server, w impl.Word) {
	t.Helper()
	if x, words := checkHeard(t, s, w); !sameServer(x, s) || len(words) > 0 {
		t.Error("it did something", s, w, x, words)
	}
}

// Promise 36: a put makes one version, newer than all that its client had seen, and than the key's newest; it is owed to the other side.
func TestPutMakesOneVersion(t *testing.T) {
	t.Parallel()
	made := 0
	for _, s := range hearServers() {
		for _, w := range putsFor(s) {
			x, words := checkHeard(t, s, w)
			if len(x.Owes) == len(s.Owes) {
				continue
			}
			made++
			v := findVers(x.Vers, w.Key, words[0].Stamp)[0]
			if v.Val != w.Val || v.Client != w.From-10 || v.Call != w.Call || !slices.Equal(v.Deps, w.Deps) || v.Stamp.Site != s.Site {
				t.Error(w, v)
			}
			if hasName(s.Vers, nameOf(v)) || !slices.Contains(x.Owes, nameOf(v)) || len(x.Owes) != len(s.Owes)+1 {
				t.Error("it was there, or is not owed", w, v)
			}
			checkNewest(t, s, w, v)
		}
	}
	if made < 300 {
		t.Error("too few", made)
	}
}

func checkNewest(t *testing.T, s impl.Server, w impl.Word, made impl.Ver) {
	t.Helper()
	for _, d := range w.Deps {
		if made.Stamp.Time <= d.Stamp.Time {
			t.Error("its client had seen one as new", w, made)
		}
	}
	for _, v := range s.Vers {
		if v.Key == w.Key && made.Stamp.Time <= v.Stamp.Time {
			t.Error("the key has one as new", w, made, v)
		}
	}
}

// Promise 36: by the number behind the greatest of both, wherever that stands; other keys' versions do not count.
func TestStampsOfPuts(t *testing.T) {
	s := hearing(3, came(1, 900, 0), came(2, 4, 1), came(2, 7, 0), came(3, 800, 2))
	for _, c := range []struct {
		key  int
		deps []impl.Dep
		want int
	}{
		{0, nil, 1}, {2, nil, 8}, {2, []impl.Dep{dep(0, 3, 1)}, 8}, {2, []impl.Dep{dep(0, 7, 3), dep(5, 2, 0)}, 8}, {2, []impl.Dep{dep(2, 8, 3)}, 9},
		{2, []impl.Dep{dep(0, 20, 1), dep(4, 19, 0)}, 21}, {2, []impl.Dep{dep(0, 19, 1), dep(4, 20, 0)}, 21}, {5, []impl.Dep{dep(5, 1, 0)}, 2},
	} {
		x, words := checkHeard(t, s, putOf(s, 1, 9, c.key, 5, c.deps...))
		if len(words) != 1 || words[0].Stamp != (impl.Stamp{Time: c.want, Site: 3}) || len(x.Vers) != 5 {
			t.Error(c, words)
		}
	}
}

// Where there is no next stamp a put makes nothing: deps, or a newest version of the key, at StampMax; one below there is one.
func TestPutsWithoutANextStamp(t *testing.T) {
	s := hearing(0)
	top := impl.StampMax
	for key := range impl.VerKeys {
		checkUnheard(t, s, putOf(s, 0, 1, 2, 5, dep(key, top, 1)))
		x, words := checkHeard(t, s, putOf(s, 0, 1, 2, 5, dep(key, top-1, 1)))
		if len(words) != 1 || words[0].Stamp != (impl.Stamp{Time: top}) || len(x.Vers) != 1 {
			t.Error(key, words)
		}
		full := hearing(0, came(key, top, 3))
		if x, words := checkHeard(t, full, putOf(s, 0, 1, 3, 5)); (len(words) == 0) != (key == 3) || (len(x.Vers) == 1) != (key == 3) {
			t.Error(key, words)
		}
		below := hearing(0, came(key, top-1, 3))
		if _, words := checkHeard(t, below, putOf(s, 0, 1, key, 5)); len(words) != 1 || words[0].Stamp.Time != top {
			t.Error(key, words)
		}
	}
}

// Vers with ChainMax, all owed or none, take no put; with one fewer they do. What comes again is answered also there.
func TestPutsWhereRoomEnds(t *testing.T) {
	for _, owed := range []bool{true, false} {
		full := fullServer(1)
		full.Waits, full.Knows = nil, nil
		if !owed {
			full.Owes = nil
		}
		room := less(full, impl.ChainMax-1, 0, 0)
		for key := range impl.VerKeys {
			checkUnheard(t, full, putOf(full, 0, 99, key, 7))
			x, words := checkHeard(t, room, putOf(full, 0, 99, key, 7))
			if len(words) != 1 || len(x.Vers) != impl.ChainMax || len(x.Owes) != len(room.Owes)+1 {
				t.Error(key, words)
			}
			if again, words := checkHeard(t, x, putOf(full, 0, 99, key, 8)); len(words) != 1 || !sameServer(again, x) {
				t.Error(key, words)
			}
			checkUnheard(t, x, putOf(full, 0, 98, key, 8))
		}
	}
}

// A call of 0 is none, for puts and reads; the last number is one.
func TestCallsOfPutsAndReads(t *testing.T) {
	s := hearing(2, came(4, 3, 1))
	for _, call := range []int{0, 1, impl.VerMaxCall} {
		put, get := putOf(s, 0, call, 4, 5), getOf(s, 4, impl.Stamp{})
		get.Call = call
		for _, w := range []impl.Word{put, get} {
			if _, words := checkHeard(t, s, w); (len(words) == 1) != (call > 0) || call > 0 && words[0].Call != call {
				t.Error(w, words)
			}
		}
	}
}

// Promise 37: a put that comes again, with whatever value and deps, makes nothing, and is answered alike.
func TestPutsThatComeAgain(t *testing.T) {
	t.Parallel()
	for _, s := range hearServers() {
		for _, w := range putsFor(s) {
			x, words := impl.ServerHear(s, w)
			if len(words) == 0 {
				continue
			}
			for _, change := range []func(w *impl.Word){
				func(w *impl.Word) {}, func(w *impl.Word) { w.Val = 9999 - w.Val }, func(w *impl.Word) { w.Deps = nil },
				func(w *impl.Word) { w.Deps = []impl.Dep{dep(3, impl.StampMax, 3)} }, func(w *impl.Word) { w.Stamp = impl.Stamp{Time: 9, Site: 1} },
			} {
				again := w
				change(&again)
				if y, said := impl.ServerHear(x, again); !sameServer(y, x) || !sameWords(said, words) {
					t.Fatal(s, w, again, said)
				}
			}
		}
	}
}

// Promise 37: it is the same put just by its key, client and call; another one makes a version of its own.
func TestPutsThatAreOthers(t *testing.T) {
	s := hearing(1)
	s, first := checkHeard(t, s, putOf(s, 0, 3, 2, 7))
	for _, other := range []impl.Word{putOf(s, 1, 3, 2, 7), putOf(s, 0, 4, 2, 7), putOf(s, 0, 3, 3, 7), putOf(s, 0, 3, 4, 7)} {
		x, words := checkHeard(t, s, other)
		if len(x.Vers) != 2 || len(words) != 1 || other.Key == 2 && words[0].Stamp == first[0].Stamp {
			t.Error(other, words)
		}
	}
}

// Promise 37: a version of the same client and call that a site of the other side made is another one; one that waits is not there.
func TestPutsOfTheOtherSide(t *testing.T) {
	for site := range impl.Sites {
		for from := range impl.Sites {
			v := came(2, 6, from)
			v.Client, v.Call = 1, 3
			s := hearing(site, v)
			x, words := checkHeard(t, s, putOf(s, 1, 3, 2, 9))
			beside := from/2 == site/2
			if len(words) != 1 || (words[0].Stamp == v.Stamp) != beside || (len(x.Vers) == 1) != beside {
				t.Error(site, from, words)
			}
		}
	}
	s := hearing(0)
	s.Waits = []impl.Ver{came(2, 6, 3, dep(0, 5, 3))}
	s.Waits[0].Client, s.Waits[0].Call = 1, 3
	if x, words := checkHeard(t, s, putOf(s, 1, 3, 2, 9)); len(x.Vers) != 1 || len(words) != 1 || words[0].Stamp != (impl.Stamp{Time: 1}) {
		t.Error(x, words)
	}
}

// Of several that are of one client and call the first is told.
func TestFirstOfSeveralThatCame(t *testing.T) {
	vers := []impl.Ver{came(2, 4, 2), came(2, 5, 0), came(2, 5, 1), came(2, 8, 1)}
	for i := range vers {
		vers[i].Client, vers[i].Call = 0, 12
	}
	s := hearing(1, vers...)
	if x, words := checkHeard(t, s, putOf(s, 0, 12, 2, 1)); !sameServer(x, s) || words[0].Stamp != vers[1].Stamp {
		t.Error(words)
	}
}

// Promise 37: a put that comes again at the other server of the side, to which its slot has moved meanwhile, there and back again.
func TestPutsThatComeAgainElsewhere(t *testing.T) {
	for site := range impl.Sites {
		for key := range impl.VerKeys {
			here, there := hearing(site), impl.Server{Site: otherOf(site), Up: true, Slots: slotsAll(0, impl.StandNone)}
			here, first := checkHeard(t, here, putOf(here, 1, 7, key, 50, dep(3, 9, 0)))
			for range 4 {
				left, parcel, _ := impl.ServerMove(here, key/2)
				next, told := checkHeard(t, there, parcel)
				gone, _ := checkHeard(t, left, told[0])
				for _, val := range []int{50, 51} {
					x, words := checkHeard(t, next, putOf(next, 1, 7, key, val))
					if !sameServer(x, next) || len(words) != 1 || words[0].Stamp != first[0].Stamp {
						t.Error(site, key, words)
					}
					for _, other := range []impl.Server{there, left, gone} {
						checkUnheard(t, other, putOf(other, 1, 7, key, val))
					}
				}
				here, there = next, gone
			}
			if here.Site != site || here.Slots[key/2].Epoch != 5 {
				t.Error(here)
			}
		}
	}
}

// A put lets all be seen that waited for nothing else than its version, which is its own site's by name.
func TestPutsSettle(t *testing.T) {
	s := hearing(2)
	s.Waits = []impl.Ver{came(0, 9, 0, dep(4, 1, 2)), came(1, 10, 0, dep(0, 9, 0)), came(5, 9, 0, dep(4, 2, 2))}
	s.Knows = []impl.Dep{dep(3, 3, 3)}
	x, _ := checkHeard(t, s, putOf(s, 1, 1, 4, 5))
	if !slices.Equal(keysOf(x.Vers), []int{0, 1, 4}) || !slices.Equal(keysOf(x.Waits), []int{5}) || len(x.Knows) != 0 {
		t.Error(x)
	}
	full := filled(s, impl.ChainMax-2)
	if x, _ := checkHeard(t, full, putOf(s, 1, 1, 4, 5)); len(x.Vers) != impl.ChainMax || !slices.Equal(keysOf(x.Waits), []int{1, 5}) {
		t.Error(x)
	}
	one := filled(s, impl.ChainMax-1)
	if x, _ := checkHeard(t, one, putOf(s, 1, 1, 4, 5)); !slices.Equal(keysOf(x.Waits), []int{0, 1, 5}) || !hasName(x.Vers, dep(4, 1, 2)) {
		t.Error("what was put has its place ahead of what waits", x)
	}
	one.Waits = []impl.Ver{came(3, 9, 0)}
	if x, _ := checkHeard(t, one, putOf(s, 1, 1, 4, 5)); len(x.Waits) != 1 || !hasName(x.Vers, dep(4, 1, 2)) {
		t.Error("also where that could be seen by itself", x)
	}
}

// Promise 38: without a stamp the newest is read, or that there is none; with one just that, and nothing is said, if it is not there.
func TestReads(t *testing.T) {
	t.Parallel()
	for _, s := range hearServers() {
		for key := range impl.VerKeys {
			top, there := impl.ChainTop(s.Vers, key)
			x, words := checkHeard(t, s, getOf(s, key, impl.Stamp{}))
			if !sameServer(x, s) || (len(words) == 1) != ownedBy(s, key) {
				t.Error(s, key, words)
			}
			if len(words) == 1 {
				checkRead(t, words[0], key, impl.Stamp{}, there, top)
			}
		}
		for _, d := range namesFor(s) {
			v, there := impl.ChainAt(s.Vers, d.Key, d.Stamp)
			x, words := checkHeard(t, s, getOf(s, d.Key, d.Stamp))
			if !sameServer(x, s) || d.Stamp.Time > 0 && (len(words) == 1) != (there && ownedBy(s, d.Key)) {
				t.Error(s, d, words)
			}
			if d.Stamp.Time > 0 && len(words) == 1 {
				checkRead(t, words[0], d.Key, d.Stamp, true, v)
			}
		}
	}
}

func checkRead(t *testing.T, w impl.Word, key int, stamp impl.Stamp, there bool, v impl.Ver) {
	t.Helper()
	if w.Kind != impl.WordGetOk || w.Call != 5 || w.To != 11 || w.Key != key || w.Stamp != stamp || w.Yes != there {
		t.Error(w, key, stamp, there)
	}
	if there && (len(w.Vers) != 1 || !sameVer(w.Vers[0], v)) || !there && len(w.Vers) > 0 {
		t.Error(w, v)
	}
}

// Promise 38: a read gives neither what waits, nor what another key has, nor an older one, and a version of whichever site is one.
func TestReadsGiveWhatCanBeSeen(t *testing.T) {
	s := hearing(0, came(0, 2, 3), came(0, 5, 1), came(0, 5, 2), came(1, 9, 0))
	s.Waits = []impl.Ver{came(0, 8, 2, dep(4, 1, 2)), came(2, 8, 2, dep(4, 1, 2))}
	for _, c := range []struct {
		key   int
		stamp impl.Stamp
		want  impl.Dep
	}{
		{0, impl.Stamp{}, dep(0, 5, 2)}, {1, impl.Stamp{}, dep(1, 9, 0)}, {0, impl.Stamp{Time: 2, Site: 3}, dep(0, 2, 3)}, {0, impl.Stamp{Time: 5, Site: 1}, dep(0, 5, 1)},
	} {
		if _, words := checkHeard(t, s, getOf(s, c.key, c.stamp)); len(words) != 1 || !words[0].Yes || nameOf(words[0].Vers[0]) != c.want {
			t.Error(c, words)
		}
	}
	if _, words := checkHeard(t, s, getOf(s, 2, impl.Stamp{})); len(words) != 1 || words[0].Yes || len(words[0].Vers) > 0 {
		t.Error("there is none that can be seen", words)
	}
	for _, d := range []impl.Dep{dep(0, 8, 2), dep(2, 8, 2), dep(0, 9, 0), dep(0, 5, 0), dep(0, 6, 1), dep(3, 1, 0)} {
		checkUnheard(t, s, getOf(s, d.Key, d.Stamp))
	}
}

// Promise 54: what is asked for is told just if it can be seen, to clients that read it and to the twin that checks for it.
func TestAskedForIsToldIfItCanBeSeen(t *testing.T) {
	t.Parallel()
	for _, s := range hearServers() {
		for _, d := range namesFor(s) {
			if d.Stamp.Time == 0 {
				continue
			}
			seen := hasName(s.Vers, d)
			_, read := checkHeard(t, s, getOf(s, d.Key, d.Stamp))
			check := impl.Word{Kind: impl.WordCheck, From: otherOf(s.Site), To: s.Site, Key: d.Key, Stamp: d.Stamp}
			_, have := checkHeard(t, s, check)
			if (len(read) == 1) != (seen && ownedBy(s, d.Key)) || (len(have) == 1) != seen {
				t.Error(s, d, read, have)
			}
		}
	}
}
