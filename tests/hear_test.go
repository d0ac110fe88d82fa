package tests

import (
	"slices"
	"testing"

	"loop.example/tombolo/impl"
)

// nameOf is a version's key and stamp.
func nameOf(v impl.Ver) impl.Dep {
	return impl.Dep{Key: v.Key, Stamp: v.Stamp}
}

func hasName(list []impl.Ver, d impl.Dep) bool {
	return len(findVers(list, d.Key, d.Stamp)) > 0
}

func ownedBy(s impl.Server, key int) bool {
	return s.Slots[key/2].Stand == impl.StandOwns
}

// farFrom says whether a place is a site of the other side.
func farFrom(s impl.Server, place int) bool {
	return place < impl.Sites && place/2 != s.Site/2
}

func inPlace(list []impl.Ver, v impl.Ver) []impl.Ver {
	list = append(slices.Clone(list), v)
	slices.SortFunc(list, verOrder)
	return list
}

func depInPlace(list []impl.Dep, d impl.Dep) []impl.Dep {
	list = append(slices.Clone(list), d)
	slices.SortFunc(list, depOrder)
	return list
}

func debtsNotOfSlot(list []impl.Dep, slot int) []impl.Dep {
	return slices.DeleteFunc(slices.Clone(list), func(d impl.Dep) bool { return d.Key/2 == slot })
}

// heardBy is what the document says word by word, without the program.
func heardBy(s impl.Server, w impl.Word) (impl.Server, []impl.Word) {
	if !s.Up || !impl.WordOk(w) || w.To != s.Site {
		return s, nil
	}
	client, twin, far := w.From >= impl.WordClient, w.From == otherOf(s.Site), farFrom(s, w.From)
	switch {
	case w.Kind == impl.WordPut && client && w.Call > 0 && ownedBy(s, w.Key):
		return putBySomeone(s, w)
	case w.Kind == impl.WordGet && client && w.Call > 0 && ownedBy(s, w.Key):
		return s, readBy(s, w)
	case w.Kind == impl.WordRep && far && len(w.Vers) == 1 && ownedBy(s, w.Vers[0].Key) && farFrom(s, w.Vers[0].Stamp.Site):
		return cameFromAfar(s, w)
	case w.Kind == impl.WordRepOk && far && ownedBy(s, w.Key):
		s.Owes = slices.DeleteFunc(slices.Clone(s.Owes), func(d impl.Dep) bool { return d == impl.Dep{Key: w.Key, Stamp: w.Stamp} })
		return s, nil
	case w.Kind == impl.WordCheck && twin && hasName(s.Vers, impl.Dep{Key: w.Key, Stamp: w.Stamp}):
		return s, []impl.Word{{Kind: impl.WordHave, From: s.Site, To: w.From, Key: w.Key, Stamp: w.Stamp}}
	case w.Kind == impl.WordHave && twin:
		return toldSeen(s, impl.Dep{Key: w.Key, Stamp: w.Stamp}), nil
	case w.Kind == impl.WordBulk && twin && w.Epoch > 0:
		return broughtBy(s, w)
	case w.Kind == impl.WordBulkOk && twin && s.Slots[w.Slot] == impl.Slot{Epoch: w.Epoch, Stand: impl.StandLeaving}:
		return settledBy(emptied(s, w.Slot, impl.Slot{Epoch: w.Epoch, Stand: impl.StandNone})), nil
	}
	return s, nil
}

func putBySomeone(s impl.Server, w impl.Word) (impl.Server, []impl.Word) {
	answer := impl.Word{Kind: impl.WordPutOk, From: s.Site, To: w.From, Call: w.Call, Key: w.Key}
	v := impl.Ver{Key: w.Key, Val: w.Val, Client: w.From - impl.WordClient, Call: w.Call, Deps: w.Deps}
	latest := 0
	for _, d := range w.Deps {
		latest = max(latest, d.Stamp.Time)
	}
	for _, old := range s.Vers {
		if old.Key == v.Key && old.Client == v.Client && old.Call == v.Call && old.Stamp.Site/2 == s.Site/2 {
			answer.Stamp = old.Stamp
			return s, []impl.Word{answer}
		}
		if old.Key == v.Key {
			latest = max(latest, old.Stamp.Time)
		}
	}
	if latest+1 > impl.StampMax || len(s.Vers) == impl.ChainMax || len(s.Owes) == impl.ChainMax {
		return s, nil
	}
	v.Stamp = impl.Stamp{Time: latest + 1, Site: s.Site}
	answer.Stamp = v.Stamp
	s.Vers, s.Owes = inPlace(s.Vers, v), depInPlace(s.Owes, nameOf(v))
	return settledBy(s), []impl.Word{answer}
}

func readBy(s impl.Server, w impl.Word) []impl.Word {
	answer := impl.Word{Kind: impl.WordGetOk, From: s.Site, To: w.From, Call: w.Call, Key: w.Key, Stamp: w.Stamp}
	for _, v := range s.Vers {
		if v.Key == w.Key && (w.Stamp == impl.Stamp{} || v.Stamp == w.Stamp) {
			answer.Yes, answer.Vers = true, []impl.Ver{v}
		}
	}
	if !answer.Yes && w.Stamp != (impl.Stamp{}) {
		return nil
	}
	return []impl.Word{answer}
}

func cameFromAfar(s impl.Server, w impl.Word) (impl.Server, []impl.Word) {
	v := w.Vers[0]
	if !hasName(s.Vers, nameOf(v)) && !hasName(s.Waits, nameOf(v)) {
		if len(s.Waits) == impl.ChainMax {
			return s, nil
		}
		s.Waits = inPlace(s.Waits, v)
	}
	return settledBy(s), []impl.Word{{Kind: impl.WordRepOk, From: s.Site, To: w.From, Key: v.Key, Stamp: v.Stamp}}
}

func toldSeen(s impl.Server, d impl.Dep) impl.Server {
	if !wantedBy(s.Waits, d) || len(s.Knows) == impl.ChainMax {
		return s
	}
	if !slices.Contains(s.Knows, d) {
		s.Knows = depInPlace(s.Knows, d)
	}
	return settledBy(s)
}

// emptied has nothing of a slot any more, which stands so.
func emptied(s impl.Server, slot int, stands impl.Slot) impl.Server {
	s.Slots = slices.Clone(s.Slots)
	s.Slots[slot] = stands
	s.Vers, s.Waits, s.Owes = notOfSlot(s.Vers, slot), notOfSlot(s.Waits, slot), debtsNotOfSlot(s.Owes, slot)
	return s
}

func broughtBy(s impl.Server, w impl.Word) (impl.Server, []impl.Word) {
	answers := []impl.Word{{Kind: impl.WordBulkOk, From: s.Site, To: w.From, Slot: w.Slot, Epoch: w.Epoch}}
	if s.Slots[w.Slot].Epoch >= w.Epoch {
		return s, answers
	}
	x := emptied(s, w.Slot, impl.Slot{Epoch: w.Epoch, Stand: impl.StandOwns})
	if max(len(x.Vers)+len(w.Vers), len(x.Waits)+len(w.Waits), len(x.Owes)+len(w.Owes)) > impl.ChainMax {
		return s, nil
	}
	for _, v := range w.Vers {
		if !hasName(x.Vers, nameOf(v)) {
			x.Vers = inPlace(x.Vers, v)
		}
	}
	for _, v := range w.Waits {
		if !hasName(x.Waits, nameOf(v)) {
			x.Waits = inPlace(x.Waits, v)
		}
	}
	for _, d := range w.Owes {
		if !slices.Contains(x.Owes, d) {
			x.Owes = depInPlace(x.Owes, d)
		}
	}
	if !impl.ServerOk(x) {
		return s, nil
	}
	return settledBy(x), answers
}

func sameWords(a []impl.Word, b []impl.Word) bool {
	return slices.EqualFunc(a, b, sameWord)
}

// checkHeard has what the document says word by word, and the promises that hold of each server and word.
func checkHeard(t *testing.T, s impl.Server, w impl.Word) (impl.Server, []impl.Word) {
	t.Helper()
	x, words := impl.ServerHear(s, w)
	wantServer, wantWords := heardBy(s, w)
	if !sameServer(x, wantServer) || !sameWords(words, wantWords) {
		t.Fatal("not what the document says\n", s, "\n", w, "\n", x, words, "\n", wantServer, wantWords)
	}
	checkUnspoilt(t, s, w, x, words)
	checkNothingLost(t, s, w, x)
	checkNewlyThere(t, s, w, x)
	checkLeftAlone(t, s, w, x, words)
	return x, words
}

// checkUnspoilt has promise 34.
func checkUnspoilt(t *testing.T, s impl.Server, w impl.Word, x impl.Server, words []impl.Word) {
	t.Helper()
	if !impl.ServerOk(x) || x.Site != s.Site || x.Up != s.Up {
		t.Fatal("it is spoilt", s, w, x)
	}
	for i := range s.Slots {
		if x.Slots[i].Epoch < s.Slots[i].Epoch {
			t.Fatal("a slot's number fell", s, w, x)
		}
	}
	for _, word := range words {
		if !impl.WordOk(word) || word.From != s.Site || word.To != w.From {
			t.Fatal("not its own word, or not to who asked", s, w, word)
		}
	}
	if (!s.Up || w.To != s.Site || !impl.WordOk(w)) && (!sameServer(x, s) || len(words) > 0) {
		t.Fatal("it did something", s, w, x, words)
	}
}

// checkNothingLost has promise 35.
func checkNothingLost(t *testing.T, s impl.Server, w impl.Word, x impl.Server) {
	t.Helper()
	for _, v := range s.Vers {
		if now := findVers(x.Vers, v.Key, v.Stamp); x.Slots[v.Key/2] == s.Slots[v.Key/2] && (len(now) != 1 || !sameVer(now[0], v)) {
			t.Fatal("it can be seen no more", s, w, v)
		}
	}
	for _, v := range s.Waits {
		now := append(findVers(x.Vers, v.Key, v.Stamp), findVers(x.Waits, v.Key, v.Stamp)...)
		if x.Slots[v.Key/2] == s.Slots[v.Key/2] && (len(now) != 1 || !sameVer(now[0], v)) {
			t.Fatal("it waits no more, and cannot be seen", s, w, v)
		}
	}
}

// checkNewlyThere has promises 51 and 52.
func checkNewlyThere(t *testing.T, s impl.Server, w impl.Word, x impl.Server) {
	t.Helper()
	made := func(d impl.Dep) bool {
		return w.Kind == impl.WordPut && d.Key == w.Key && d.Stamp.Site == s.Site && len(x.Owes) == len(s.Owes)+1
	}
	for _, v := range x.Vers {
		inWord := (w.Kind == impl.WordRep || w.Kind == impl.WordBulk) && (hasName(w.Vers, nameOf(v)) || hasName(w.Waits, nameOf(v)))
		if !hasName(s.Vers, nameOf(v)) && !inWord && !hasName(s.Waits, nameOf(v)) && !made(nameOf(v)) {
			t.Fatal("it comes from nowhere", s, w, v)
		}
	}
	for _, d := range x.Owes {
		if !slices.Contains(s.Owes, d) && !made(d) && !(w.Kind == impl.WordBulk && slices.Contains(w.Owes, d)) {
			t.Fatal("it is owed by nobody's word", s, w, d)
		}
	}
}

// checkLeftAlone has promises 38, 46, 48, 50 and 53: who looks, asks for what is not owned, or says what is not for a server to hear
// changes nothing, and the last two are answered nothing.
func checkLeftAlone(t *testing.T, s impl.Server, w impl.Word, x impl.Server, words []impl.Word) {
	t.Helper()
	asks := w.Kind == impl.WordPut || w.Kind == impl.WordGet
	elsewhere := asks && (w.From < impl.WordClient || impl.WordOk(w) && s.Slots[w.Key/2].Stand != impl.StandOwns)
	answer := w.Kind == impl.WordPutOk || w.Kind == impl.WordGetOk
	looks := w.Kind == impl.WordGet || w.Kind == impl.WordCheck
	if (elsewhere || answer || looks) && !sameServer(x, s) {
		t.Fatal("it changed", s, w, x)
	}
	if (elsewhere || answer) && len(words) > 0 {
		t.Fatal("it answered", s, w, words)
	}
}

// places has those of all sites, and all clients.
func places() []int {
	return []int{0, 1, 2, 3, 10, 11}
}

// to is words to a server, from each of these places.
func to(s impl.Server, from []int, words ...impl.Word) []impl.Word {
	var list []impl.Word
	for _, place := range from {
		for _, w := range words {
			w.From, w.To = place, s.Site
			list = append(list, w)
		}
	}
	return list
}

func farSites(s impl.Server) []int {
	return []int{(s.Site/2*2 + 2) % impl.Sites, (s.Site/2*2 + 3) % impl.Sites}
}

// few is at most so many of a list: its ends, and some between.
func few[E any](list []E, n int) []E {
	if len(list) <= n {
		return list
	}
	var some []E
	for i := range n {
		some = append(some, list[i*(len(list)-1)/(n-1)])
	}
	return some
}

// putsFor has puts of each key, by calls that were and calls that were not, of deps at the limits, by both clients.
func putsFor(s impl.Server) []impl.Word {
	var list []impl.Word
	for key := range impl.VerKeys {
		for _, call := range []int{0, 1, 47, impl.VerMaxCall} {
			for _, deps := range [][]impl.Dep{nil, {dep(0, 5, 0), dep(4, 30, 3)}, {dep(1, impl.StampMax-1, 1)}, {dep(1, 3, 1), dep(5, impl.StampMax, 2)}} {
				list = append(list, impl.Word{Kind: impl.WordPut, Call: call, Key: key, Val: 17, Deps: deps})
			}
		}
	}
	for _, v := range few(s.Vers, 8) {
		again := impl.Word{Kind: impl.WordPut, Call: v.Call, Key: v.Key, Val: v.Val, Deps: v.Deps}
		other := impl.Word{Kind: impl.WordPut, Call: v.Call, Key: v.Key, Val: 9999 - v.Val}
		beside := impl.Word{Kind: impl.WordPut, Call: v.Call, Key: v.Key ^ 1}
		list = append(list, again, other, beside)
	}
	return to(s, []int{10, 11}, list...)
}

// namesFor has versions of a server, deps of them, and others that are not there, by key and stamp.
func namesFor(s impl.Server) []impl.Dep {
	list := []impl.Dep{{Key: 3}, dep(0, 1, 0), dep(2, 9, 1), dep(5, impl.StampMax, 3)}
	for _, v := range append(few(s.Vers, 7), few(s.Waits, 7)...) {
		list = append(list, nameOf(v), dep(v.Key^1, v.Stamp.Time, v.Stamp.Site))
		list = append(list, v.Deps...)
	}
	return append(append(list, few(s.Owes, 5)...), few(s.Knows, 7)...)
}

// aboutFor has words about a key and stamp, of some kinds.
func aboutFor(s impl.Server, from []int, kinds ...int) []impl.Word {
	var list []impl.Word
	for _, kind := range kinds {
		for _, d := range namesFor(s) {
			list = append(list, impl.Word{Kind: kind, Call: 4, Key: d.Key, Stamp: d.Stamp})
		}
	}
	return to(s, from, list...)
}

func getsFor(s impl.Server) []impl.Word {
	var list []impl.Word
	for key := range impl.VerKeys {
		for _, call := range []int{0, 1, impl.VerMaxCall} {
			list = append(list, impl.Word{Kind: impl.WordGet, Call: call, Key: key})
		}
	}
	return append(to(s, []int{10, 11}, list...), aboutFor(s, []int{10}, impl.WordGet)...)
}

// repsFor has versions of the other side that came of nothing, of what is seen, of what is not; such as are there, or wait; of this side;
// none, and two.
func repsFor(s impl.Server) []impl.Word {
	far := farSites(s)
	var vers []impl.Ver
	for key := range impl.VerKeys {
		vers = append(vers, came(key, 40, far[0]), came(key, 41, far[1], dep(3, 39, far[0])), came(key, 40, s.Site), came(key, 40, otherOf(s.Site)))
		for _, v := range append(few(s.Vers, 4), few(s.Waits, 4)...) {
			vers = append(vers, came(key, 1000, far[1], nameOf(v)))
		}
	}
	vers = append(append(vers, few(s.Vers, 7)...), few(s.Waits, 7)...)
	list := []impl.Word{{Kind: impl.WordRep}, {Kind: impl.WordRep, Vers: []impl.Ver{came(0, 40, far[0]), came(1, 40, far[0])}}}
	for _, v := range vers {
		list = append(list, impl.Word{Kind: impl.WordRep, Vers: []impl.Ver{v}})
	}
	return to(s, far, list...)
}

// partsFor has what may come with a slot: nothing, things of it, of another one, such as are here, and such as may not be.
func partsFor(s impl.Server, slot int) []impl.Word {
	far, key := farSites(s), 2*slot
	mine, other := came(key, 50, s.Site), came((key+2)%impl.VerKeys, 50, s.Site)
	parts := []impl.Word{
		{},
		{Vers: []impl.Ver{mine}, Waits: []impl.Ver{came(key, 60, far[0], dep(1, 59, far[1])), came(key+1, 60, far[0], nameOf(mine))}, Owes: []impl.Dep{nameOf(mine)}},
		{Vers: []impl.Ver{came(key, 3, far[0]), came(key+1, 50, otherOf(s.Site))}},
		{Vers: []impl.Ver{other}, Owes: []impl.Dep{nameOf(other)}},
		{Waits: []impl.Ver{came((key+2)%impl.VerKeys, 60, far[1])}},
		{Waits: []impl.Ver{mine}},
		{Vers: []impl.Ver{came(key, 60, far[0])}, Waits: []impl.Ver{came(key, 60, far[0])}},
		{Owes: []impl.Dep{nameOf(mine)}},
		{Vers: few(s.Vers, 3)}, {Vers: s.Vers, Waits: s.Waits, Owes: s.Owes}, {Vers: s.Waits}, {Owes: s.Owes},
		{Vers: ofSlot(s.Vers, slot), Waits: ofSlot(s.Waits, slot)},
	}
	for i := range parts {
		parts[i].Kind, parts[i].Slot = impl.WordBulk, slot
	}
	return parts
}

// bulksFor has parcels, and answers to them, of each slot, by each number at its limits and near the one that is known.
func bulksFor(s impl.Server) []impl.Word {
	var list []impl.Word
	for slot := range impl.VerSlots {
		known := s.Slots[slot].Epoch
		for _, epoch := range []int{0, 1, max(0, known-1), known, min(impl.StampMax, known+1), impl.StampMax} {
			for _, part := range partsFor(s, slot) {
				part.Epoch = epoch
				list = append(list, part)
			}
			list = append(list, impl.Word{Kind: impl.WordBulkOk, Slot: slot, Epoch: epoch})
		}
	}
	return to(s, []int{otherOf(s.Site)}, list...)
}

// wordsFor has words of each kind that a server may hear, from whom it may hear them.
func wordsFor(s impl.Server) []impl.Word {
	list := slices.Concat(putsFor(s), getsFor(s), repsFor(s), bulksFor(s))
	list = append(list, aboutFor(s, farSites(s), impl.WordRepOk)...)
	return append(list, aboutFor(s, []int{otherOf(s.Site)}, impl.WordCheck, impl.WordHave)...)
}

// less has so much of each list that can be seen, that waits, and that is known.
func less(s impl.Server, vers int, waits int, knows int) impl.Server {
	s.Vers, s.Waits, s.Knows = s.Vers[:vers], s.Waits[:waits], s.Knows[:knows]
	s.Owes = slices.DeleteFunc(slices.Clone(s.Owes), func(d impl.Dep) bool { return !hasName(s.Vers, d) })
	return s
}

// hearServers has servers of each site: at first, busy, with slots that stand in each way, by the last number, with each list
// at its limit and one below, and settled ones.
func hearServers() []impl.Server {
	var list []impl.Server
	n := impl.ChainMax
	for site := range impl.Sites {
		busy, full := busyServer(site), fullServer(site)
		mixed := busy
		mixed.Slots = []impl.Slot{{Epoch: 3}, {Epoch: 4, Stand: impl.StandOwns}, {Epoch: 2, Stand: impl.StandLeaving}}
		mixed.Vers, mixed.Waits, mixed.Owes = notOfSlot(busy.Vers, 0), notOfSlot(busy.Waits, 0), debtsNotOfSlot(busy.Owes, 0)
		list = append(list, impl.ServerStart(site), busy, mixed, standing(busy, 6, impl.StandOwns), standing(busy, impl.StampMax, impl.StandLeaving))
		list = append(list, impl.ServerSettle(standing(busy, 6, impl.StandOwns)))
		atLimits := [][]impl.Server{{full, less(full, n-1, n, n)}, {less(full, n-2, n-1, n-1)}, {standing(full, 2, impl.StandLeaving)}, {less(full, n, n-1, n)}}
		list = append(list, atLimits[site]...)
	}
	return list
}

// Each kind of words, at ordinary servers and such as are at their limits: promises 34, 35, 38, 46, 48, 50 to 53, and the document's words.
func TestServersHear(t *testing.T) {
	t.Parallel()
	done := map[int]int{}
	for _, s := range hearServers() {
		for _, w := range wordsFor(s) {
			if x, words := checkHeard(t, s, w); len(words) > 0 || !sameServer(x, s) {
				done[w.Kind]++
			}
		}
	}
	for _, kind := range []int{1, 3, 5, 6, 7, 8, 9, 10} {
		if done[kind] < 40 {
			t.Error("too few of these did something", kind, done)
		}
	}
}

// Promises 34 and 46: each kind from each place, and to each other place; what is not for a server to hear changes nothing.
func TestWordsFromElsewhere(t *testing.T) {
	t.Parallel()
	for site := range impl.Sites {
		for _, s := range []impl.Server{busyServer(site), standing(busyServer(site), 6, impl.StandOwns)} {
			for _, w := range few(wordsFor(s), 600) {
				for _, place := range places() {
					w.From = place
					checkHeard(t, s, w)
					w.To = place
					checkHeard(t, s, w)
					w.To = s.Site
				}
			}
		}
	}
}

// Promise 46: answers to clients, and what is of no kind, from wherever, with whatever is in them.
func TestWordsThatAreNotForServers(t *testing.T) {
	for _, s := range hearServers() {
		for _, kind := range []int{impl.WordPutOk, impl.WordGetOk, 0, -1, 11, 100} {
			for _, from := range places() {
				full := okWord()
				full.Kind, full.From, full.To = kind, from, s.Site
				for _, w := range []impl.Word{full, {Kind: kind, From: from, To: s.Site, Call: 1}} {
					if x, words := checkHeard(t, s, w); !sameServer(x, s) || len(words) > 0 {
						t.Error(s, w)
					}
				}
			}
		}
	}
}

// Promise 46: puts and reads of a site are none; of a client they are.
func TestPutsAndReadsOfSites(t *testing.T) {
	s := standing(busyServer(1), 6, impl.StandOwns)
	for _, place := range places() {
		for _, kind := range []int{impl.WordPut, impl.WordGet} {
			x, words := checkHeard(t, s, impl.Word{Kind: kind, From: place, To: 1, Call: 60, Key: 3})
			if (len(words) == 1) != (place >= 10) || sameServer(x, s) != (place < 10 || kind == impl.WordGet) {
				t.Error(place, kind, x, words)
			}
		}
	}
}

// Promise 34: one that is down does nothing, whatever it hears.
func TestServersThatAreDownHearNothing(t *testing.T) {
	t.Parallel()
	for _, up := range hearServers() {
		down := impl.ServerFall(up)
		for _, w := range few(wordsFor(up), 300) {
			if x, words := checkHeard(t, down, w); !sameServer(x, down) || len(words) > 0 {
				t.Error(down, w)
			}
		}
	}
}

// Promise 34: a word that is not ok does nothing, though just one part is wrong, and be it one that its kind does not need.
func TestWrongWordsAreNotHeard(t *testing.T) {
	t.Parallel()
	wrong := []func(w *impl.Word){
		func(w *impl.Word) { w.Call = -1 }, func(w *impl.Word) { w.Call = 100 }, func(w *impl.Word) { w.Val = -1 },
		func(w *impl.Word) { w.Val = 10000 }, func(w *impl.Word) { w.Key = 6 }, func(w *impl.Word) { w.Key = -1 },
		func(w *impl.Word) { w.Slot = 3 }, func(w *impl.Word) { w.Slot = -1 }, func(w *impl.Word) { w.Epoch = -1 },
		func(w *impl.Word) { w.Epoch = 10000 }, func(w *impl.Word) { w.Stamp = impl.Stamp{Site: 2} },
		func(w *impl.Word) { w.Stamp = impl.Stamp{Time: 10000} }, func(w *impl.Word) { w.From = 12 }, func(w *impl.Word) { w.From = -1 },
		func(w *impl.Word) { w.Deps = wrongDeps()[0] }, func(w *impl.Word) { w.Vers = wrongChains()[0] },
		func(w *impl.Word) { w.Waits = wrongChains()[0] }, func(w *impl.Word) { w.Owes = wrongDebts()[0] },
		func(w *impl.Word) { w.Kind += 10 }, func(w *impl.Word) { w.Kind = -w.Kind },
	}
	for site := range impl.Sites {
		s := busyServer(site)
		for _, w := range few(wordsFor(s), 300) {
			for i, change := range wrong {
				bad := w
				change(&bad)
				if x, words := checkHeard(t, s, bad); impl.WordOk(bad) || !sameServer(x, s) || len(words) > 0 {
					t.Error(i, bad)
				}
			}
		}
	}
}

// A server that is not ok has nothing, and says nothing.
func TestWrongServersHearNothing(t *testing.T) {
	words := wordsFor(busyServer(2))
	for i, s := range wrongServers() {
		for _, w := range few(words, 40) {
			if x, said := impl.ServerHear(s, w); !noServer(x) || len(said) > 0 {
				t.Error(i, w, x, said)
			}
		}
		if said := impl.ServerTend(s); len(said) > 0 {
			t.Error(i, said)
		}
	}
}

// Promises 48 and 50: of each key, at a server whose slot is owned, leaving, or not here, puts, reads and versions from the other side
// do something just where it is owned.
func TestWhoDoesNotOwnAKeyAnswersNothing(t *testing.T) {
	for site := range impl.Sites {
		for stand := range 3 {
			for slot := range impl.VerSlots {
				s := impl.Server{Site: site, Up: true, Slots: slotsAll(4, impl.StandOwns)}
				s.Slots[slot].Stand = stand
				for key := range impl.VerKeys {
					checkAnswered(t, s, key, key/2 != slot || stand == impl.StandOwns)
				}
			}
		}
	}
}

func checkAnswered(t *testing.T, s impl.Server, key int, want bool) {
	t.Helper()
	far := farSites(s)[0]
	words := []impl.Word{
		{Kind: impl.WordPut, From: 10, To: s.Site, Call: 1, Key: key, Val: 3},
		{Kind: impl.WordGet, From: 11, To: s.Site, Call: 1, Key: key},
		{Kind: impl.WordRep, From: far, To: s.Site, Vers: []impl.Ver{came(key, 7, far)}},
	}
	for _, w := range words {
		x, said := checkHeard(t, s, w)
		if (len(said) == 1) != want || !want && !sameServer(x, s) {
			t.Error(s, w, x, said)
		}
	}
}

// Promise 48: who lets a slot leave answers nothing of it to clients, and takes nothing, though it has all still.
func TestSlotsThatLeaveAreNotAnswered(t *testing.T) {
	for site := range impl.Sites {
		s := standing(busyServer(site), 6, impl.StandOwns)
		for slot := range impl.VerSlots {
			left, _, _ := impl.ServerMove(s, slot)
			for _, w := range slices.Concat(putsFor(s), getsFor(s), repsFor(s)) {
				key := w.Key
				if w.Kind == impl.WordRep {
					key = append(slices.Clone(w.Vers), impl.Ver{})[0].Key
				}
				x, words := checkHeard(t, left, w)
				if key/2 == slot && (len(words) > 0 || !sameServer(x, left)) {
					t.Error(left, w, words)
				}
			}
		}
	}
}

// Promise 53: looking changes nothing: neither reads nor checks, nor what a server says from time to time.
func TestLookingChangesNothing(t *testing.T) {
	t.Parallel()
	for _, s := range hearServers() {
		for _, w := range append(getsFor(s), aboutFor(s, []int{otherOf(s.Site)}, impl.WordCheck)...) {
			if x, _ := impl.ServerHear(s, w); !sameServer(x, s) {
				t.Error(s, w, x)
			}
		}
		was := wholeServer(s)
		impl.ServerTend(s)
		if !sameServer(wholeServer(s), was) {
			t.Error(s)
		}
	}
}
