package tests

import (
	"math"
	"slices"
	"testing"

	"loop.example/tombolo/impl"
)

// waitsBy is the place of the client's call that waits, and -1, if there is none.
func waitsBy(w impl.Neck, client int) int {
	return slices.IndexFunc(w.Calls, func(c impl.Call) bool { return c.Client == client && c.End == 0 && !c.Over })
}

// sentBy puts words behind those that are under way, one by one.
func sentBy(w *impl.Neck, words ...impl.Word) {
	for _, word := range words {
		if len(w.Radio) < 60 {
			w.Radio = append(w.Radio, word)
		}
	}
}

// begunBy is a call that begins, as the document's table says it.
func begunBy(w impl.Neck, e impl.NeckEvent) impl.Call {
	c := impl.Call{Client: e.Client, Num: 1, Kind: e.Call, Keys: []int{e.A}, Ctx: w.Seen[e.Client], Begin: w.Time}
	for _, other := range w.Calls {
		if other.Client == e.Client {
			c.Num++
		}
	}
	switch read := e.Call == 2; {
	case read && e.B > e.A && e.C > e.B:
		c.Keys = []int{e.A, e.B, e.C}
	case read && e.B > e.A:
		c.Keys = []int{e.A, e.B}
	case !read:
		c.Val = e.Val
	}
	return c
}

// broughtTo lets a word be heard where it is for.
func broughtTo(w *impl.Neck, word impl.Word) {
	if word.To < 10 {
		s, words := impl.ServerHear(w.Servers[word.To], word)
		w.Servers[word.To] = s
		sentBy(w, words...)
		return
	}
	client := word.To - 10
	if place := waitsBy(*w, client); place >= 0 {
		w.Calls[place] = impl.CallHear(w.Calls[place], word, w.Time)
		if w.Calls[place].End > 0 {
			w.Seen[client] = impl.CallSaw(w.Calls[place])
		}
	}
}

// toSiteBy is what happens to a server, if it is one, and it can be.
func toSiteBy(w *impl.Neck, e impl.NeckEvent) bool {
	if e.At < 0 || e.At > 3 {
		return false
	}
	s := w.Servers[e.At]
	switch {
	case e.Kind == 6 && s.Up:
		w.Servers[e.At] = impl.ServerFall(s)
	case e.Kind == 7 && !s.Up:
		w.Servers[e.At] = impl.ServerRise(s)
	case e.Kind == 8 && s.Up:
		sentBy(w, impl.ServerTend(s)...)
	case e.Kind == 9:
		left, parcel, ok := impl.ServerMove(s, e.Slot)
		if ok {
			w.Servers[e.At] = left
			sentBy(w, parcel)
		}
		return ok
	default:
		return false
	}
	return true
}

// happensBy lets something happen to a world whose time is one more already; false, if it cannot be.
func happensBy(w *impl.Neck, e impl.NeckEvent) bool {
	call, isWord := waitsBy(*w, e.Client), e.Word >= 0 && e.Word < len(w.Radio)
	switch {
	case e.Kind == 1 && call < 0 && (e.Client == 0 || e.Client == 1):
		w.Calls = append(w.Calls, begunBy(*w, e))
		return neckOkBy(*w)
	case e.Kind == 2 && call >= 0:
		sentBy(w, impl.CallWords(w.Calls[call])...)
	case e.Kind == 3 && call >= 0:
		w.Calls[call].Over = true
	case (e.Kind == 4 || e.Kind == 5) && isWord:
		word := w.Radio[e.Word]
		if e.Keep == 0 || e.Kind == 5 {
			w.Radio = slices.Delete(w.Radio, e.Word, e.Word+1)
		}
		if e.Kind == 4 {
			broughtTo(w, word)
		}
	default:
		return toSiteBy(w, e)
	}
	return true
}

// doneBy is what the document says of what happens, without the program's chapter 42.
func doneBy(w impl.Neck, e impl.NeckEvent) (impl.Neck, bool) {
	if !neckOkBy(w) {
		return impl.Neck{}, false
	}
	x := neckChange(func(x *impl.Neck) { x.Time++ }).of(w)
	if w.Time == 99999 || !happensBy(&x, e) {
		return w, false
	}
	return x, true
}

// checkDone lets something happen, and holds what comes of it against the document's words, and the promises that hold of each event.
func checkDone(t *testing.T, w impl.Neck, e impl.NeckEvent) (impl.Neck, bool) {
	t.Helper()
	x, done := impl.NeckDo(w, e)
	want, wantDone := doneBy(w, e)
	if done != wantDone || !sameNeck(x, want) {
		t.Fatalf("not what the document says\n%+v\n%+v\n%v %+v\n%v %+v", e, w, done, x, wantDone, want)
	}
	if !neckOkBy(w) {
		return x, done
	}
	checkWorldUnspoilt(t, w, e, x, done)
	checkOthersStay(t, w, e, x)
	checkServersGoOn(t, w, e, x)
	checkLookingAround(t, w, e, x)
	return x, done
}

// checkWorldUnspoilt has promises 68 and 71.
func checkWorldUnspoilt(t *testing.T, w impl.Neck, e impl.NeckEvent, x impl.Neck, done bool) {
	t.Helper()
	if !impl.NeckOk(x) || done && x.Time != w.Time+1 || !done && !sameNeck(x, w) {
		t.Fatal("it is spoilt", w, e, x, done)
	}
	if e.Kind != impl.NeckLoses || !done {
		return
	}
	same := x
	same.Time, same.Radio = w.Time, slices.Insert(slices.Clone(x.Radio), e.Word, w.Radio[e.Word])
	if !sameNeck(same, w) {
		t.Fatal("a lost word changed something", w, e, x)
	}
}

// toWhom is the server, and the client, that something may change; -1, if none.
func toWhom(w impl.Neck, e impl.NeckEvent) (int, int) {
	switch {
	case e.Kind == impl.NeckBegins || e.Kind == impl.NeckSends || e.Kind == impl.NeckGives:
		return -1, e.Client
	case e.Kind == impl.NeckFalls || e.Kind == impl.NeckRises || e.Kind == impl.NeckMoves:
		return e.At, -1
	case e.Kind == impl.NeckBrings && e.Word >= 0 && e.Word < len(w.Radio):
		if to := w.Radio[e.Word].To; to < impl.WordClient {
			return to, -1
		}
		return -1, w.Radio[e.Word].To - impl.WordClient
	}
	return -1, -1
}

// checkOthersStay has promises 70 and 73.
func checkOthersStay(t *testing.T, w impl.Neck, e impl.NeckEvent, x impl.Neck) {
	t.Helper()
	site, client := toWhom(w, e)
	for place, s := range w.Servers {
		if place != site && !sameServer(x.Servers[place], s) {
			t.Fatal("another server changed", place, w, e, x)
		}
	}
	for place, c := range w.Calls {
		if now := x.Calls[place]; !sameCall(now, c) && (c.Client != client || c.End > 0 || c.Over || e.Kind == impl.NeckSends || e.Kind == impl.NeckBegins) {
			t.Fatal("another call changed, or one that is through", place, w, e, x)
		}
	}
	for place, deps := range w.Seen {
		if !slices.Equal(x.Seen[place], deps) && (place != client || e.Kind != impl.NeckBrings) {
			t.Fatal("another one has seen something", place, w, e, x)
		}
	}
}

// wordsFrom is how many words are under way from a place.
func wordsFrom(w impl.Neck, place int) int {
	return len(slices.DeleteFunc(slices.Clone(w.Radio), func(word impl.Word) bool { return word.From != place }))
}

// checkServersGoOn has promises 72 and 75.
func checkServersGoOn(t *testing.T, w impl.Neck, e impl.NeckEvent, x impl.Neck) {
	t.Helper()
	for site, s := range w.Servers {
		now := x.Servers[site]
		if !s.Up && (!now.Up && !sameServer(now, s) || now.Up && (e.Kind != impl.NeckRises || e.At != site) || wordsFrom(x, site) > wordsFrom(w, site)) {
			t.Fatal("it did something, or was changed, while it was down", site, w, e, x)
		}
		for slot := range s.Slots {
			if now.Slots[slot].Epoch < s.Slots[slot].Epoch {
				t.Fatal("a slot's number fell", site, slot, w, e, x)
			}
		}
	}
}

// isReading says whether what happens is of a read: that it begins, is sent or given up, or a word of it, or of what it is answered, comes.
func isReading(w impl.Neck, e impl.NeckEvent) bool {
	switch place := waitsBy(w, e.Client); {
	case e.Kind == impl.NeckBegins:
		return e.Call == impl.CallRead
	case e.Kind == impl.NeckSends || e.Kind == impl.NeckGives:
		return place >= 0 && w.Calls[place].Kind == impl.CallRead
	case e.Kind == impl.NeckBrings && e.Word >= 0 && e.Word < len(w.Radio):
		return w.Radio[e.Word].Kind == impl.WordGet || w.Radio[e.Word].Kind == impl.WordGetOk
	}
	return false
}

// checkLookingAround has promises 79 and 80.
func checkLookingAround(t *testing.T, w impl.Neck, e impl.NeckEvent, x impl.Neck) {
	t.Helper()
	for site, s := range w.Servers {
		if e.Kind == impl.NeckTends && !sameServer(x.Servers[site], s) {
			t.Fatal("tending changed a server", site, w, e, x)
		}
		if isReading(w, e) && !sameVers(x.Servers[site].Vers, s.Vers) {
			t.Fatal("reading changed versions", site, w, e, x)
		}
	}
}

// checkCannot: what cannot be changes nothing, not even the time.
func checkCannot(t *testing.T, w impl.Neck, events ...impl.NeckEvent) {
	t.Helper()
	for _, e := range events {
		if x, done := checkDone(t, w, e); done || !sameNeck(x, w) {
			t.Errorf("%+v\n%+v\n%+v", e, w, x)
		}
	}
}

// checkCan: it can be, and what comes of it is so; the test says what, but for the time.
func checkCan(t *testing.T, w impl.Neck, e impl.NeckEvent, want neckChange) impl.Neck {
	t.Helper()
	x, done := checkDone(t, w, e)
	change := neckChange(func(x *impl.Neck) {
		x.Time++
		want(x)
	})
	if !done || !sameNeck(x, change.of(w)) {
		t.Fatalf("%+v\n%+v\n%v %+v", e, w, done, x)
	}
	return x
}

// nothing changes but the time.
func nothing(*impl.Neck) {}

// anyNumbers has small numbers, the ends of what clients, sites, slots, keys and kinds there are, and far ones.
func anyNumbers() []int {
	return []int{math.MinInt, math.MinInt + 1, -2, -1, 0, 1, 2, 3, 4, 5, 6, 7, 8, 9, 10, 11, 12, 59, 60, 61, 99, 9999, 10000, math.MaxInt - 1, math.MaxInt}
}

// idleNeck is a busy world none of whose calls waits.
func idleNeck() impl.Neck {
	w := busyNeck()
	w.Calls = made(w.Calls, func(c impl.Call) impl.Call {
		c.Over = c.End == 0
		return c
	})
	return w
}

// begin is that a client's call begins.
func begin(client int, call int, a int, b int, c int, val int) impl.NeckEvent {
	return impl.NeckEvent{Kind: impl.NeckBegins, Client: client, Call: call, A: a, B: b, C: c, Val: val}
}

func TestKindsOfEventsAreFixed(t *testing.T) {
	kinds := []int{
		impl.NeckBegins, impl.NeckSends, impl.NeckGives, impl.NeckBrings, impl.NeckLoses, impl.NeckFalls, impl.NeckRises, impl.NeckTends, impl.NeckMoves,
	}
	if !slices.Equal(kinds, []int{1, 2, 3, 4, 5, 6, 7, 8, 9}) {
		t.Error(kinds)
	}
}

// A Kind that is none cannot be, whatever else the event says.
func TestKindsThatAreNone(t *testing.T) {
	for _, w := range []impl.Neck{impl.NeckStart(), busyNeck(), idleNeck()} {
		for _, kind := range anyNumbers() {
			if kind < impl.NeckBegins || kind > impl.NeckMoves {
				checkCannot(t, w, impl.NeckEvent{Kind: kind}, impl.NeckEvent{Kind: kind, At: 2, Client: 1, Word: 3, Keep: 1, Slot: 1, Call: 1, A: 3, B: 4, C: 5, Val: 7})
			}
		}
	}
}

// eventsOf has events of each kind, of each server, client, word, slot and key, and of such as are none.
func eventsOf(w impl.Neck) []impl.NeckEvent {
	var list []impl.NeckEvent
	for _, n := range []int{-1, 0, 1, 2, 3, 4} {
		for kind := 0; kind <= impl.NeckMoves+1; kind++ {
			list = append(list, impl.NeckEvent{Kind: kind, At: n, Client: n, Word: n, Slot: n, Keep: n & 1, Call: n, A: n, B: n + 1, C: n + 2, Val: n})
		}
		for slot := -1; slot <= impl.VerSlots; slot++ {
			list = append(list, impl.NeckEvent{Kind: impl.NeckMoves, At: n, Slot: slot})
		}
	}
	for place := -1; place <= len(w.Radio); place++ {
		list = append(list, impl.NeckEvent{Kind: impl.NeckBrings, Word: place}, impl.NeckEvent{Kind: impl.NeckBrings, Word: place, Keep: 1}, impl.NeckEvent{Kind: impl.NeckLoses, Word: place})
	}
	for client := range impl.VerClients {
		list = append(list, begin(client, impl.CallPut, 3, 4, 5, 8), begin(client, impl.CallRead, 1, 3, 4, 8))
	}
	return list
}

// Promises 68, 70 to 73, 75, 79 and 80, of worlds of all kinds and each event that may be or may not.
func TestEventsOfAllWorlds(t *testing.T) {
	t.Parallel()
	could := [impl.NeckMoves + 1]int{}
	for _, w := range append(someNecks(), idleNeck()) {
		for _, e := range eventsOf(w) {
			if _, done := checkDone(t, w, e); done {
				could[e.Kind]++
			}
		}
	}
	if slices.Min(could[impl.NeckBegins:]) < 30 {
		t.Error("too little happened", could)
	}
}

// Promise 68: what happens in a world that is not ok is nothing, and false, be it something that could happen, or could not.
func TestWorldsThatAreNotOk(t *testing.T) {
	wrong := []impl.Neck{{}, {Time: 5}, {Servers: impl.NeckStart().Servers}, {Seen: impl.NeckStart().Seen}}
	for _, w := range []impl.Neck{impl.NeckStart(), busyNeck(), fullNeck()} {
		for _, change := range []neckChange{
			func(w *impl.Neck) { w.Time = -1 }, func(w *impl.Neck) { w.Time = impl.NeckMaxTime + 1 }, func(w *impl.Neck) { w.Servers = w.Servers[:3] },
			func(w *impl.Neck) { w.Servers = append(w.Servers, w.Servers[3]) }, func(w *impl.Neck) { w.Servers[0], w.Servers[1] = w.Servers[1], w.Servers[0] },
			func(w *impl.Neck) { w.Servers[2] = impl.Server{} }, func(w *impl.Neck) { w.Radio = append(w.Radio, impl.Word{}) },
			func(w *impl.Neck) { w.Radio = slices.Repeat([]impl.Word{okWord()}, 61) }, func(w *impl.Neck) { w.Seen = w.Seen[:1] },
			func(w *impl.Neck) { w.Seen = append(w.Seen, nil) }, func(w *impl.Neck) { w.Seen[1] = wrongDeps()[0] },
			func(w *impl.Neck) { w.Calls = append(w.Calls, callOf(0, 50, w.Time)) }, func(w *impl.Neck) { w.Time, w.Calls = 0, manyCalls(1) },
			func(w *impl.Neck) { w.Time, w.Calls = 99999, manyCalls(21) },
		} {
			wrong = append(wrong, change.of(w))
		}
	}
	for i, w := range wrong {
		if neckOkBy(w) {
			t.Error("it is ok", i, w)
		}
		for _, e := range eventsOf(impl.Neck{Radio: make([]impl.Word, 3)}) {
			if x, done := impl.NeckDo(w, e); done || !sameNeck(x, impl.Neck{}) {
				t.Error(i, e, x, done)
			}
		}
	}
}

// Promise 68: the time goes on by one up to NeckMaxTime, and then nothing can be.
func TestTheLastTime(t *testing.T) {
	for _, w := range []impl.Neck{impl.NeckStart(), busyNeck(), idleNeck()} {
		could := 0
		for _, e := range eventsOf(w) {
			_, can := checkDone(t, w, e)
			for _, time := range []int{impl.NeckMaxTime - 2, impl.NeckMaxTime - 1, impl.NeckMaxTime} {
				late := w
				late.Time = time
				x, done := checkDone(t, late, e)
				if done != (can && time < impl.NeckMaxTime) || done && x.Time != time+1 {
					t.Error(time, e, done)
				}
				if done {
					could++
				}
				if time == impl.NeckMaxTime-1 && done {
					checkCannot(t, x, eventsOf(x)[:40]...)
				}
			}
		}
		if could < 20 {
			t.Error("too little could be", could)
		}
	}
}
