package tests

import (
	"slices"
	"testing"

	"loop.example/tombolo/impl"
)

// filler is words under way that can be told from each other, and that nobody does anything with.
func filler(n int) []impl.Word {
	var list []impl.Word
	for i := range n {
		list = append(list, impl.Word{Kind: impl.WordPutOk, From: 3, To: impl.WordClient, Call: impl.VerMaxCall, Val: 100 + i})
	}
	return list
}

// roomFor is so many of the words as find room behind n others.
func roomFor(n int, words []impl.Word) []impl.Word {
	return words[:max(0, min(len(words), 60-n))]
}

// withRadio is the world with these words under way.
func withRadio(w impl.Neck, words ...impl.Word) impl.Neck {
	w.Radio = words
	return w
}

// A place of Radio that is none: below 0, at its end, and past it.
func TestWordsThatAreNone(t *testing.T) {
	for _, n := range []int{0, 1, 2, 59, 60} {
		w := withRadio(impl.NeckStart(), filler(n)...)
		for _, place := range append(anyNumbers(), n-1, n, n+1) {
			brings, keeps, loses := impl.NeckEvent{Kind: impl.NeckBrings, Word: place}, impl.NeckEvent{Kind: impl.NeckBrings, Word: place, Keep: 1}, impl.NeckEvent{Kind: impl.NeckLoses, Word: place}
			if place < 0 || place >= n {
				checkCannot(t, w, brings, keeps, loses)
				continue
			}
			out := func(x *impl.Neck) { x.Radio = slices.Delete(x.Radio, place, place+1) }
			checkCan(t, w, brings, out)
			checkCan(t, w, loses, out)
			checkCan(t, w, keeps, nothing)
		}
	}
}

// Promise 71: a word that is lost goes out, with Keep as without, whatever it is and whom it is for, and nothing else changes.
func TestWordsAreLost(t *testing.T) {
	for _, w := range []impl.Neck{busyNeck(), withRadio(idleNeck(), append(filler(58), okWord(), impl.Word{Kind: impl.WordPut, From: 10, Call: 1})...)} {
		for place := range w.Radio {
			for _, keep := range []int{0, 1, -1} {
				checkCan(t, w, impl.NeckEvent{Kind: impl.NeckLoses, Word: place, Keep: keep, At: 2, Client: 1, Slot: 1}, func(x *impl.Neck) {
					x.Radio = slices.Delete(x.Radio, place, place+1)
				})
			}
		}
	}
}

// A word is brought with whatever is not 0 as Keep, and stays where it is; it does what it does all the same.
func TestWordsThatAreKept(t *testing.T) {
	put := impl.Word{Kind: impl.WordPut, From: impl.WordClient, To: 1, Call: 1, Key: 2, Val: 5}
	w := withRadio(impl.NeckStart(), append(filler(2), put, filler(1)[0])...)
	s, words := impl.ServerHear(w.Servers[1], put)
	if len(s.Vers) != 1 || len(words) != 1 {
		t.Fatal(s, words)
	}
	for _, keep := range anyNumbers() {
		checkCan(t, w, impl.NeckEvent{Kind: impl.NeckBrings, Word: 2, Keep: keep}, func(x *impl.Neck) {
			if keep == 0 {
				x.Radio = slices.Delete(x.Radio, 2, 3)
			}
			x.Servers[1], x.Radio = s, append(x.Radio, words...)
		})
	}
}

// Promise 72: a word to a server that is down goes out, unless it is kept, and does nothing.
func TestWordsToServersThatAreDown(t *testing.T) {
	for site := range impl.Sites {
		down := fallen(busyServer(site))
		for _, word := range few(wordsFor(busyServer(site)), 200) {
			w := withRadio(impl.NeckStart(), okWord(), word)
			w.Servers[site] = down
			checkCan(t, w, impl.NeckEvent{Kind: impl.NeckBrings, Word: 1}, func(x *impl.Neck) { x.Radio = x.Radio[:1] })
			checkCan(t, w, impl.NeckEvent{Kind: impl.NeckBrings, Word: 1, Keep: 1}, nothing)
		}
	}
}

// Each server hears each word, wherever it stands in Radio; what comes of it is what ServerHear says.
func TestServersHearWhatIsBrought(t *testing.T) {
	t.Parallel()
	answered := 0
	for site := range impl.Sites {
		given := busyServer(site)
		for i, word := range few(wordsFor(given), 300) {
			w := withRadio(impl.NeckStart(), filler(i%4)...)
			w.Servers[site] = given
			place := i % (len(w.Radio) + 1)
			w.Radio = slices.Insert(w.Radio, place, word)
			s, words := heardBy(given, word)
			checkCan(t, w, impl.NeckEvent{Kind: impl.NeckBrings, Word: place}, func(x *impl.Neck) {
				x.Servers[site], x.Radio = s, append(slices.Delete(x.Radio, place, place+1), words...)
			})
			answered += len(words)
		}
	}
	if answered < 100 {
		t.Error("too few answers", answered)
	}
}

// A word that is for nobody's ears goes out, and nothing comes of it: to itself, of a kind that only others hear, or from the wrong one.
func TestWordsThatAreForNobody(t *testing.T) {
	for _, word := range []impl.Word{
		{Kind: impl.WordPut, From: 1, To: 1, Call: 1}, {Kind: impl.WordPutOk, From: 10, To: 0, Call: 1}, {Kind: impl.WordGetOk, From: 10, To: 11, Call: 1, Yes: true},
		{Kind: impl.WordBulkOk, From: 1, To: 10, Epoch: 1}, {Kind: impl.WordPut, From: 10, To: 11, Call: 1}, {Kind: impl.WordGet, From: 10, To: 10, Call: 1},
	} {
		checkCan(t, withRadio(impl.NeckStart(), word), impl.NeckEvent{Kind: impl.NeckBrings}, func(x *impl.Neck) { x.Radio = nil })
	}
}

// callSending has a call that sends so many words: 2, 4 or 6.
func callSending(words int) impl.Neck {
	c := readCall([]int{1, 3, 4}[:words/2]...)
	c.Client, c.Num = 1, 1
	return calledNeck(9, c)
}

// Words that are sent find room for all, for some of them, the first ones, or for none.
func TestWordsThatFindNoRoom(t *testing.T) {
	e := impl.NeckEvent{Kind: impl.NeckSends, Client: 1}
	for _, n := range []int{2, 4, 6} {
		given := callSending(n)
		words := wordsBy(given.Calls[0])
		if len(words) != n {
			t.Fatal(words)
		}
		for under := 50; under <= impl.NeckMaxRadio; under++ {
			w := withRadio(given, filler(under)...)
			x := checkCan(t, w, e, func(x *impl.Neck) { x.Radio = append(x.Radio, roomFor(under, words)...) })
			if want := min(under+n, 60); len(x.Radio) != want {
				t.Error(n, under, len(x.Radio))
			}
			again := checkCan(t, x, e, func(x *impl.Neck) { x.Radio = append(x.Radio, roomFor(len(x.Radio), words)...) })
			if want := min(under+2*n, 60); len(again.Radio) != want {
				t.Error(n, under, len(again.Radio))
			}
		}
	}
}

// tendingServer owes n versions, has a slot that is leaving, and waits for m others.
func tendingServer(site int, n int, m int) impl.Server {
	s := standing(impl.Server{Site: site, Up: true}, 4, impl.StandOwns)
	s.Slots[2].Stand = impl.StandLeaving
	for i := range n {
		s.Vers = append(s.Vers, came(0, 3+i, site))
		s.Owes = append(s.Owes, dep(0, 3+i, site))
	}
	for i := range m {
		s.Waits = append(s.Waits, came(1, 60+i, farSites(s)[0], dep(2, 3+i, site)))
	}
	return s
}

// A server that tends says its words as far as there is room, in order, and stays as it is.
func TestTendedWordsThatFindNoRoom(t *testing.T) {
	for site := range impl.Sites {
		for _, owed := range []int{0, 1, 3, 29, 30, 40} {
			w := impl.NeckStart()
			w.Servers[site] = tendingServer(site, owed, 5)
			words := tendedBy(w.Servers[site])
			if len(words) != 1+2*owed+5 {
				t.Fatal(words)
			}
			for _, under := range []int{0, 1, 30, 53, 54, 55, 57, 58, 59, 60} {
				x := checkCan(t, withRadio(w, filler(under)...), impl.NeckEvent{Kind: impl.NeckTends, At: site}, func(x *impl.Neck) {
					x.Radio = append(x.Radio, roomFor(under, words)...)
				})
				if want := min(under+len(words), 60); len(x.Radio) != want {
					t.Error(site, owed, under, len(x.Radio))
				}
			}
		}
	}
}

// A server that has nothing to say tends, and the time goes on; one that is down, or none, does not.
func TestServersThatTend(t *testing.T) {
	for site := range impl.Sites {
		checkCan(t, impl.NeckStart(), impl.NeckEvent{Kind: impl.NeckTends, At: site}, nothing)
		w := impl.NeckStart()
		w.Servers[site] = busyServer(site)
		words := tendedBy(w.Servers[site])
		checkCan(t, w, impl.NeckEvent{Kind: impl.NeckTends, At: site}, func(x *impl.Neck) { x.Radio = words })
		w.Servers[site] = fallen(w.Servers[site])
		checkCannot(t, w, impl.NeckEvent{Kind: impl.NeckTends, At: site})
	}
}

// What comes out makes room for what is sent in the same event; with Keep it does not, and the answer is lost, but what was done stays done.
func TestWordsComeOutAheadOfTheirAnswers(t *testing.T) {
	put := impl.Word{Kind: impl.WordPut, From: impl.WordClient, To: 1, Call: 1, Key: 2, Val: 5}
	s, words := impl.ServerHear(impl.ServerStart(1), put)
	for under := 57; under <= 59; under++ {
		for _, place := range []int{0, 1, 30, under} {
			w := withRadio(impl.NeckStart(), slices.Insert(filler(under), place, put)...)
			out := checkCan(t, w, impl.NeckEvent{Kind: impl.NeckBrings, Word: place}, func(x *impl.Neck) {
				x.Servers[1], x.Radio = s, append(slices.Delete(x.Radio, place, place+1), words...)
			})
			kept := checkCan(t, w, impl.NeckEvent{Kind: impl.NeckBrings, Word: place, Keep: 1}, func(x *impl.Neck) {
				x.Servers[1], x.Radio = s, append(x.Radio, roomFor(under+1, words)...)
			})
			if len(out.Radio) != under+1 || len(kept.Radio) != min(under+2, 60) {
				t.Error(under, place, len(out.Radio), len(kept.Radio))
			}
		}
	}
}

// A site that is none neither falls nor rises, tends nor moves; one that is does, if it is up, or is not.
func TestServersFallAndRiseInAWorld(t *testing.T) {
	for _, given := range []impl.Neck{impl.NeckStart(), busyNeck(), idleNeck()} {
		for _, site := range anyNumbers() {
			falls, rises := impl.NeckEvent{Kind: impl.NeckFalls, At: site}, impl.NeckEvent{Kind: impl.NeckRises, At: site}
			if site < 0 || site >= impl.Sites {
				checkCannot(t, given, falls, rises, impl.NeckEvent{Kind: impl.NeckTends, At: site}, impl.NeckEvent{Kind: impl.NeckMoves, At: site, Slot: 1})
				continue
			}
			w := given
			if !w.Servers[site].Up {
				checkCannot(t, w, falls)
				w = checkCan(t, w, rises, func(x *impl.Neck) { x.Servers[site].Up = true })
			}
			checkCannot(t, w, rises)
			w = checkCan(t, w, falls, func(x *impl.Neck) { x.Servers[site] = fallen(x.Servers[site]) })
			checkCannot(t, w, falls)
			w = checkCan(t, w, rises, func(x *impl.Neck) { x.Servers[site].Up = true })
			checkCannot(t, w, rises)
		}
	}
}

// A server that falls, rises, tends, or lets a slot leave does not settle: what could be seen waits on, till a word comes.
func TestWhatCouldBeSeenWaitsOn(t *testing.T) {
	w := impl.NeckStart()
	w.Servers[2].Waits = []impl.Ver{came(0, 9, 0), came(4, 8, 1)}
	w = checkCan(t, w, impl.NeckEvent{Kind: impl.NeckFalls, At: 2}, func(x *impl.Neck) { x.Servers[2].Up = false })
	w = checkCan(t, w, impl.NeckEvent{Kind: impl.NeckRises, At: 2}, func(x *impl.Neck) { x.Servers[2].Up = true })
	w = checkCan(t, w, impl.NeckEvent{Kind: impl.NeckTends, At: 2}, nothing)
	w = checkDoes(t, w, impl.NeckEvent{Kind: impl.NeckMoves, At: 2, Slot: 2})
	if len(w.Servers[2].Waits) != 2 || len(w.Servers[2].Vers) > 0 {
		t.Error(w)
	}
}

// Each slot of each server: it leaves, if it is owned there, and the parcel is sent; a slot that is none does not, nor one of a server that is down.
func TestSlotsMoveInAWorld(t *testing.T) {
	moved := 0
	for _, given := range []impl.Neck{impl.NeckStart(), busyNeck()} {
		for site, s := range given.Servers {
			for _, slot := range anyNumbers() {
				e := impl.NeckEvent{Kind: impl.NeckMoves, At: site, Slot: slot}
				left, parcel, ok := leftBy(s, slot)
				if !ok {
					checkCannot(t, given, e)
					continue
				}
				moved++
				w := checkCan(t, given, e, func(x *impl.Neck) { x.Servers[site], x.Radio = left, append(x.Radio, parcel) })
				checkCannot(t, w, e)
			}
		}
	}
	if moved < 8 {
		t.Error("too few", moved)
	}
}

// A slot moves though Radio is full: it is leaving then, and its parcel is lost, till the server tends.
func TestSlotsMoveThoughThereIsNoRoom(t *testing.T) {
	for under := 58; under <= 60; under++ {
		w := withRadio(impl.NeckStart(), filler(under)...)
		w.Servers[2].Vers = []impl.Ver{came(4, 3, 2)}
		left, parcel, _ := leftBy(w.Servers[2], 2)
		x := checkCan(t, w, impl.NeckEvent{Kind: impl.NeckMoves, At: 2, Slot: 2}, func(x *impl.Neck) {
			x.Servers[2], x.Radio = left, append(x.Radio, roomFor(under, []impl.Word{parcel})...)
		})
		if len(x.Radio) != min(under+1, 60) || x.Servers[2].Slots[2] != (impl.Slot{Epoch: 2, Stand: impl.StandLeaving}) {
			t.Error(under, x)
		}
		checkCan(t, withRadio(x), impl.NeckEvent{Kind: impl.NeckTends, At: 2}, func(x *impl.Neck) { x.Radio = []impl.Word{parcel} })
	}
}

// A slot at its last number does not move; one below it does.
func TestSlotsMoveUpToTheLastNumber(t *testing.T) {
	for _, epoch := range []int{impl.StampMax - 2, impl.StampMax - 1, impl.StampMax} {
		w, e := impl.NeckStart(), impl.NeckEvent{Kind: impl.NeckMoves, Slot: 2}
		w.Servers[0].Slots[2].Epoch = epoch
		if epoch == impl.StampMax {
			checkCannot(t, w, e)
			continue
		}
		x := checkDoes(t, w, e)
		if x.Servers[0].Slots[2] != (impl.Slot{Epoch: epoch + 1, Stand: impl.StandLeaving}) || x.Radio[0].Epoch != epoch+1 {
			t.Error(x)
		}
	}
}

// What an event's kind does not name does not matter.
func TestWhatKindsDoNotName(t *testing.T) {
	same := 0
	for _, w := range []impl.Neck{busyNeck(), idleNeck(), fullNeck(), impl.NeckStart()} {
		for _, e := range eventsOf(w)[:100] {
			x, done := checkDone(t, w, e)
			more := impl.NeckEvent{Kind: e.Kind, At: -7, Client: -7, Word: -7, Keep: -7, Slot: -7, Call: -7, A: -7, B: -7, C: -7, Val: -7}
			switch e.Kind {
			case impl.NeckBegins:
				more.Client, more.Call, more.A, more.B, more.C, more.Val = e.Client, e.Call, e.A, e.B, e.C, e.Val
			case impl.NeckSends, impl.NeckGives:
				more.Client = e.Client
			case impl.NeckBrings:
				more.Word, more.Keep = e.Word, e.Keep
			case impl.NeckLoses:
				more.Word = e.Word
			case impl.NeckMoves:
				more.At, more.Slot = e.At, e.Slot
			default:
				more.At = e.At
			}
			if y, again := checkDone(t, w, more); again != done || !sameNeck(x, y) {
				t.Error(e, x, y)
			}
			if done {
				same++
			}
		}
	}
	if same < 60 {
		t.Error("too few", same)
	}
}
