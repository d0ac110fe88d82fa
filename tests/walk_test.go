package tests

import (
	"slices"
	"testing"

	"loop.example/tombolo/impl"
)

// walk is four servers and two clients, words being lost, doubled, and brought at any time, by numbers that are the same in each run.
type walk struct {
	t       *testing.T
	number  uint32
	servers [impl.Sites]impl.Server
	radio   []impl.Word
	puts    [impl.VerClients][]impl.Word
	seen    [impl.VerClients][]impl.Dep
	say     func(client int)
	told    func(client int, word impl.Word)
}

func newWalk(t *testing.T, number int) *walk {
	w := &walk{t: t, number: uint32(number)*2654435761 + 1}
	w.say, w.told = w.asks, w.sees
	for site := range w.servers {
		w.servers[site] = impl.ServerStart(site)
	}
	return w
}

// below is the next of the numbers, below n.
func (w *walk) below(n int) int {
	w.number = w.number*1664525 + 1013904223
	return int(w.number>>8) % n
}

func (w *walk) send(words ...impl.Word) {
	w.radio = append(w.radio, words...)
}

// bring lets a word be heard where it is for; it stays under way, if it is doubled.
func (w *walk) bring(place int, doubled bool) {
	word := w.radio[place]
	if !doubled {
		w.radio = slices.Delete(w.radio, place, place+1)
	}
	if word.To < impl.WordClient {
		x, said := checkHeard(w.t, w.servers[word.To], word)
		w.servers[word.To] = x
		w.send(said...)
		return
	}
	w.told(word.To-impl.WordClient, word)
}

// sees: a client takes what it is told as it comes.
func (w *walk) sees(client int, word impl.Word) {
	if word.Kind == impl.WordPutOk {
		w.seen[client] = impl.DepsPut(w.seen[client], impl.Dep{Key: word.Key, Stamp: word.Stamp})
	}
	for _, v := range word.Vers {
		w.seen[client] = impl.DepsPut(impl.DepsJoin(w.seen[client], v.Deps), nameOf(v))
	}
}

// asks: a client puts, puts once more what it had put, or reads, at both servers of its side.
func (w *walk) asks(client int) {
	word := impl.Word{Kind: impl.WordGet, Call: 1, Key: w.below(impl.VerKeys)}
	switch puts := w.puts[client]; {
	case len(puts) > 0 && w.below(3) == 0:
		word = puts[w.below(len(puts))]
		word.Val = w.below(100)
	case len(puts) < 12 && w.below(2) == 0:
		word.Kind, word.Call, word.Val, word.Deps = impl.WordPut, len(puts)+1, w.below(100), w.seen[client]
		w.puts[client] = append(puts, word)
	}
	word.From = impl.WordClient + client
	for site := 2 * client; site < 2*client+2; site++ {
		word.To = site
		w.send(word)
	}
}

func (w *walk) step() {
	site := w.below(impl.Sites)
	s := &w.servers[site]
	switch kind := w.below(20); {
	case kind < 3:
		w.say(w.below(impl.VerClients))
	case kind < 5:
		w.send(checkTended(w.t, *s)...)
	case kind == 5:
		left, parcel, ok := impl.ServerMove(*s, w.below(impl.VerSlots))
		*s = left
		if ok {
			w.send(parcel)
		}
	case kind == 6 && s.Up:
		*s = impl.ServerFall(*s)
	case kind < 9:
		*s = impl.ServerRise(*s)
	case len(w.radio) > 0 && kind == 9:
		w.radio = slices.Delete(w.radio, 0, 1)
	case len(w.radio) > 0:
		w.bring(w.below(len(w.radio)), kind == 10)
	}
}

// calm lets all rise, and all that is said be heard, in turn.
func (w *walk) calm() {
	for range 20 {
		for site := range w.servers {
			w.servers[site] = impl.ServerRise(w.servers[site])
			w.send(checkTended(w.t, w.servers[site])...)
			for len(w.radio) > 0 {
				w.bring(0, false)
			}
		}
	}
}

// sideBy is all that can be seen on a side, in order, each version once, as the first server has it, without the program's chapter 43.
func sideBy(servers []impl.Server, side int) []impl.Ver {
	var all []impl.Ver
	for _, v := range slices.Concat(servers[2*side].Vers, servers[2*side+1].Vers) {
		if !hasName(all, nameOf(v)) {
			all = append(all, v)
		}
	}
	slices.SortFunc(all, verOrder)
	return all
}

func (w *walk) side(side int) []impl.Ver {
	return sideBy(w.servers[:], side)
}

// checkSides: all that a version came of can be seen where it can, and no two are of one call.
func (w *walk) checkSides() {
	w.t.Helper()
	for side := range 2 {
		all := w.side(side)
		calls := map[[2]int]int{}
		for _, v := range all {
			calls[[2]int{v.Client, v.Call}]++
			if calls[[2]int{v.Client, v.Call}] > 1 {
				w.t.Fatal("a put was done twice", side, v)
			}
			for _, d := range v.Deps {
				if !hasName(all, d) {
					w.t.Fatal("it came of what cannot be seen", side, v, d)
				}
			}
		}
	}
}

func (w *walk) checkCalm() {
	w.t.Helper()
	if !sameVers(w.side(0), w.side(1)) {
		w.t.Fatal("not the same", w.side(0), w.side(1))
	}
	for _, s := range w.servers {
		if len(s.Waits)+len(s.Owes)+len(s.Knows) > 0 || slices.ContainsFunc(s.Slots, func(x impl.Slot) bool { return x.Stand == impl.StandLeaving }) {
			w.t.Fatal("something is under way still", s)
		}
	}
}

// Promises 34 to 54 hold of servers as they come to be, at each word that one hears: from the start on, slots moving at any time,
// puts coming again and elsewhere, parcels old and new; and all is heard in the end.
func TestServersTogether(t *testing.T) {
	made, moved := 0, 0
	for number := range 60 {
		w := newWalk(t, number)
		for i := range 500 {
			w.step()
			if i%20 == 0 {
				w.checkSides()
			}
		}
		w.calm()
		w.checkSides()
		w.checkCalm()
		made += len(w.side(0))
		for _, s := range w.servers {
			moved += s.Slots[0].Epoch + s.Slots[1].Epoch + s.Slots[2].Epoch
		}
	}
	if made < 600 || moved < 1200 {
		t.Error("too little happened", made, moved)
	}
}
