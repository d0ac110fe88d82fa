package tests

import (
	"math"
	"slices"
	"testing"

	"loop.example/tombolo/impl"
)

// callOf is a call of a client that waits; its kind and keys go by its number.
func callOf(client int, num int, begin int) impl.Call {
	c := impl.Call{Client: client, Num: num, Kind: impl.CallRead, Keys: []int{1, 3}, Begin: begin}
	if num%2 == 1 {
		c.Kind, c.Keys, c.Val = impl.CallPut, []int{num % impl.VerKeys}, 7
	}
	return c
}

// endedAt is a call that has ended: a put has a stamp then, a read its answers; one that is given up instead has nothing.
func endedAt(c impl.Call, end int) impl.Call {
	if c.Kind == impl.CallRead {
		c = with(c, yes(oldOf(1)), none(3))
	}
	return ended(c, end)
}

// neckChange makes another world of one.
type neckChange func(w *impl.Neck)

// of is the world that is changed, the given one staying as it is.
func (change neckChange) of(w impl.Neck) impl.Neck {
	w.Servers, w.Radio, w.Calls, w.Seen = slices.Clone(w.Servers), slices.Clone(w.Radio), slices.Clone(w.Calls), slices.Clone(w.Seen)
	change(&w)
	return w
}

// busyNeck is a world with something in each part: busy servers, one that is down, words of each kind, calls of both clients in turn that
// have ended, were given up, or wait still, and what each client has seen.
func busyNeck() impl.Neck {
	w := impl.Neck{Time: 30, Seen: [][]impl.Dep{fullDeps(), {dep(2, 4, 3)}}}
	for site := range impl.Sites {
		w.Servers = append(w.Servers, busyServer(site))
	}
	w.Servers[2] = fallen(w.Servers[2])
	for kind := impl.WordPut; kind <= impl.WordBulkOk; kind++ {
		word := okWord()
		word.Kind = kind
		w.Radio = append(w.Radio, word)
	}
	w.Calls = []impl.Call{
		endedAt(callOf(0, 1, 1), 4), over(callOf(1, 1, 2)), endedAt(callOf(0, 2, 6), 20), endedAt(callOf(1, 2, 7), 8), over(callOf(0, 3, 21)),
		callOf(1, 3, 23), needs(with(callOf(0, 4, 24), yes(midOf(1)), none(3)), dep(3, 5, 2)),
	}
	return w
}

// manyCalls has n calls in form, of both clients in turn, each pair of Begins with a time between them.
func manyCalls(n int) []impl.Call {
	var list []impl.Call
	for i := range n {
		list = append(list, over(callOf(i%impl.VerClients, i/impl.VerClients+1, 2*i+1)))
	}
	return list
}

// fullNeck has as much as there may be in each part.
func fullNeck() impl.Neck {
	w := impl.Neck{Time: impl.NeckMaxTime, Seen: [][]impl.Dep{fullDeps(), fullDeps()}, Calls: manyCalls(impl.NeckMaxCalls)}
	for site := range impl.Sites {
		w.Servers = append(w.Servers, fullServer(site))
	}
	w.Radio = slices.Repeat([]impl.Word{okWord()}, impl.NeckMaxRadio)
	return w
}

// someNecks has worlds that are ok: at the start, with servers of all kinds, with words, with calls, with what clients have seen, and with all.
func someNecks() []impl.Neck {
	start := impl.NeckStart()
	list := []impl.Neck{start, busyNeck(), fullNeck()}
	add := func(change neckChange) { list = append(list, change.of(start)) }
	for _, s := range someServers() {
		add(func(w *impl.Neck) { w.Servers[s.Site] = s })
	}
	for _, n := range []int{1, 2, 10, impl.NeckMaxRadio} {
		add(func(w *impl.Neck) { w.Radio = slices.Repeat([]impl.Word{okWord(), {Kind: 1, From: 10}}, n)[:n] })
	}
	for _, c := range okCalls() {
		c.Num = 1
		add(func(w *impl.Neck) { w.Time, w.Calls = 9, []impl.Call{c} })
	}
	for _, n := range []int{1, 2, 3, impl.NeckMaxCalls} {
		add(func(w *impl.Neck) { w.Time, w.Calls = 2*n-1, manyCalls(n) })
	}
	for _, deps := range someDeps() {
		add(func(w *impl.Neck) { w.Seen = [][]impl.Dep{deps, fullDeps()} })
		add(func(w *impl.Neck) { w.Seen = [][]impl.Dep{{}, deps} })
	}
	return list
}

// inFormBehind says whether a call may stand behind others, without the program.
func inFormBehind(ahead []impl.Call, c impl.Call) bool {
	num := 1
	for _, other := range ahead {
		if other.Begin >= c.Begin {
			return false
		}
		if other.Client != c.Client {
			continue
		}
		num++
		if !other.Over && (other.End == 0 || other.End >= c.Begin) {
			return false
		}
	}
	return c.Num == num
}

// neckOkBy is whether a world is ok, without the program's chapter 41.
func neckOkBy(w impl.Neck) bool {
	if w.Time < 0 || w.Time > 99999 || len(w.Servers) != 4 || len(w.Radio) > 60 || len(w.Seen) != 2 || len(w.Calls) > 20 {
		return false
	}
	for place, s := range w.Servers {
		if s.Site != place || !impl.ServerOk(s) {
			return false
		}
	}
	for i, c := range w.Calls {
		if !callOkBy(c, w.Time) || !inFormBehind(w.Calls[:i], c) {
			return false
		}
	}
	return !slices.ContainsFunc(w.Radio, func(word impl.Word) bool { return !impl.WordOk(word) }) &&
		!slices.ContainsFunc(w.Seen, func(deps []impl.Dep) bool { return !impl.DepsOk(deps) })
}

// checkNeck holds what is said of a world against the document's words.
func checkNeck(t *testing.T, w impl.Neck, want bool) {
	t.Helper()
	if neckOkBy(w) != want {
		t.Fatal("the test does not know it", want, w)
	}
	if impl.NeckOk(w) != want {
		t.Fatal(want, w)
	}
}

// checkNecks asks of each change of a world that is ok.
func checkNecks(t *testing.T, w impl.Neck, want bool, changes ...neckChange) {
	t.Helper()
	checkNeck(t, w, true)
	for _, change := range changes {
		checkNeck(t, change.of(w), want)
	}
}

// checkLess, promise 67: what is less than a world that is ok is ok, without its words and its last calls; with a server less it is not.
func checkLess(t *testing.T, w impl.Neck) {
	t.Helper()
	checkNecks(t, w, true, func(w *impl.Neck) { w.Radio = nil }, func(w *impl.Neck) { w.Radio, w.Calls = nil, nil })
	for n := range w.Radio {
		checkNecks(t, w, true, func(w *impl.Neck) { w.Radio = slices.Delete(w.Radio, n, n+1) }, func(w *impl.Neck) { w.Radio = w.Radio[:n] },
			func(w *impl.Neck) { w.Radio = w.Radio[n:] })
	}
	for n := range w.Calls {
		checkNecks(t, w, true, func(w *impl.Neck) { w.Calls = w.Calls[:n] })
	}
	for n := range w.Servers {
		checkNecks(t, w, false, func(w *impl.Neck) { w.Servers = slices.Delete(w.Servers, n, n+1) }, func(w *impl.Neck) { w.Servers = w.Servers[:n] },
			func(w *impl.Neck) { w.Servers = slices.Insert(w.Servers, n, w.Servers[n]) }, func(w *impl.Neck) { w.Servers = append(w.Servers, w.Servers[n]) },
			func(w *impl.Neck) { w.Servers[n] = impl.Server{} })
	}
	checkNecks(t, w, false, func(w *impl.Neck) { w.Servers = nil })
}

func TestLimitsOfWorldsAreFixed(t *testing.T) {
	limits := []int{impl.NeckMaxRadio, impl.NeckMaxCalls, impl.NeckMaxTime, impl.NeckMaxCalm, impl.NeckMaxPlay}
	if !slices.Equal(limits, []int{60, 20, 99999, 40, 2000}) {
		t.Error(limits)
	}
}

// Promise 67, of a world at its start, and of ones that servers, words and calls have come to.
func TestWorldsWithLess(t *testing.T) {
	for _, w := range someNecks() {
		checkLess(t, w)
	}
}

// Without the first one of its client's calls, those behind it have the wrong numbers; without one of the other client's calls, nothing is amiss.
func TestWorldsWithoutACall(t *testing.T) {
	for _, w := range []impl.Neck{busyNeck(), fullNeck()} {
		for i, c := range w.Calls {
			more := slices.ContainsFunc(w.Calls[i+1:], func(other impl.Call) bool { return other.Client == c.Client })
			checkNecks(t, w, !more, func(w *impl.Neck) { w.Calls = slices.Delete(w.Calls, i, i+1) })
		}
		for client := range impl.VerClients {
			checkNecks(t, w, true, func(w *impl.Neck) {
				w.Calls = slices.DeleteFunc(w.Calls, func(c impl.Call) bool { return c.Client == client })
			})
		}
	}
}

// Nothing is no world: it has no servers, and nobody's seen.
func TestNothingIsNoWorld(t *testing.T) {
	start := impl.NeckStart()
	for _, w := range []impl.Neck{{}, {Time: 1}, {Servers: start.Servers}, {Seen: start.Seen}, {Servers: []impl.Server{}, Seen: [][]impl.Dep{}}} {
		checkNeck(t, w, false)
	}
	checkNeck(t, impl.Neck{Servers: start.Servers, Seen: start.Seen}, true)
}

func TestTimesOfWorlds(t *testing.T) {
	start, late := impl.NeckStart(), neckChange(func(w *impl.Neck) { w.Calls = nil }).of(fullNeck())
	for _, time := range []int{math.MinInt, -99999, -2, -1, 0, 1, 2, 99998, 99999, 100000, 100001, math.MaxInt} {
		want := time >= 0 && time <= impl.NeckMaxTime
		checkNecks(t, start, want, func(w *impl.Neck) { w.Time = time })
		checkNecks(t, late, want, func(w *impl.Neck) { w.Time = time })
	}
	checkNecks(t, fullNeck(), false, func(w *impl.Neck) { w.Time = impl.NeckMaxTime + 1 }, func(w *impl.Neck) { w.Time = 0 })
}

// Each server its place: others that have changed places are not ok, though each of them is.
func TestPlacesOfServers(t *testing.T) {
	for _, w := range []impl.Neck{impl.NeckStart(), busyNeck(), fullNeck()} {
		for _, order := range orders(impl.Sites) {
			want := slices.Equal(order, []int{0, 1, 2, 3})
			checkNecks(t, w, want, func(w *impl.Neck) {
				all := slices.Clone(w.Servers)
				for place, site := range order {
					w.Servers[place] = all[site]
				}
			})
		}
		for place := range impl.Sites {
			for _, site := range []int{math.MinInt, -1, 0, 1, 2, 3, 4, 10, math.MaxInt} {
				checkNecks(t, w, site == place, func(w *impl.Neck) { w.Servers[place] = startedAt(w.Servers[place], site) })
			}
		}
	}
}

// startedAt is the server, if it is of that site; else one at first of that site, or one whose Site is none.
func startedAt(s impl.Server, site int) impl.Server {
	if s.Site == site {
		return s
	}
	if x := impl.ServerStart(site); len(x.Slots) > 0 {
		return x
	}
	s.Site = site
	return s
}

// A server that is not ok, at each place.
func TestWrongServersOfWorlds(t *testing.T) {
	for _, wrong := range wrongServers() {
		for place := range impl.Sites {
			w := impl.NeckStart()
			w.Servers[place] = wrong
			checkNeck(t, w, false)
			w.Servers[place].Site = place
			checkNeck(t, w, impl.ServerOk(w.Servers[place]))
		}
	}
}

func TestServersOfWorldsAreFour(t *testing.T) {
	start := impl.NeckStart()
	for _, n := range []int{0, 1, 2, 3, 4, 5, 8, 500} {
		checkNecks(t, start, n == impl.Sites, func(w *impl.Neck) { w.Servers = slices.Repeat(w.Servers, n)[:n] })
	}
}

// Words as many as may be, and one more; each of them ok or not, first, last and in their midst.
func TestWordsOfWorlds(t *testing.T) {
	w := fullNeck()
	for _, n := range []int{0, 1, 59, 60, 61, 62, 1000} {
		checkNecks(t, w, n <= impl.NeckMaxRadio, func(w *impl.Neck) { w.Radio = slices.Repeat([]impl.Word{{Kind: 10, To: 11}}, n) })
	}
	checkNecks(t, w, false, func(w *impl.Neck) { w.Radio = append(w.Radio, okWord()) })
	for _, change := range []func(w *impl.Word){
		func(w *impl.Word) { *w = impl.Word{} }, func(w *impl.Word) { w.Kind = 11 }, func(w *impl.Word) { w.To = 12 }, func(w *impl.Word) { w.From = -1 },
		func(w *impl.Word) { w.Call = 100 }, func(w *impl.Word) { w.Stamp = impl.Stamp{Site: 1} }, func(w *impl.Word) { w.Deps = wrongDeps()[0] },
		func(w *impl.Word) { w.Vers = wrongChains()[0] }, func(w *impl.Word) { w.Owes = wrongDebts()[0] },
	} {
		wrong := okWord()
		change(&wrong)
		checkNecks(t, impl.NeckStart(), false, func(w *impl.Neck) { w.Radio = []impl.Word{wrong} })
		for place := range w.Radio {
			checkNecks(t, w, false, func(w *impl.Neck) { w.Radio[place] = wrong })
		}
	}
}

// What is seen: of each client, and of no other one; deps that are not ok, or not in order, of each client.
func TestSeenOfWorlds(t *testing.T) {
	for _, w := range []impl.Neck{impl.NeckStart(), busyNeck(), fullNeck()} {
		for _, n := range []int{0, 1, 2, 3, 4, 100} {
			checkNecks(t, w, n == impl.VerClients, func(w *impl.Neck) { w.Seen = make([][]impl.Dep, n) },
				func(w *impl.Neck) { w.Seen = slices.Repeat([][]impl.Dep{fullDeps()}, n) })
		}
		checkNecks(t, w, false, func(w *impl.Neck) { w.Seen = w.Seen[1:] }, func(w *impl.Neck) { w.Seen = append(w.Seen, nil) })
		for client := range impl.VerClients {
			for _, deps := range wrongDeps() {
				checkNecks(t, w, false, func(w *impl.Neck) { w.Seen[client] = deps })
			}
			for _, deps := range someDeps() {
				checkNecks(t, w, true, func(w *impl.Neck) { w.Seen[client] = deps })
			}
		}
	}
}
