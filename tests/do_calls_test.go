package tests

import (
	"math"
	"slices"
	"testing"

	"loop.example/tombolo/impl"
)

// checkBegins lets a call begin: it comes behind all others, and nothing else changes but the time.
func checkBegins(t *testing.T, w impl.Neck, e impl.NeckEvent, want impl.Call) {
	t.Helper()
	want.Client, want.Kind, want.Begin, want.Ctx = e.Client, e.Call, w.Time+1, w.Seen[e.Client]
	checkCan(t, w, e, func(x *impl.Neck) { x.Calls = append(x.Calls, want) })
}

// A call begins with its client's next Num, what that has seen as Ctx, and the time that it is then as Begin.
func TestCallsBegin(t *testing.T) {
	start, idle := impl.NeckStart(), idleNeck()
	for client := range impl.VerClients {
		for key := range impl.VerKeys {
			checkBegins(t, start, begin(client, impl.CallPut, key, 0, 0, 17), impl.Call{Num: 1, Keys: []int{key}, Val: 17})
			checkBegins(t, start, begin(client, impl.CallRead, key, 0, 0, 0), impl.Call{Num: 1, Keys: []int{key}})
			checkBegins(t, idle, begin(client, impl.CallPut, key, 0, 0, 17), impl.Call{Num: 5 - client, Keys: []int{key}, Val: 17})
			checkBegins(t, idle, begin(client, impl.CallRead, key, 0, 0, 0), impl.Call{Num: 5 - client, Keys: []int{key}})
		}
	}
}

// Keys of a read count as long as they rise: B above A, and then C above B; of a put A alone.
func TestKeysOfCallsThatBegin(t *testing.T) {
	w := idleNeck()
	for client := range impl.VerClients {
		num := 5 - client
		for _, c := range []struct {
			a    int
			b    int
			c    int
			want []int
		}{
			{0, 1, 2, []int{0, 1, 2}}, {1, 3, 5, []int{1, 3, 5}}, {3, 4, 5, []int{3, 4, 5}}, {0, 5, 0, []int{0, 5}}, {2, 4, 4, []int{2, 4}}, {2, 4, 3, []int{2, 4}},
			{2, 4, -1, []int{2, 4}}, {0, 0, 0, []int{0}}, {5, 0, 0, []int{5}}, {3, 3, 3, []int{3}}, {3, 2, 1, []int{3}}, {4, 4, 5, []int{4}}, {1, 1, 4, []int{1}},
			{3, 1, 2, []int{3}}, {3, 1, 5, []int{3}}, {2, 0, 6, []int{2}}, {0, -1, 5, []int{0}}, {0, -1, 0, []int{0}}, {5, 5, 6, []int{5}},
		} {
			checkBegins(t, w, begin(client, impl.CallRead, c.a, c.b, c.c, 0), impl.Call{Num: num, Keys: c.want})
			checkBegins(t, w, begin(client, impl.CallPut, c.a, c.b, c.c, 9), impl.Call{Num: num, Keys: []int{c.a}, Val: 9})
		}
		for _, far := range []int{-1, 6, 7, 100, math.MinInt} {
			checkBegins(t, w, begin(client, impl.CallPut, 4, far, 2, 9), impl.Call{Num: num, Keys: []int{4}, Val: 9})
			checkBegins(t, w, begin(client, impl.CallPut, 4, 5, far, 9), impl.Call{Num: num, Keys: []int{4}, Val: 9})
			checkCannot(t, w, begin(client, impl.CallPut, far, 1, 2, 9), begin(client, impl.CallRead, far, 1, 2, 0), begin(client, impl.CallRead, far, 0, 0, 0))
		}
		for _, high := range []int{6, 7, 100, math.MaxInt} {
			checkCannot(t, w, begin(client, impl.CallRead, 0, high, 0, 0), begin(client, impl.CallRead, 0, 1, high, 0), begin(client, impl.CallRead, 5, high, 3, 0))
		}
	}
}

// All keys from below the first one to above the last one: a read of three, two, or one of them, or none.
func TestKeysOfReadsOfAllWays(t *testing.T) {
	t.Parallel()
	w, could := impl.NeckStart(), 0
	eachWay(3, impl.VerKeys+2, func(way []int) {
		for _, call := range []int{impl.CallPut, impl.CallRead} {
			if _, done := checkDone(t, w, begin(1, call, way[0]-1, way[1]-1, way[2]-1, 3)); done {
				could++
			}
		}
	})
	if could < 500 {
		t.Error("too few", could)
	}
}

// A put has its Val, from 0 to VerMaxVal; a read has none, whatever is said.
func TestValuesOfCallsThatBegin(t *testing.T) {
	w := idleNeck()
	for _, val := range anyNumbers() {
		e := begin(0, impl.CallPut, 2, 0, 0, val)
		if val >= 0 && val <= impl.VerMaxVal {
			checkBegins(t, w, e, impl.Call{Num: 5, Keys: []int{2}, Val: val})
		} else {
			checkCannot(t, w, e)
		}
		checkBegins(t, w, begin(0, impl.CallRead, 2, 0, 4, val), impl.Call{Num: 5, Keys: []int{2}})
	}
}

// A client that is none begins nothing, sends nothing and gives up nothing, nor does a call begin that is of a Kind that is none.
func TestClientsAndCallsThatAreNone(t *testing.T) {
	for _, w := range []impl.Neck{impl.NeckStart(), busyNeck(), idleNeck()} {
		for _, n := range anyNumbers() {
			if n < 0 || n >= impl.VerClients {
				checkCannot(t, w, begin(n, impl.CallPut, 1, 0, 0, 1), begin(n, impl.CallRead, 1, 2, 0, 0))
				checkCannot(t, w, impl.NeckEvent{Kind: impl.NeckSends, Client: n}, impl.NeckEvent{Kind: impl.NeckGives, Client: n})
			}
			if n != impl.CallPut && n != impl.CallRead {
				checkCannot(t, w, begin(0, n, 1, 2, 3, 0), begin(1, n, 1, 0, 0, 4))
			}
		}
	}
}

// While an earlier call of its client waits none begins, of whatever kind; the other client's does not matter.
func TestCallsThatBeginWhileOneWaits(t *testing.T) {
	for client := range impl.VerClients {
		for _, call := range []int{impl.CallPut, impl.CallRead} {
			for _, first := range []impl.NeckEvent{begin(client, impl.CallPut, 1, 0, 0, 5), begin(client, impl.CallRead, 1, 2, 0, 5)} {
				w, _ := checkDone(t, impl.NeckStart(), first)
				checkCannot(t, w, begin(client, call, 1, 0, 0, 5), begin(client, call, 4, 5, 0, 0), first)
				checkBegins(t, w, begin(1-client, call, 3, 0, 0, 0), impl.Call{Num: 1, Keys: []int{3}})
				w, _ = checkDone(t, w, impl.NeckEvent{Kind: impl.NeckGives, Client: client})
				checkBegins(t, w, begin(client, call, 3, 0, 0, 0), impl.Call{Num: 2, Keys: []int{3}})
			}
		}
	}
	for client := range impl.VerClients {
		checkCannot(t, busyNeck(), begin(client, impl.CallPut, 1, 0, 0, 5), begin(client, impl.CallRead, 1, 0, 0, 5))
	}
}

// A call may begin at the time behind that at which the one ahead of it began, or ended.
func TestCallsBeginAtOnceBehindOthers(t *testing.T) {
	for _, ahead := range [][]impl.Call{{endedAt(callOf(0, 1, 3), 4)}, {endedAt(callOf(0, 2, 3), 4)}, {over(callOf(0, 1, 4))}, {over(callOf(0, 1, 3)), callOf(1, 1, 4)}} {
		ahead[0].Num = 1
		w := calledNeck(4, ahead...)
		checkBegins(t, w, begin(0, impl.CallRead, 0, 5, 0, 0), impl.Call{Num: 2, Keys: []int{0, 5}})
	}
}

// The twentieth call begins, one more does not, be they of both clients or of one alone: Nums end there, long ahead of VerMaxCall.
func TestNoMoreCallsBegin(t *testing.T) {
	for _, n := range []int{18, 19} {
		w := calledNeck(60, manyCalls(n)...)
		for client := range impl.VerClients {
			checkBegins(t, w, begin(client, impl.CallPut, 0, 0, 0, 1), impl.Call{Num: (n+1-client)/2 + 1, Keys: []int{0}, Val: 1})
		}
	}
	full := calledNeck(60, manyCalls(impl.NeckMaxCalls)...)
	checkCannot(t, full, begin(0, impl.CallPut, 0, 0, 0, 1), begin(1, impl.CallPut, 0, 0, 0, 1), begin(0, impl.CallRead, 0, 1, 2, 0), begin(1, impl.CallRead, 5, 0, 0, 0))
	w := impl.NeckStart()
	for num := 1; num <= impl.NeckMaxCalls; num++ {
		checkBegins(t, w, begin(1, impl.CallRead, 4, 0, 0, 0), impl.Call{Num: num, Keys: []int{4}})
		w, _ = checkDone(t, w, begin(1, impl.CallRead, 4, 0, 0, 0))
		w, _ = checkDone(t, w, impl.NeckEvent{Kind: impl.NeckGives, Client: 1})
	}
	checkCannot(t, w, begin(0, impl.CallPut, 0, 0, 0, 1), begin(1, impl.CallRead, 4, 0, 0, 0))
}

// The hundredth Num is none: a world with as many calls as would be ahead of it is not ok, so that nothing comes of it.
func TestTheHundredthNum(t *testing.T) {
	for _, n := range []int{98, 99, 100} {
		var list []impl.Call
		for num := 1; num <= n; num++ {
			list = append(list, over(callOf(0, num, num)))
		}
		w := calledNeck(n, list...)
		for _, e := range []impl.NeckEvent{begin(0, impl.CallPut, 0, 0, 0, 1), begin(1, impl.CallPut, 0, 0, 0, 1)} {
			if x, done := checkDone(t, w, e); done || !sameNeck(x, impl.Neck{}) {
				t.Error(n, x)
			}
		}
	}
}

// What is sent is what the call still needs, to both servers of its side, behind what is under way; sent again it is sent again.
func TestCallsAreSent(t *testing.T) {
	sent := 0
	for _, c := range okCalls() {
		c.Num = 1
		w := neckChange(func(w *impl.Neck) { w.Radio = []impl.Word{okWord(), {Kind: 1, From: 10}} }).of(calledNeck(9, c))
		e := impl.NeckEvent{Kind: impl.NeckSends, Client: c.Client}
		if c.End > 0 || c.Over {
			checkCannot(t, w, e)
			continue
		}
		words := wordsBy(c)
		x := checkCan(t, w, e, func(x *impl.Neck) { x.Radio = append(x.Radio, words...) })
		checkCan(t, x, e, func(x *impl.Neck) { x.Radio = append(x.Radio, words...) })
		sent += len(words)
		other := neckChange(func(w *impl.Neck) {
			w.Calls = append(w.Calls, endedAt(callOf(1-c.Client, 1, 6), 7), callOf(1-c.Client, 2, 8))
		}).of(w)
		checkCan(t, other, e, func(x *impl.Neck) { x.Radio = append(x.Radio, words...) })
	}
	if sent < 80 {
		t.Error("too few", sent)
	}
}

// A call that waits is given up, however far it has come, and stays else as it is; given up once, it is not given up again.
func TestCallsAreGivenUp(t *testing.T) {
	given := 0
	for _, c := range okCalls() {
		c.Num = 1
		w, e := calledNeck(9, c), impl.NeckEvent{Kind: impl.NeckGives, Client: c.Client}
		if c.End > 0 || c.Over {
			checkCannot(t, w, e)
			continue
		}
		given++
		x := checkCan(t, w, e, func(x *impl.Neck) { x.Calls[0] = over(c) })
		checkCannot(t, x, e, impl.NeckEvent{Kind: impl.NeckSends, Client: c.Client})
		checkCannot(t, w, impl.NeckEvent{Kind: impl.NeckGives, Client: 1 - c.Client})
	}
	if given < 20 {
		t.Error("too few", given)
	}
}

// Nobody sends, or gives up, anything at the start, nor when all calls are through.
func TestCallsThatDoNotWait(t *testing.T) {
	for _, w := range []impl.Neck{impl.NeckStart(), idleNeck(), calledNeck(60, manyCalls(20)...), calledNeck(60, endedAt(callOf(0, 1, 3), 9), endedAt(callOf(1, 1, 4), 8))} {
		for client := range impl.VerClients {
			checkCannot(t, w, impl.NeckEvent{Kind: impl.NeckSends, Client: client}, impl.NeckEvent{Kind: impl.NeckGives, Client: client})
		}
	}
}

// Each call hears each answer, at the time that it is then; when it ends, what it saw is what its client has seen, and else that stays.
func TestCallsHearWhatIsBrought(t *testing.T) {
	t.Parallel()
	heard, through := 0, 0
	for _, c := range okCalls() {
		c.Num = 1
		for _, word := range answersFor(c) {
			for _, time := range []int{max(c.Begin, c.End), 9} {
				seen := [][]impl.Dep{fullDeps(), {dep(2, 4, 3)}}
				w := neckChange(func(w *impl.Neck) { w.Radio, w.Seen = []impl.Word{okWord(), word, word}, seen }).of(calledNeck(time, c))
				want := calledBy(c, word, time+1)
				x := checkCan(t, w, impl.NeckEvent{Kind: impl.NeckBrings, Word: 1}, func(x *impl.Neck) {
					x.Radio, x.Calls[0] = slices.Delete(x.Radio, 1, 2), want
					if want.End > 0 && c.End == 0 {
						x.Seen[c.Client] = sawBy(want)
					}
				})
				if !sameCall(want, c) {
					heard++
				}
				if want.End > 0 && c.End == 0 {
					through++
					checkCannot(t, x, impl.NeckEvent{Kind: impl.NeckSends, Client: c.Client}, impl.NeckEvent{Kind: impl.NeckGives, Client: c.Client})
				}
			}
		}
	}
	if heard < 300 || through < 100 {
		t.Error("too little happened", heard, through)
	}
}

// An answer that is brought when none of its client's calls waits goes out, and changes nothing: it was given up, has ended, or was none.
func TestAnswersWhenNothingWaits(t *testing.T) {
	read := callOf(0, 2, 3)
	answer := noneOk(read, 1)
	for _, calls := range [][]impl.Call{nil, {over(callOf(0, 1, 1))}, {over(callOf(0, 1, 1)), over(read)}, {over(callOf(0, 1, 1)), endedAt(read, 5)}, {callOf(1, 1, 1)}} {
		w := calledNeck(9, calls...)
		w.Radio, w.Seen[0] = []impl.Word{answer, okWord()}, fullDeps()
		checkCan(t, w, impl.NeckEvent{Kind: impl.NeckBrings}, func(x *impl.Neck) { x.Radio = x.Radio[1:] })
		checkCan(t, w, impl.NeckEvent{Kind: impl.NeckBrings, Keep: 1}, nothing)
	}
}

// An answer to a call that was given up is none for the next one of its client.
func TestAnswersThatComeLate(t *testing.T) {
	first, second := over(callOf(0, 2, 3)), callOf(0, 3, 5)
	second.Kind, second.Keys, second.Val = impl.CallRead, []int{1, 3}, 0
	w := calledNeck(9, over(callOf(0, 1, 1)), first, second)
	w.Radio = []impl.Word{noneOk(first, 1), noneOk(second, 1)}
	checkCan(t, w, impl.NeckEvent{Kind: impl.NeckBrings}, func(x *impl.Neck) { x.Radio = x.Radio[1:] })
	checkCan(t, w, impl.NeckEvent{Kind: impl.NeckBrings, Word: 1}, func(x *impl.Neck) { x.Radio, x.Calls[2] = x.Radio[:1], with(second, none(1)) })
}

// A whole put, and a whole read, from when they begin: each part is what the document says, and each time is one more.
func TestWholeCalls(t *testing.T) {
	w := impl.NeckStart()
	do := func(e impl.NeckEvent) { w = checkDoes(t, w, e) }
	do(begin(0, impl.CallPut, 2, 0, 0, 5))
	do(impl.NeckEvent{Kind: impl.NeckSends, Client: 0})
	do(impl.NeckEvent{Kind: impl.NeckBrings, Word: 1})
	do(impl.NeckEvent{Kind: impl.NeckBrings, Word: 1})
	made := impl.Stamp{Time: 1, Site: 1}
	if c := w.Calls[0]; c.Begin != 1 || c.End != 4 || c.Stamp != made || !slices.Equal(w.Seen[0], []impl.Dep{{Key: 2, Stamp: made}}) || len(w.Seen[1]) > 0 || len(w.Radio) != 1 {
		t.Error(w)
	}
	do(begin(0, impl.CallRead, 1, 2, 0, 0))
	do(impl.NeckEvent{Kind: impl.NeckSends, Client: 0})
	if len(w.Radio) != 5 || !slices.Equal(w.Calls[1].Ctx, []impl.Dep{{Key: 2, Stamp: made}}) {
		t.Error(w)
	}
	for range 9 {
		do(impl.NeckEvent{Kind: impl.NeckBrings})
		if len(w.Radio) == 0 {
			break
		}
	}
	c := w.Calls[1]
	if c.End != 13 || len(c.Got) != 2 || c.Got[0].Yes || c.Got[1].Ver.Val != 5 || !slices.Equal(w.Seen[0], []impl.Dep{{Key: 2, Stamp: made}}) {
		t.Error(w)
	}
}

// checkDoes lets something happen that can be.
func checkDoes(t *testing.T, w impl.Neck, e impl.NeckEvent) impl.Neck {
	t.Helper()
	x, done := checkDone(t, w, e)
	if !done {
		t.Fatalf("it could not be %+v\n%+v", e, w)
	}
	return x
}
