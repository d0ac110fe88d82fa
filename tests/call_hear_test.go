package tests

import (
	"math"
	"slices"
	"testing"

	"loop.example/tombolo/impl"
)

// answering is an answer to a call, from a server of its side, by a kind.
func answering(c impl.Call, kind int, key int) impl.Word {
	return impl.Word{Kind: kind, From: 2 * c.Client, To: impl.WordClient + c.Client, Call: c.Num, Key: key}
}

// getOk is a first answer with a version; atOk one to what was needed.
func getOk(c impl.Call, v impl.Ver) impl.Word {
	w := answering(c, impl.WordGetOk, v.Key)
	w.Yes, w.Vers = true, []impl.Ver{v}
	return w
}

func atOk(c impl.Call, v impl.Ver) impl.Word {
	w := getOk(c, v)
	w.Stamp = v.Stamp
	return w
}

// noneOk is a first answer that there is no version.
func noneOk(c impl.Call, key int) impl.Word {
	return answering(c, impl.WordGetOk, key)
}

func putOk(c impl.Call, key int, s impl.Stamp) impl.Word {
	w := answering(c, impl.WordPutOk, key)
	w.Stamp = s
	return w
}

// newestBy is the newest of a key among all deps of all answers.
func newestBy(c impl.Call, key int) impl.Stamp {
	var newest impl.Stamp
	for _, a := range c.Got {
		newest = newer(newest, stampOf(a.Ver.Deps, key))
	}
	return newest
}

// neededBy is what a call with all answers needs, without the program.
func neededBy(c impl.Call) []impl.Dep {
	var list []impl.Dep
	for _, a := range c.Got {
		if newest := newestBy(c, a.Key); newest != (impl.Stamp{}) && olderThan(a, newest) {
			list = append(list, impl.Dep{Key: a.Key, Stamp: newest})
		}
	}
	return list
}

// calledBy is a call that hears a word, without the program.
func calledBy(c impl.Call, w impl.Word, time int) impl.Call {
	if !callOkBy(c, time) {
		return impl.Call{}
	}
	if !impl.WordOk(w) || w.To != 10+c.Client || w.Call != c.Num || !slices.Contains(c.Keys, w.Key) || c.End != 0 || c.Over || time <= c.Begin {
		return c
	}
	if c.Kind == 1 && w.Kind == 2 && w.Stamp != (impl.Stamp{}) {
		c.Stamp, c.End = w.Stamp, time
	}
	if c.Kind == 1 || w.Kind != 4 || w.Yes && (len(w.Vers) != 1 || w.Vers[0].Key != w.Key) {
		return c
	}
	a := none(w.Key)
	if w.Yes {
		a = yes(w.Vers[0])
	}
	i := slices.IndexFunc(c.Got, func(old impl.Answer) bool { return old.Key == a.Key })
	switch {
	case i < 0 && w.Stamp == impl.Stamp{}:
		c.Got = append(slices.Clone(c.Got), a)
		slices.SortFunc(c.Got, func(a impl.Answer, b impl.Answer) int { return a.Key - b.Key })
		if len(c.Got) < len(c.Keys) {
			return c
		}
		c.Needs = neededBy(c)
	case i >= 0 && w.Yes && slices.Contains(c.Needs, nameOf(a.Ver)):
		c.Got = slices.Clone(c.Got)
		c.Got[i] = a
		c.Needs = slices.DeleteFunc(slices.Clone(c.Needs), func(d impl.Dep) bool { return d.Key == a.Key })
	default:
		return c
	}
	if len(c.Needs) == 0 {
		c.End = time
	}
	return c
}

// checkCalled lets a call hear a word, and holds what comes of it against the document's words and the promises that hold of each one.
func checkCalled(t *testing.T, c impl.Call, w impl.Word, time int) impl.Call {
	t.Helper()
	x := impl.CallHear(c, w, time)
	if !sameCall(x, calledBy(c, w, time)) {
		t.Fatal("not what the document says", c, w, time, x)
	}
	if !impl.CallOk(c, time) {
		return x
	}
	checkGoesOn(t, c, x, time)
	checkFits(t, c, x)
	checkAsked(t, c, w, x)
	if !slices.Equal(impl.CallSaw(x), sawBy(x)) {
		t.Fatal("not what it saw", x, impl.CallSaw(x))
	}
	checkTwice(t, w, x, time)
	return x
}

// checkTwice, promise 57: a word that a call has just heard does nothing more, unless it is needed then. Ahead of its Begin, and at it, it was not heard.
func checkTwice(t *testing.T, w impl.Word, x impl.Call, time int) {
	t.Helper()
	needed := w.Yes && len(w.Vers) == 1 && slices.Contains(x.Needs, nameOf(w.Vers[0]))
	if time == math.MaxInt || time <= x.Begin || needed {
		return
	}
	if again := impl.CallHear(x, w, time+1); !sameCall(again, x) {
		t.Fatal("twice is not once", w, x, again)
	}
}

// checkGoesOn, promise 56: what a call has got stays for each key, or is newer, and one that has ended stays as it is.
func checkGoesOn(t *testing.T, c impl.Call, x impl.Call, time int) {
	t.Helper()
	same := x
	same.End, same.Stamp, same.Got, same.Needs = c.End, c.Stamp, c.Got, c.Needs
	if !impl.CallOk(x, time) || !sameCall(same, c) || c.End > 0 && !sameCall(x, c) {
		t.Fatal("it went back", c, x)
	}
	for _, a := range c.Got {
		b, there := answerTo(x, a.Key)
		if !there || !sameAnswer(a, b) && !(b.Yes && olderThan(a, b.Ver.Stamp)) {
			t.Fatal("an answer is lost", c, x)
		}
	}
}

// checkFits, promises 58 and 59: a read that ends by first answers has none that is older than what the others came of;
// what it still needs is what its answers came of, and newer than its answer of that key.
func checkFits(t *testing.T, c impl.Call, x impl.Call) {
	t.Helper()
	if len(c.Got) == len(c.Keys) || len(x.Got) < len(x.Keys) {
		return
	}
	for _, a := range x.Got {
		if newest := newestBy(x, a.Key); x.End > 0 && newest != (impl.Stamp{}) && olderThan(a, newest) {
			t.Fatal("it could not have been seen at once", x, a)
		}
	}
	for _, d := range x.Needs {
		a, there := answerTo(x, d.Key)
		if newestBy(x, d.Key) != d.Stamp || !there || !olderThan(a, d.Stamp) {
			t.Fatal("it needs something else", x, d)
		}
	}
}

// checkAsked, promise 64: what is answered newly is what the word says, and was asked for.
func checkAsked(t *testing.T, c impl.Call, w impl.Word, x impl.Call) {
	t.Helper()
	if sameCall(c, x) {
		return
	}
	sent := impl.CallWords(c)
	for _, a := range x.Got {
		if old, there := answerTo(c, a.Key); there && sameAnswer(a, old) {
			continue
		}
		if a.Key != w.Key || a.Yes != w.Yes || a.Yes && !sameVer(a.Ver, w.Vers[0]) {
			t.Fatal("that was not said", c, w, a)
		}
		if !slices.ContainsFunc(sent, func(s impl.Word) bool { return s.Key == a.Key && (s.Stamp == impl.Stamp{} || s.Stamp == a.Ver.Stamp) }) {
			t.Fatal("that was not asked for", c, w, a)
		}
	}
	if c.Kind == impl.CallPut && (x.Stamp != w.Stamp || w.Key != c.Keys[0]) {
		t.Fatal("that was not put", c, w, x)
	}
}

// versionsFor has versions of a key that a call may be told: some that came of each other, what is needed of it, and one beside that on each side.
func versionsFor(c impl.Call, key int) []impl.Ver {
	list := []impl.Ver{came(key, 1, 0), came(key, 5, 3), came(key, impl.StampMax, 3, fullDeps()...)}
	if slices.Contains([]int{1, 3, 4}, key) {
		list = append(list, versOf(key)...)
	}
	for _, d := range c.Needs {
		if d.Key == key {
			time, site := d.Stamp.Time, d.Stamp.Site
			list = append(list, came(key, time, site), came(key, time+1, site), came(key, time, (site+1)%4), came(key, max(1, time-1), site))
		}
	}
	return list
}

// answersFor has words to a call of each kind, with all that may be right or wrong in an answer.
func answersFor(c impl.Call) []impl.Word {
	var list []impl.Word
	for key := range impl.VerKeys {
		asked := noneOk(c, key)
		asked.Stamp = impl.Stamp{Time: 5, Site: 2}
		void, two, other, silent := noneOk(c, key), noneOk(c, key), getOk(c, came((key+2)%6, 5, 2)), getOk(c, came(key, 5, 2))
		void.Yes, two.Yes, other.Key, silent.Yes = true, true, key, false
		two.Vers = []impl.Ver{came(key, 1, 1), came(key, 5, 2)}
		list = append(list, noneOk(c, key), asked, void, two, other, silent)
		list = append(list, putOk(c, key, impl.Stamp{}), putOk(c, key, impl.Stamp{Time: 1}), putOk(c, key, impl.Stamp{Time: impl.StampMax, Site: 3}))
		for _, v := range versionsFor(c, key) {
			elsewhere := getOk(c, v)
			elsewhere.Stamp = impl.Stamp{Time: 2, Site: 2}
			list = append(list, getOk(c, v), atOk(c, v), elsewhere)
		}
	}
	return list
}

// Each call, each word, and times from ahead of Begin on: the document's words, and promises 56 to 60 and 64.
func TestCallsHear(t *testing.T) {
	changed, closed := 0, 0
	for _, c := range okCalls() {
		for _, w := range answersFor(c) {
			for _, time := range []int{4, 5, 6, 9, 10, 99999, math.MaxInt} {
				x := checkCalled(t, c, w, time)
				if noCall(x) || sameCall(x, c) {
					continue
				}
				changed++
				if x.End > 0 {
					closed++
				}
			}
		}
	}
	if changed < 1000 || closed < 300 {
		t.Error("too little happened", changed, closed)
	}
}

// Promise 61: an answer to another call, of another client, of another key, or of another kind changes nothing; who says it does not matter.
func TestAnswersToOtherCalls(t *testing.T) {
	for _, c := range okCalls() {
		for _, w := range answersFor(c) {
			good := checkCalled(t, c, w, 9)
			for _, from := range places() {
				w.From = from
				if x := checkCalled(t, c, w, 9); !sameCall(x, good) {
					t.Error(from, c, w, x)
				}
			}
			for _, change := range []func(w *impl.Word){
				func(w *impl.Word) { w.To = 21 - w.To }, func(w *impl.Word) { w.To -= 10 }, func(w *impl.Word) { w.To = 3 }, func(w *impl.Word) { w.Call-- },
				func(w *impl.Word) { w.Call = (w.Call + 1) % 100 }, func(w *impl.Word) { w.Call = 0 }, func(w *impl.Word) { w.Kind-- },
				func(w *impl.Word) { w.Kind++ }, func(w *impl.Word) { w.Kind = impl.WordPut }, func(w *impl.Word) { w.Kind = impl.WordBulkOk },
			} {
				bad := w
				change(&bad)
				if x := checkCalled(t, c, bad, 9); !sameCall(x, c) {
					t.Error(c, bad, x)
				}
			}
		}
	}
}

// A word that is not ok is none, be it wrong in something that is not asked for.
func TestWrongAnswers(t *testing.T) {
	heard := 0
	for _, c := range okCalls() {
		for _, w := range few(answersFor(c), 40) {
			if !sameCall(checkCalled(t, c, w, 9), c) {
				heard++
			}
			for i, change := range []func(w *impl.Word){
				func(w *impl.Word) { w.From = 4 }, func(w *impl.Word) { w.From = -1 }, func(w *impl.Word) { w.Val = -1 }, func(w *impl.Word) { w.Val = 10000 },
				func(w *impl.Word) { w.Slot = 3 }, func(w *impl.Word) { w.Slot = -1 }, func(w *impl.Word) { w.Epoch = -1 }, func(w *impl.Word) { w.Epoch = 10000 },
				func(w *impl.Word) { w.Key = -1 }, func(w *impl.Word) { w.Key = 6 }, func(w *impl.Word) { w.Stamp = impl.Stamp{Site: 1} }, func(w *impl.Word) { w.Stamp = impl.Stamp{Time: 10000} },
				func(w *impl.Word) { w.Deps = wrongDeps()[0] }, func(w *impl.Word) { w.Waits = wrongChains()[0] }, func(w *impl.Word) { w.Owes = wrongDebts()[0] },
				func(w *impl.Word) { w.Vers = []impl.Ver{{Key: w.Key}} }, func(w *impl.Word) { w.Kind += 10 }, func(w *impl.Word) { w.Call = 100 + w.Call },
			} {
				bad := w
				change(&bad)
				if x := checkCalled(t, c, bad, 9); impl.WordOk(bad) || !sameCall(x, c) {
					t.Error(i, c, bad, x)
				}
			}
			more := w
			more.Val, more.Deps, more.Slot, more.Epoch, more.Waits, more.Owes = 9, fullDeps(), 2, 7, someVers(), someDebts()
			if !sameCall(impl.CallHear(c, more, 9), impl.CallHear(c, w, 9)) {
				t.Error("what an answer has beside does not matter", c, w)
			}
		}
	}
	if heard < 60 {
		t.Error("too few that are heard", heard)
	}
}

// A call that is not ok up to the time is nothing.
func TestWrongCallsHearNothing(t *testing.T) {
	for i, c := range wrongCalls() {
		for _, w := range few(answersFor(readCall(1, 3)), 20) {
			for _, time := range []int{0, 5, 6, 9, math.MaxInt} {
				if x := impl.CallHear(c, w, time); !noCall(x) {
					t.Error(i, x)
				}
			}
		}
	}
	for _, c := range okCalls() {
		for _, time := range []int{math.MinInt, -1, 0, c.Begin - 1, c.End - 1} {
			if x := impl.CallHear(c, noneOk(c, c.Keys[0]), time); time < max(c.Begin, c.End) && !noCall(x) {
				t.Error(time, c, x)
			}
		}
	}
}

// Promise 63: an answer at the time when a call began, or ahead of it, is none; the next time is the first one.
func TestAnswersAheadOfBegin(t *testing.T) {
	for _, begin := range []int{1, 2, 5, 99998, math.MaxInt - 1} {
		put, read := putCall(3), readCall(1, 3)
		put.Begin, read.Begin = begin, begin
		said, told := putOk(put, 3, impl.Stamp{Time: 7, Site: 2}), getOk(read, oldOf(1))
		if !noCall(impl.CallHear(put, said, begin-1)) || !noCall(impl.CallHear(read, told, begin-1)) {
			t.Error("ahead", begin)
		}
		if !sameCall(checkCalled(t, put, said, begin), put) || !sameCall(checkCalled(t, read, told, begin), read) {
			t.Error("at", begin)
		}
		if x, y := checkCalled(t, put, said, begin+1), checkCalled(t, read, told, begin+1); x.End != begin+1 || len(y.Got) != 1 {
			t.Error("behind", begin)
		}
	}
}

// Promise 66: a put ends by the stamp that it is told, whoever made it, at the time when it is told; without a stamp it is told nothing.
func TestPutsEnd(t *testing.T) {
	for _, s := range okStamps() {
		for _, time := range []int{6, 7, 99999} {
			c := putCall(4)
			x := checkCalled(t, c, putOk(c, 4, s), time)
			if x.Stamp != s || x.End != time || len(impl.CallWords(x)) > 0 {
				t.Error(s, time, x)
			}
			if again := checkCalled(t, x, putOk(c, 4, impl.Stamp{Time: 77, Site: 1}), time+1); !sameCall(again, x) {
				t.Error("it has ended", again)
			}
		}
	}
	c := putCall(4)
	for _, w := range []impl.Word{putOk(c, 4, impl.Stamp{}), putOk(c, 5, impl.Stamp{Time: 7}), putOk(c, 3, impl.Stamp{Time: 7}), atOk(c, came(4, 7, 2)), getOk(c, came(4, 7, 2))} {
		if x := checkCalled(t, c, w, 7); !sameCall(x, c) {
			t.Error(w, x)
		}
	}
}

// Promise 65: a call that was given up hears nothing any more, in whatever phase it was.
func TestCallsThatWereGivenUp(t *testing.T) {
	for _, c := range okCalls() {
		if c.End > 0 {
			continue
		}
		gone := over(c)
		for _, w := range answersFor(c) {
			if x := checkCalled(t, gone, w, 9); !sameCall(x, gone) {
				t.Error(gone, w, x)
			}
		}
		if len(impl.CallWords(gone)) > 0 {
			t.Error(gone)
		}
	}
}
