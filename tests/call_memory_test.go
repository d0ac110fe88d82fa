package tests

import (
	"slices"
	"testing"

	"loop.example/tombolo/impl"
)

// roomyCall has spare room behind each list, in which marks stand.
func roomyCall(c impl.Call) impl.Call {
	c.Keys = append(slices.Clone(c.Keys), 77, 77, 77, 77)[:len(c.Keys)]
	c.Ctx, c.Needs = roomy(c.Ctx), roomy(c.Needs)
	got := slices.Clone(c.Got)
	for i := range got {
		got[i].Ver.Deps = roomy(got[i].Ver.Deps)
	}
	mark := impl.Answer{Key: 77, Ver: impl.Ver{Key: 77}}
	c.Got = append(got, mark, mark, mark, mark)[:len(c.Got)]
	return c
}

// wholeCall has all of a call, the spare room of its lists included, in memory of its own.
func wholeCall(c impl.Call) impl.Call {
	c.Keys, c.Ctx, c.Needs = slices.Clone(c.Keys[:cap(c.Keys)]), slices.Clone(c.Ctx[:cap(c.Ctx)]), slices.Clone(c.Needs[:cap(c.Needs)])
	c.Got = slices.Clone(c.Got[:cap(c.Got)])
	for i := range c.Got {
		deps := c.Got[i].Ver.Deps
		c.Got[i].Ver.Deps = slices.Clone(deps[:cap(deps)])
	}
	return c
}

// spoilCall writes all over a call's lists, their spare room included.
func spoilCall(c impl.Call) {
	keys, got := c.Keys[:cap(c.Keys)], c.Got[:cap(c.Got)]
	for i := range keys {
		keys[i] = 88
	}
	spoil(c.Ctx)
	spoil(c.Needs)
	for i := range got {
		spoil(got[i].Ver.Deps)
		got[i] = impl.Answer{Key: 88, Ver: impl.Ver{Key: 88}}
	}
}

// said is what one of the functions of calls answers, a call, words, or deps.
type said struct {
	call  impl.Call
	words []impl.Word
	deps  []impl.Dep
}

func (a said) whole() said {
	return said{wholeCall(a.call), told{words: a.words}.whole().words, slices.Clone(a.deps[:cap(a.deps)])}
}

func (a said) spoil() {
	spoilCall(a.call)
	told{words: a.words}.spoil()
	spoil(a.deps)
}

func sameSaid(a said, b said) bool {
	return sameCall(a.call, b.call) && sameWords(a.words, b.words) && slices.Equal(a.deps, b.deps)
}

// callFunctions has each function of calls that answers lists.
func callFunctions() []func(c impl.Call, w impl.Word) said {
	return []func(c impl.Call, w impl.Word) said{
		func(c impl.Call, w impl.Word) said { return said{words: impl.CallWords(c)} },
		func(c impl.Call, w impl.Word) said { return said{call: impl.CallHear(c, w, 9)} },
		func(c impl.Call, w impl.Word) said { return said{deps: impl.CallSaw(c)} },
	}
}

// memoryAnswers has words that a call hears, and such as do nothing.
func memoryAnswers(c impl.Call) []impl.Word {
	list := []impl.Word{okWord(), {}, noneOk(c, c.Keys[0]), putOk(c, c.Keys[0], impl.Stamp{Time: 4, Site: 1})}
	for _, key := range c.Keys {
		list = append(list, noneOk(c, key), getOk(c, came(key, 4, 2, dep(1, 3, 3), dep(3, 3, 3), dep(4, 3, 3))))
		if slices.Contains([]int{1, 3, 4}, key) {
			list = append(list, getOk(c, midOf(key)), getOk(c, newOf(key)), atOk(c, midOf(key)), atOk(c, newOf(key)))
		}
	}
	return list
}

// Every answer is new memory, spare room included, and nothing is written into an argument or behind its end.
func TestAnswersOfCallsAreNewMemory(t *testing.T) {
	for _, given := range append(okCalls(), few(wrongCalls(), 20)...) {
		if len(given.Keys) == 0 {
			given.Keys = []int{0, 0}
		}
		for _, word := range memoryAnswers(given) {
			for _, call := range callFunctions() {
				checkCallMemory(t, given, word, call)
			}
		}
	}
}

func checkCallMemory(t *testing.T, given impl.Call, word impl.Word, call func(c impl.Call, w impl.Word) said) {
	t.Helper()
	c, w := roomyCall(given), roomyWord(word)
	wasCall, wasWord := wholeCall(c), wholeWord(w)
	first, second, want := call(c, w), call(c, w), call(c, w).whole()
	behind := second.whole()
	if !sameSaid(behind, want) || !sameSaid(behind, first.whole()) {
		t.Fatal("not answered alike", given, word)
	}
	first.spoil()
	if !sameSaid(second.whole(), behind) || !sameCall(wholeCall(c), wasCall) || !sameWord(wholeWord(w), wasWord) {
		t.Fatal("the answer shares memory, or an argument was written into", given, word)
	}
	spoilCall(c)
	spoilWord(w)
	if !sameSaid(second.whole(), behind) {
		t.Fatal("the answer shares memory with an argument", given, word)
	}
}

// listsOfCall is all deps of a call.
func listsOfCall(c impl.Call) [][]impl.Dep {
	lists := [][]impl.Dep{c.Ctx, c.Needs}
	for _, a := range c.Got[:cap(c.Got)] {
		lists = append(lists, a.Ver.Deps)
	}
	return lists
}

// checkDepsApart writes another mark all over each list: none may be found in another one.
func checkDepsApart(t *testing.T, lists [][]impl.Dep) {
	t.Helper()
	for i, list := range lists {
		all := list[:cap(list)]
		for j := range all {
			all[j] = dep(i+1, 300, 300)
		}
	}
	for i, list := range lists {
		if slices.ContainsFunc(list[:cap(list)], func(d impl.Dep) bool { return d.Key != i+1 }) {
			t.Fatal("deps share memory with another list", i)
		}
	}
}

// tangledCall has deps, needs and what its answers came of one behind the other in one list, or all the same.
func tangledCall(c impl.Call) impl.Call {
	all := slices.Concat(c.Ctx, c.Needs, fullDeps())
	c.Ctx, c.Needs = all[:len(c.Ctx)], all[len(c.Ctx):len(c.Ctx)+len(c.Needs)]
	shared := all[len(c.Ctx)+len(c.Needs):]
	c.Got = slices.Clone(c.Got)
	for i := range c.Got {
		if c.Got[i].Yes && c.Got[i].Ver.Stamp.Time > 3 {
			c.Got[i].Ver.Deps = shared
		}
	}
	return c
}

// The lists of one answer share none with each other, also those of several words, not even where those of the arguments do.
func TestListsOfAnswersOfCallsAreApart(t *testing.T) {
	for _, given := range okCalls() {
		for _, word := range memoryAnswers(given) {
			c, w := tangledCall(given), tangledWord(word)
			if len(w.Vers) == 1 && w.Vers[0].Stamp.Time > 3 && len(c.Got) > 0 && c.Got[0].Yes {
				w.Vers[0].Deps = c.Got[0].Ver.Deps
			}
			x := impl.CallHear(c, w, 9)
			if noCall(x) && impl.CallOk(c, 9) {
				t.Fatal(c, w)
			}
			checkDepsApart(t, listsOfCall(x))
		}
		checkApart(t, told{words: impl.CallWords(given)})
	}
}

// A put goes out twice, in two words that share nothing, nor with what its client has seen.
func TestWordsOfOnePutAreApart(t *testing.T) {
	c := putCall(3)
	words := impl.CallWords(c)
	words[0].Deps[0] = dep(5, 5, 3)
	if words[1].Deps[0] != dep(0, 3, 2) || c.Ctx[0] != dep(0, 3, 2) {
		t.Error(words, c)
	}
}
