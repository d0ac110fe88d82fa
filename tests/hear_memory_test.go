package tests

import (
	"slices"
	"testing"

	"loop.example/tombolo/impl"
)

// roomyWord has spare room behind each list, in which marks stand.
func roomyWord(w impl.Word) impl.Word {
	w.Deps, w.Vers, w.Waits, w.Owes = roomy(w.Deps), roomyVers(w.Vers), roomyVers(w.Waits), roomy(w.Owes)
	return w
}

// wholeWord has all of a word, the spare room of its lists included, in memory of its own.
func wholeWord(w impl.Word) impl.Word {
	w.Deps, w.Vers, w.Waits, w.Owes = slices.Clone(w.Deps[:cap(w.Deps)]), deepCopy(w.Vers), deepCopy(w.Waits), slices.Clone(w.Owes[:cap(w.Owes)])
	return w
}

func spoilWord(w impl.Word) {
	spoil(w.Deps)
	spoilVers(w.Vers)
	spoilVers(w.Waits)
	spoil(w.Owes)
}

// told is what hearing, or tending, answers.
type told struct {
	server impl.Server
	words  []impl.Word
}

func (a told) whole() told {
	whole := told{server: wholeServer(a.server)}
	for _, w := range a.words[:cap(a.words)] {
		whole.words = append(whole.words, wholeWord(w))
	}
	return whole
}

func (a told) spoil() {
	spoilServer(a.server)
	all := a.words[:cap(a.words)]
	for i := range all {
		spoilWord(all[i])
		all[i] = okWord()
	}
}

func sameTold(a told, b told) bool {
	return sameServer(a.server, b.server) && sameWords(a.words, b.words)
}

// memoryWords has, for a server, words of each kind that do something there, and such as do nothing.
func memoryWords(s impl.Server) []impl.Word {
	list := slices.Concat(putsFor(s)[:60], getsFor(s), repsFor(s)[:60], bulksFor(s)[:120])
	list = append(list, few(aboutFor(s, farSites(s), impl.WordRepOk), 20)...)
	list = append(list, few(aboutFor(s, []int{otherOf(s.Site)}, impl.WordCheck, impl.WordHave), 60)...)
	return append(list, to(s, []int{s.Site, 10}, okWord(), impl.Word{Kind: 77, Vers: someVers()})...)
}

func hearMemoryServers() []impl.Server {
	return append(memoryServers(), hearing(1), impl.ServerFall(busyServer(2)), less(fullServer(0), 3, 5, 7), standing(busyServer(2), 3, impl.StandOwns))
}

// Every answer is new memory, spare room included, and nothing is written into an argument or behind its end, whatever is heard.
func TestHeardAnswersAreNewMemory(t *testing.T) {
	t.Parallel()
	for _, given := range hearMemoryServers() {
		for _, word := range memoryWords(given) {
			checkMemory(t, given, word, func(s impl.Server, w impl.Word) told {
				server, words := impl.ServerHear(s, w)
				return told{server, words}
			})
		}
		checkMemory(t, given, okWord(), func(s impl.Server, w impl.Word) told { return told{words: impl.ServerTend(s)} })
	}
}

func checkMemory(t *testing.T, given impl.Server, word impl.Word, call func(s impl.Server, w impl.Word) told) {
	t.Helper()
	s, w := roomyServer(given), roomyWord(word)
	wasServer, wasWord := wholeServer(s), wholeWord(w)
	first, second, want := call(s, w), call(s, w), call(s, w).whole()
	behind := second.whole()
	if !sameTold(behind, want) || !sameTold(behind, first.whole()) {
		t.Fatal("not answered alike", given, word)
	}
	first.spoil()
	if !sameTold(second.whole(), behind) || !sameServer(wholeServer(s), wasServer) || !sameWord(wholeWord(w), wasWord) {
		t.Fatal("the answer shares memory, or an argument was written into", given, word)
	}
	spoilServer(s)
	spoilWord(w)
	if !sameTold(second.whole(), behind) {
		t.Fatal("the answer shares memory with an argument", given, word)
	}
}

// checkApart writes another mark all over each list of an answer: none may be found in another one.
func checkApart(t *testing.T, a told) {
	t.Helper()
	vers := [][]impl.Ver{a.server.Vers, a.server.Waits}
	deps := [][]impl.Dep{a.server.Owes, a.server.Knows}
	for _, w := range a.words[:cap(a.words)] {
		vers, deps = append(vers, w.Vers, w.Waits), append(deps, w.Owes, w.Deps)
	}
	for _, list := range vers {
		deps = append(deps, depsOf(list[:cap(list)])...)
	}
	for i, list := range deps {
		for j := range list[:cap(list)] {
			list[:cap(list)][j] = dep(i+1, 300, 300)
		}
	}
	for i, list := range deps {
		if slices.ContainsFunc(list[:cap(list)], func(d impl.Dep) bool { return d.Key != i+1 }) {
			t.Fatal("deps share memory with another list", i)
		}
	}
	for i, list := range vers {
		for j := range list[:cap(list)] {
			list[:cap(list)][j].Val = i + 1
		}
	}
	for i, list := range vers {
		if slices.ContainsFunc(list[:cap(list)], func(v impl.Ver) bool { return v.Val != i+1 }) {
			t.Fatal("versions share memory with another list", i)
		}
	}
}

// tangledWord has versions that share deps, and lists that lie one behind the other.
func tangledWord(w impl.Word) impl.Word {
	both := slices.Concat(w.Vers, w.Waits)
	if len(both) == 0 {
		return w
	}
	shared := roomy([]impl.Dep{dep(3, 1, 2)})
	for i := range both {
		if both[i].Stamp.Time > 1 {
			both[i].Deps = shared
		}
	}
	w.Vers, w.Waits = both[:len(w.Vers)], both[len(w.Vers):]
	w.Deps = shared
	return w
}

// The lists of one answer share none with each other, also those of several words, not even where those of the arguments do.
func TestListsOfHeardAnswersAreApart(t *testing.T) {
	for _, given := range hearMemoryServers() {
		for _, w := range memoryWords(given) {
			s := tangled(given)
			server, words := impl.ServerHear(s, tangledWord(w))
			checkApart(t, told{server, words})
		}
		for _, s := range []impl.Server{tangled(given), tangled(standing(given, 3, impl.StandLeaving))} {
			checkApart(t, told{words: impl.ServerTend(s)})
		}
	}
}

// A version that is owed goes out twice, in two words that share nothing, nor with the version that stays.
func TestWordsOfOneVersionAreApart(t *testing.T) {
	s := hearing(0, came(0, 3, 0, dep(1, 2, 0)))
	s.Owes = []impl.Dep{dep(0, 3, 0)}
	words := impl.ServerTend(s)
	words[0].Vers[0].Deps[0] = dep(5, 5, 3)
	words[0].Vers[0].Val = 4242
	if words[1].Vers[0].Val == 4242 || words[1].Vers[0].Deps[0] != dep(1, 2, 0) || s.Vers[0].Deps[0] != dep(1, 2, 0) {
		t.Error(words, s)
	}
	x, read := impl.ServerHear(s, getOf(s, 0, impl.Stamp{}))
	read[0].Vers[0].Deps[0] = dep(5, 5, 3)
	if x.Vers[0].Deps[0] != dep(1, 2, 0) || s.Vers[0].Deps[0] != dep(1, 2, 0) {
		t.Error(x, s)
	}
}
