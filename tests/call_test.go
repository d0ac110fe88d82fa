package tests

import (
	"math"
	"slices"
	"testing"

	"loop.example/tombolo/impl"
)

// putCall is a put under way, of the second client's second call, that began at 5.
func putCall(key int) impl.Call {
	return impl.Call{Client: 1, Num: 2, Kind: impl.CallPut, Keys: []int{key}, Val: 8, Ctx: []impl.Dep{dep(0, 3, 2), dep(3, 2, 1)}, Begin: 5}
}

// readCall is a read under way, likewise, of which nothing was answered.
func readCall(keys ...int) impl.Call {
	return impl.Call{Client: 1, Num: 2, Kind: impl.CallRead, Keys: keys, Ctx: []impl.Dep{dep(0, 3, 2), dep(3, 2, 1)}, Begin: 5}
}

// yes is an answer with a version, none one without.
func yes(v impl.Ver) impl.Answer {
	return impl.Answer{Key: v.Key, Yes: true, Ver: v}
}

func none(key int) impl.Answer {
	return impl.Answer{Key: key}
}

// callChange makes another call of one.
type callChange func(c *impl.Call)

func (change callChange) of(c impl.Call) impl.Call {
	change(&c)
	return c
}

// with is the call with these answers.
func with(c impl.Call, got ...impl.Answer) impl.Call {
	c.Got = got
	return c
}

func needs(c impl.Call, list ...impl.Dep) impl.Call {
	c.Needs = list
	return c
}

func ended(c impl.Call, end int) impl.Call {
	c.End = end
	if c.Kind == impl.CallPut {
		c.Stamp = impl.Stamp{Time: 4, Site: 3}
	}
	return c
}

func over(c impl.Call) impl.Call {
	c.Over = true
	return c
}

func sameAnswer(a impl.Answer, b impl.Answer) bool {
	return a.Key == b.Key && a.Yes == b.Yes && sameVer(a.Ver, b.Ver)
}

func sameCall(a impl.Call, b impl.Call) bool {
	return a.Client == b.Client && a.Num == b.Num && a.Kind == b.Kind && slices.Equal(a.Keys, b.Keys) && a.Val == b.Val &&
		slices.Equal(a.Ctx, b.Ctx) && a.Begin == b.Begin && a.End == b.End && a.Over == b.Over && a.Stamp == b.Stamp &&
		slices.EqualFunc(a.Got, b.Got, sameAnswer) && slices.Equal(a.Needs, b.Needs)
}

func noCall(c impl.Call) bool {
	return sameCall(c, impl.Call{})
}

// answerTo is the answer of a key, if there is one.
func answerTo(c impl.Call, key int) (impl.Answer, bool) {
	i := slices.IndexFunc(c.Got, func(a impl.Answer) bool { return a.Key == key })
	if i < 0 {
		return impl.Answer{}, false
	}
	return c.Got[i], true
}

// olderThan says whether an answer is older than a stamp, no version being older than any.
func olderThan(a impl.Answer, s impl.Stamp) bool {
	return !a.Yes || newer(a.Ver.Stamp, s) != a.Ver.Stamp
}

// answerFits says whether an answer is one of a call's keys, with what belongs to it.
func answerFits(c impl.Call, a impl.Answer) bool {
	if !a.Yes {
		return slices.Contains(c.Keys, a.Key) && noVer(a.Ver)
	}
	return slices.Contains(c.Keys, a.Key) && impl.VerOk(a.Ver) && a.Ver.Key == a.Key
}

// callOkBy is whether a call is ok, without the program's chapter 31.
func callOkBy(c impl.Call, time int) bool {
	put, read := c.Kind == 1, c.Kind == 2
	switch {
	case c.Client < 0 || c.Client > 1 || c.Num < 1 || c.Num > 99 || !put && !read || c.Val < 0 || c.Val > 9999,
		put && len(c.Keys) != 1 || len(c.Keys) == 0 || len(c.Keys) > 3,
		!impl.DepsOk(c.Ctx) || !impl.DepsOk(c.Needs) || c.Begin < 1 || c.Begin > time,
		put && len(c.Got)+len(c.Needs) > 0 || read && (c.Val != 0 || c.Stamp != impl.Stamp{}),
		c.Stamp != impl.Stamp{} && !impl.StampOk(c.Stamp) || len(c.Got) > len(c.Keys),
		len(c.Needs) > 0 && len(c.Got) < len(c.Keys):
		return false
	}
	for i, key := range c.Keys {
		if key < 0 || key > 5 || i > 0 && c.Keys[i-1] >= key {
			return false
		}
	}
	for i, a := range c.Got {
		if !answerFits(c, a) || i > 0 && c.Got[i-1].Key >= a.Key {
			return false
		}
	}
	for _, d := range c.Needs {
		if a, there := answerTo(c, d.Key); !there || !olderThan(a, d.Stamp) {
			return false
		}
	}
	if c.End == 0 {
		return c.Stamp == impl.Stamp{}
	}
	whole := put && c.Stamp != impl.Stamp{} || read && len(c.Got) == len(c.Keys)
	return whole && !c.Over && c.End > c.Begin && c.End <= time && len(c.Needs) == 0
}

// Versions of the keys 1, 3 and 4 that came of each other, and of what nobody has.
func oldOf(key int) impl.Ver {
	return map[int]impl.Ver{1: came(1, 2, 0), 3: came(3, 1, 1), 4: came(4, 3, 0, dep(1, 2, 0), dep(4, 2, 3))}[key]
}

func midOf(key int) impl.Ver {
	return map[int]impl.Ver{
		1: came(1, 6, 1, dep(3, 5, 2), dep(4, 3, 0)), 3: came(3, 5, 2, dep(1, 2, 0)), 4: came(4, 6, 3, dep(0, 5, 3), dep(3, 5, 2)),
	}[key]
}

func newOf(key int) impl.Ver {
	return map[int]impl.Ver{
		1: came(1, 9, 3, dep(1, 6, 1), dep(3, 7, 0), dep(4, 6, 3)), 3: came(3, 7, 0, dep(1, 6, 1), dep(2, 6, 0), dep(4, 3, 0)),
		4: came(4, 8, 1, dep(1, 6, 1), dep(3, 7, 0), dep(4, 6, 3)),
	}[key]
}

// versOf is all of these of a key.
func versOf(key int) []impl.Ver {
	return []impl.Ver{oldOf(key), midOf(key), newOf(key)}
}

// okCalls has calls of each kind, with one, two and three keys, all the way from when they began, at their limits; up to the time 9 all are ok.
func okCalls() []impl.Call {
	one, two, three := readCall(3), readCall(1, 3), readCall(1, 3, 4)
	list := []impl.Call{
		putCall(0), putCall(5), ended(putCall(3), 6), ended(putCall(0), 9), over(putCall(2)), one, two, three, over(three),
		with(two, yes(oldOf(1))), with(two, none(3)), with(three, yes(newOf(4))), with(three, none(1), yes(midOf(4))), over(with(three, none(1), yes(midOf(4)))),
		ended(with(one, none(3)), 6), ended(with(one, yes(newOf(3))), 9), ended(with(two, none(1), none(3)), 7), ended(with(two, yes(midOf(1)), yes(midOf(3))), 9),
		ended(with(three, yes(newOf(1)), yes(newOf(3)), yes(newOf(4))), 8), ended(with(three, none(1), yes(oldOf(3)), yes(oldOf(4))), 8),
		needs(with(two, yes(midOf(1)), none(3)), dep(3, 5, 2)), needs(with(two, yes(oldOf(1)), yes(newOf(3))), dep(1, 6, 1)),
		needs(with(three, yes(newOf(1)), none(3), yes(oldOf(4))), dep(3, 7, 0), dep(4, 6, 3)), over(needs(with(two, yes(midOf(1)), none(3)), dep(3, 5, 2))),
		needs(with(three, yes(oldOf(1)), yes(oldOf(3)), yes(oldOf(4))), dep(1, 6, 1), dep(3, 5, 2), dep(4, 6, 3)),
		needs(with(three, none(1), none(3), none(4)), dep(1, 6, 1), dep(3, 5, 2), dep(4, 8, 1)),
		needs(with(one, yes(oldOf(3))), dep(3, 1, 2)), with(one, none(3)), with(two, yes(midOf(1)), yes(oldOf(3))),
	}
	for _, c := range slices.Clone(list) {
		c.Client, c.Num, c.Ctx = 0, 99, nil
		list = append(list, c)
	}
	return list
}

// wrongCalls has calls that are not ok up to any time, one fault each.
func wrongCalls() []impl.Call {
	put, read, all := putCall(3), readCall(1, 3), with(readCall(1, 3), yes(midOf(1)), yes(oldOf(3)))
	list := []impl.Call{
		{}, {Kind: impl.CallRead}, readCall(), readCall(3, 1), readCall(1, 1), readCall(1, 3, 3), readCall(0, 1, 2, 3), readCall(0, 1, 2, 3, 4, 5), readCall(-1, 3), readCall(3, 6),
		readCall(math.MinInt), readCall(math.MaxInt), putCall(-1), putCall(6), with(put, none(3)), with(put, yes(oldOf(3))), needs(put, dep(3, 9, 1)),
		with(read, none(2)), with(read, none(4)), with(read, none(3), none(1)), with(read, none(1), none(1)), with(read, none(1), none(3), none(4)), with(read, none(0), none(1), none(3)),
		with(read, yes(oldOf(4))), with(read, impl.Answer{Key: 1, Yes: true, Ver: oldOf(3)}), with(read, impl.Answer{Key: 1, Yes: true}), with(read, impl.Answer{Key: 3, Ver: oldOf(3)}),
		with(read, impl.Answer{Key: 3, Ver: impl.Ver{Key: 3}}), with(read, impl.Answer{Key: 3, Ver: impl.Ver{Val: 1}}), with(read, impl.Answer{Key: 3, Ver: impl.Ver{Client: 1}}),
		with(read, impl.Answer{Key: 3, Ver: impl.Ver{Call: 1}}), with(read, impl.Answer{Key: 3, Ver: impl.Ver{Deps: fullDeps()}}), with(read, impl.Answer{Key: 3, Ver: impl.Ver{Stamp: impl.Stamp{Site: 1}}}),
		with(read, impl.Answer{Key: 3, Ver: impl.Ver{Stamp: impl.Stamp{Time: 1}}}), with(readCall(0, 1), none(0), impl.Answer{Key: 1, Ver: impl.Ver{Key: -1}}),
		needs(read, dep(3, 5, 2)), needs(with(read, yes(midOf(1))), dep(3, 5, 2)), needs(with(read, none(3)), dep(3, 5, 2)), needs(all, dep(3, 1, 1)), needs(all, dep(3, 1, 0)),
		needs(all, dep(0, 9, 3)), needs(all, dep(3, 5, 2), dep(4, 3, 0)), needs(all, dep(1, 6, 1), dep(3, 5, 2)), needs(all, dep(1, 6, 0)), needs(all, dep(1, 5, 3)), needs(all, dep(3, 5, 2), dep(3, 5, 3)),
		ended(needs(all, dep(3, 5, 2)), 7), ended(over(all), 7), ended(over(put), 7), ended(read, 7), ended(with(read, yes(oldOf(1))), 7), ended(put, 5), ended(put, 4), ended(put, -1), ended(all, 5),
		ended(all, 1), ended(all, -6), ended(all, math.MinInt),
	}
	for _, change := range []callChange{
		func(c *impl.Call) { c.Client = -1 }, func(c *impl.Call) { c.Client = 2 }, func(c *impl.Call) { c.Num = 0 }, func(c *impl.Call) { c.Num = -1 }, func(c *impl.Call) { c.Num = 100 },
		func(c *impl.Call) { c.Kind = 0 }, func(c *impl.Call) { c.Kind = 3 }, func(c *impl.Call) { c.Kind = -1 }, func(c *impl.Call) { c.Kind = math.MaxInt }, func(c *impl.Call) { c.Val = -1 },
		func(c *impl.Call) { c.Val = 10000 }, func(c *impl.Call) { c.Begin = 0 }, func(c *impl.Call) { c.Begin = -5 }, func(c *impl.Call) { c.Begin = math.MinInt },
		func(c *impl.Call) { c.Stamp = impl.Stamp{Time: 3, Site: 1} }, func(c *impl.Call) { c.Stamp = impl.Stamp{Site: 1} }, func(c *impl.Call) { c.Stamp = impl.Stamp{Time: 10000} },
	} {
		list = append(list, change.of(put), change.of(read), change.of(all))
	}
	for _, deps := range wrongDeps() {
		ctx, need := put, all
		ctx.Ctx, need.Needs = deps, deps
		list = append(list, ctx, need)
	}
	for _, v := range wrongVers() {
		list = append(list, with(readCall(v.Key), yes(v)))
	}
	for _, stamp := range []impl.Stamp{{}, {Time: 0, Site: 1}, {Time: 10000, Site: 1}, {Time: 3, Site: 4}, {Time: 3, Site: -1}, {Time: -1}} {
		c := ended(put, 6)
		c.Stamp = stamp
		list = append(list, c)
	}
	for _, change := range []callChange{
		func(c *impl.Call) { c.Val = 1 }, func(c *impl.Call) { c.Stamp = impl.Stamp{Time: 3, Site: 1} }, func(c *impl.Call) { c.Got = c.Got[:1] },
	} {
		list = append(list, change.of(ended(all, 6)))
	}
	for _, keys := range [][]int{nil, {1, 3}, {3, 3}} {
		some, late := put, ended(put, 6)
		some.Keys, late.Keys = keys, keys
		list = append(list, some, late)
	}
	return list
}

func TestKindsOfCallsAreFixed(t *testing.T) {
	if impl.CallPut != 1 || impl.CallRead != 2 {
		t.Error(impl.CallPut, impl.CallRead)
	}
}

// Calls that are ok, and such as are not, up to each time near their own.
func TestCallOk(t *testing.T) {
	for i, c := range okCalls() {
		for time := range 12 {
			want := time >= max(c.Begin, c.End)
			if callOkBy(c, time) != want || impl.CallOk(c, time) != want {
				t.Error(i, time, c)
			}
		}
		for _, time := range []int{math.MinInt, -1} {
			if impl.CallOk(c, time) {
				t.Error(i, time, c)
			}
		}
		if !impl.CallOk(c, math.MaxInt) {
			t.Error(i, c)
		}
	}
	for i, c := range wrongCalls() {
		for _, time := range []int{math.MinInt, -1, 0, 1, 4, 5, 6, 7, 9, 99999, math.MaxInt} {
			if callOkBy(c, time) || impl.CallOk(c, time) {
				t.Error(i, time, c)
			}
		}
	}
}

// Each number at its limits, and one past them.
func TestCallOkAtItsLimits(t *testing.T) {
	for i, c := range []struct {
		change callChange
		put    bool
		read   bool
	}{
		{func(c *impl.Call) {}, true, true},
		{func(c *impl.Call) { c.Client = 0 }, true, true},
		{func(c *impl.Call) { c.Num = 1 }, true, true},
		{func(c *impl.Call) { c.Num = 99 }, true, true},
		{func(c *impl.Call) { c.Val = 0 }, true, true},
		{func(c *impl.Call) { c.Val = 1 }, true, false},
		{func(c *impl.Call) { c.Val = 9999 }, true, false},
		{func(c *impl.Call) { c.Val = 10000 }, false, false},
		{func(c *impl.Call) { c.Begin = 1 }, true, true},
		{func(c *impl.Call) { c.Begin = 9 }, true, true},
		{func(c *impl.Call) { c.Begin = 10 }, false, false},
		{func(c *impl.Call) { c.Begin = math.MaxInt }, false, false},
		{func(c *impl.Call) { c.Ctx = nil }, true, true},
		{func(c *impl.Call) { c.Ctx = fullDeps() }, true, true},
		{func(c *impl.Call) { c.Keys = []int{0} }, true, true},
		{func(c *impl.Call) { c.Keys = []int{5} }, true, true},
		{func(c *impl.Call) { c.Keys = []int{0, 5} }, false, true},
		{func(c *impl.Call) { c.Keys = []int{0, 1, 5} }, false, true},
		{func(c *impl.Call) { c.Keys = []int{0, 1, 2, 5} }, false, false},
		{func(c *impl.Call) { c.Kind = 3 - c.Kind }, false, false},
		{func(c *impl.Call) { c.Over = true }, true, true},
		{func(c *impl.Call) { c.Got, c.Needs, c.Keys = []impl.Answer{}, []impl.Dep{}, []int{2} }, true, true},
	} {
		put, read := c.change.of(putCall(3)), c.change.of(readCall(1, 3, 4))
		if impl.CallOk(put, 9) != c.put || impl.CallOk(read, 9) != c.read || callOkBy(put, 9) != c.put || callOkBy(read, 9) != c.read {
			t.Error(i, put, read)
		}
	}
}

// Begin and End near each other, and near the time, at both ends of the numbers.
func TestBeginsAndEnds(t *testing.T) {
	numbers := []int{math.MinInt, math.MinInt + 1, -1, 0, 1, 2, 3, 4, 5, math.MaxInt - 1, math.MaxInt}
	read := with(readCall(1), none(1))
	for _, begin := range numbers {
		for _, end := range numbers {
			for _, time := range numbers {
				put := ended(putCall(3), end)
				if end == 0 {
					put.Stamp = impl.Stamp{}
				}
				for _, c := range []impl.Call{put, ended(read, end)} {
					c.Begin = begin
					want := begin >= 1 && begin <= time && (end == 0 || end > begin && end <= time)
					if impl.CallOk(c, time) != want {
						t.Error(begin, end, time, c.Kind)
					}
				}
			}
		}
	}
}

// Needs beside each answer: newer than it just if the stamp is behind, by time, then by site; no version is older than any.
func TestNeedsAreNewer(t *testing.T) {
	base := readCall(2, 4)
	for _, held := range okStamps() {
		for _, need := range okStamps() {
			v := came(4, held.Time, held.Site)
			c := needs(with(base, none(2), yes(v)), impl.Dep{Key: 4, Stamp: need})
			if impl.CallOk(c, 9) != impl.StampLess(held, need) {
				t.Error(held, need)
			}
			if !impl.CallOk(needs(with(base, none(2), none(4)), impl.Dep{Key: 4, Stamp: need}), 9) {
				t.Error(need)
			}
		}
	}
}

// wordsBy is what a call sends, without the program.
func wordsBy(c impl.Call) []impl.Word {
	if c.End != 0 || c.Over || !callOkBy(c, c.Begin) {
		return nil
	}
	var list []impl.Word
	send := func(w impl.Word) {
		for i := range 2 {
			w.From, w.To, w.Call = 10+c.Client, 2*c.Client+i, c.Num
			list = append(list, w)
		}
	}
	if c.Kind == 1 {
		send(impl.Word{Kind: 1, Key: c.Keys[0], Val: c.Val, Deps: c.Ctx})
		return list
	}
	for _, key := range c.Keys {
		if _, there := answerTo(c, key); !there {
			send(impl.Word{Kind: 3, Key: key})
		}
	}
	for _, d := range c.Needs {
		send(impl.Word{Kind: 3, Key: d.Key, Stamp: d.Stamp})
	}
	return list
}

// Promise 55: a call that waits sends what it still needs, to both servers of its side; one that has ended, or was given up, sends nothing.
func TestCallWords(t *testing.T) {
	sent := 0
	for i, c := range okCalls() {
		words := impl.CallWords(c)
		if !sameWords(words, wordsBy(c)) {
			t.Error(i, c, words)
		}
		if len(words) > 0 && (c.End > 0 || c.Over) {
			t.Error("it waits for nothing", c)
		}
		for _, w := range words {
			if !impl.WordOk(w) || w.To/2 != c.Client || w.From != impl.WordClient+c.Client || w.Call != c.Num {
				t.Error(i, w)
			}
		}
		sent += len(words)
	}
	if sent < 80 {
		t.Error("too few", sent)
	}
}

// Promise 55: the words in their order, each first to the first, then to the second site of the side: those of keys without an answer by key,
// and needs by key.
func TestOrderOfCallWords(t *testing.T) {
	get := func(to int, key int, s impl.Stamp) impl.Word {
		return impl.Word{Kind: impl.WordGet, From: 11, To: to, Call: 2, Key: key, Stamp: s}
	}
	put := impl.Word{Kind: impl.WordPut, From: 11, To: 2, Call: 2, Key: 4, Val: 8, Deps: putCall(4).Ctx}
	second := put
	second.To = 3
	nothing, one, two := impl.Stamp{}, impl.Stamp{Time: 7}, impl.Stamp{Time: 6, Site: 3}
	for i, c := range []struct {
		call impl.Call
		want []impl.Word
	}{
		{putCall(4), []impl.Word{put, second}},
		{readCall(3), []impl.Word{get(2, 3, nothing), get(3, 3, nothing)}},
		{with(readCall(1, 3, 4), none(3)), []impl.Word{get(2, 1, nothing), get(3, 1, nothing), get(2, 4, nothing), get(3, 4, nothing)}},
		{with(readCall(1, 3, 4), none(1), none(3)), []impl.Word{get(2, 4, nothing), get(3, 4, nothing)}},
		{
			needs(with(readCall(1, 3, 4), yes(newOf(1)), none(3), yes(oldOf(4))), dep(3, 7, 0), dep(4, 6, 3)),
			[]impl.Word{get(2, 3, one), get(3, 3, one), get(2, 4, two), get(3, 4, two)},
		},
		{with(readCall(3), none(3)), nil},
	} {
		if words := impl.CallWords(c.call); !sameWords(words, c.want) {
			t.Error(i, words)
		}
	}
	first := readCall(3)
	first.Client = 0
	if words := impl.CallWords(first); len(words) != 2 || words[0].To != 0 || words[1].To != 1 || words[0].From != 10 {
		t.Error(words)
	}
}

// A call that is not ok sends nothing; that it is ok is asked up to its Begin, whatever that is.
func TestWordsOfWrongCalls(t *testing.T) {
	for i, c := range wrongCalls() {
		if words := impl.CallWords(c); len(words) > 0 {
			t.Error(i, words)
		}
	}
	for _, begin := range []int{1, 99999, math.MaxInt} {
		c := readCall(3)
		c.Begin = begin
		if len(impl.CallWords(c)) != 2 {
			t.Error(begin)
		}
	}
}
