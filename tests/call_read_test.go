package tests

import (
	"slices"
	"testing"

	"loop.example/tombolo/impl"
)

// orders has each order of the numbers below n.
func orders(n int) [][]int {
	if n == 0 {
		return [][]int{nil}
	}
	var all [][]int
	for _, order := range orders(n - 1) {
		for i := range n {
			all = append(all, slices.Insert(slices.Clone(order), i, n-1))
		}
	}
	return all
}

// firstAnswers has each choice of none, or one of the versions, for each key of a call.
func firstAnswers(c impl.Call) [][]impl.Word {
	lists := [][]impl.Word{nil}
	for _, key := range c.Keys {
		var longer [][]impl.Word
		for _, list := range lists {
			longer = append(longer, append(slices.Clone(list), noneOk(c, key)))
			for _, v := range versOf(key) {
				longer = append(longer, append(slices.Clone(list), getOk(c, v)))
			}
		}
		lists = longer
	}
	return lists
}

// heardInOrder is a call that hears words in an order, from the time 6 on.
func heardInOrder(t *testing.T, c impl.Call, words []impl.Word, order []int) impl.Call {
	t.Helper()
	for i, place := range order {
		c = checkCalled(t, c, words[place], 6+i)
	}
	return c
}

func readCalls() []impl.Call {
	return []impl.Call{readCall(1), readCall(3), readCall(4), readCall(1, 3), readCall(1, 4), readCall(3, 4), readCall(1, 3, 4)}
}

// Promises 58, 59 and 62: reads of one, two and three keys, by each choice of first answers, in each order: it is the same, and it ends just if it needs nothing.
func TestFirstAnswersInEachOrder(t *testing.T) {
	needed := map[int]int{}
	for _, c := range readCalls() {
		for _, words := range firstAnswers(c) {
			first := heardInOrder(t, c, words, orders(len(words))[0])
			for _, order := range orders(len(words)) {
				if x := heardInOrder(t, c, words, order); !sameCall(x, first) {
					t.Error("another order", order, x, first)
				}
			}
			if (first.End > 0) != (len(first.Needs) == 0) || first.End > 0 && first.End != 5+len(words) || !slices.Equal(first.Needs, neededBy(first)) {
				t.Error(first)
			}
			needed[len(first.Needs)]++
		}
	}
	if needed[0] < 20 || needed[1] < 20 || needed[2] < 10 {
		t.Error("too few", needed)
	}
}

// What is needed may come in each order, by a word that was asked for it, or by one that was not; the read ends by the last one.
func TestNeededAnswersInEachOrder(t *testing.T) {
	for _, c := range readCalls() {
		for _, words := range firstAnswers(c) {
			first := heardInOrder(t, c, words, orders(len(words))[0])
			for _, order := range orders(len(first.Needs)) {
				x := first
				for i, place := range order {
					d := first.Needs[place]
					v := came(d.Key, d.Stamp.Time, d.Stamp.Site)
					w := []impl.Word{atOk(c, v), getOk(c, v)}[(i+place)%2]
					x = checkCalled(t, x, w, 20+i)
					if a, _ := answerTo(x, d.Key); !sameVer(a.Ver, v) || slices.Contains(x.Needs, d) {
						t.Error(x, d)
					}
					if again := checkCalled(t, x, w, 21+i); !sameCall(again, x) {
						t.Error("it is not needed any more", x, w)
					}
				}
				if len(order) > 0 && x.End != 19+len(order) || len(impl.CallWords(x)) > 0 {
					t.Error(x)
				}
			}
		}
	}
}

// Promise 57: in each phase of a read all first answers come once more: each does nothing, unless it is needed then.
func TestAnswersThatComeTwice(t *testing.T) {
	for _, c := range readCalls() {
		for _, words := range firstAnswers(c) {
			x := c
			for i, w := range words {
				x = checkCalled(t, x, w, 6+i)
				for _, old := range words[:i+1] {
					if again := checkCalled(t, x, old, 30); !sameCall(again, x) {
						t.Error("twice is not once", x, old, again)
					}
				}
			}
		}
	}
}

// Promise 57: an answer that came too late once, and is needed then, counts.
func TestAnswersThatAreNeededThen(t *testing.T) {
	c := checkCalled(t, readCall(1, 3), getOk(readCall(1, 3), oldOf(3)), 6)
	late := getOk(c, midOf(3))
	if x := checkCalled(t, c, late, 7); !sameCall(x, c) {
		t.Error("the first answer is one", x)
	}
	c = checkCalled(t, c, getOk(c, midOf(1)), 8)
	if !slices.Equal(c.Needs, []impl.Dep{dep(3, 5, 2)}) {
		t.Fatal(c)
	}
	if x := checkCalled(t, c, late, 9); x.End != 9 || !sameVer(x.Got[1].Ver, midOf(3)) {
		t.Error(x)
	}
}

// An answer that is needed has just that stamp: one that is older or newer, by time or by site, or none, is another one.
func TestAnswersBesideWhatIsNeeded(t *testing.T) {
	c := needs(with(readCall(1, 3), yes(midOf(1)), yes(oldOf(3))), dep(3, 5, 2))
	for _, stamp := range []impl.Stamp{{Time: 5, Site: 1}, {Time: 5, Site: 3}, {Time: 4, Site: 2}, {Time: 6, Site: 2}, {Time: 1, Site: 1}, {Time: impl.StampMax, Site: 3}} {
		v := came(3, stamp.Time, stamp.Site)
		asked := getOk(c, v)
		asked.Stamp = impl.Stamp{Time: 5, Site: 2}
		for _, w := range []impl.Word{getOk(c, v), atOk(c, v), asked} {
			if x := checkCalled(t, c, w, 9); !sameCall(x, c) {
				t.Error(w, x)
			}
		}
	}
	silent := atOk(c, midOf(3))
	silent.Yes = false
	for _, w := range []impl.Word{silent, noneOk(c, 3), atOk(c, came(1, 5, 2)), getOk(c, came(1, 5, 2))} {
		if x := checkCalled(t, c, w, 9); !sameCall(x, c) {
			t.Error(w, x)
		}
	}
	if x := checkCalled(t, c, atOk(c, midOf(3)), 9); x.End != 9 {
		t.Error(x)
	}
}

// A call that needs three, as it may be given: each is needed by itself, and it ends by the last one.
func TestThreeThatAreNeeded(t *testing.T) {
	for _, c := range []impl.Call{
		needs(with(readCall(1, 3, 4), yes(oldOf(1)), yes(oldOf(3)), yes(oldOf(4))), dep(1, 6, 1), dep(3, 5, 2), dep(4, 6, 3)),
		needs(with(readCall(1, 3, 4), none(1), none(3), none(4)), dep(1, 6, 1), dep(3, 5, 2), dep(4, 6, 3)),
	} {
		words := []impl.Word{atOk(c, midOf(1)), atOk(c, midOf(3)), atOk(c, midOf(4))}
		if sent := impl.CallWords(c); len(sent) != 6 || sent[0].Key != 1 || sent[2].Key != 3 || sent[4].Key != 4 {
			t.Error(sent)
		}
		for _, order := range orders(3) {
			x := c
			for i, place := range order {
				x = checkCalled(t, x, words[place], 6+i)
				if len(x.Needs) != 2-i || len(impl.CallWords(x)) != 2*len(x.Needs) || (x.End > 0) != (i == 2) {
					t.Error(order, i, x)
				}
			}
			if x.End != 8 || !sameVer(x.Got[0].Ver, midOf(1)) || !sameVer(x.Got[1].Ver, midOf(3)) || !sameVer(x.Got[2].Ver, midOf(4)) {
				t.Error(order, x)
			}
		}
	}
}

// What comes as needed is not asked what it came of: it came of nothing that is newer than what needed it.
func TestNeededAnswersNeedNothing(t *testing.T) {
	c := needs(with(readCall(1, 3), yes(midOf(1)), yes(oldOf(3))), dep(3, 5, 2))
	if x := checkCalled(t, c, atOk(c, came(3, 5, 2, dep(1, 4, 0), dep(4, 4, 0))), 9); x.End != 9 || len(x.Needs) > 0 {
		t.Error(x)
	}
	c = needs(with(readCall(1, 3), yes(oldOf(1)), none(3)), dep(3, 5, 2))
	if x := checkCalled(t, c, atOk(c, came(3, 5, 2, dep(1, 4, 0))), 9); x.End != 9 || len(x.Needs) > 0 {
		t.Error(x)
	}
}

// Promise 59: a key without a version of which others came of one needs that; the newest of several is needed; keys that are not read are not.
func TestWhatIsNeeded(t *testing.T) {
	for i, c := range []struct {
		got  []impl.Ver
		want []impl.Dep
	}{
		{[]impl.Ver{came(0, 5, 1), came(2, 5, 1), came(5, 5, 1)}, nil},
		{[]impl.Ver{came(0, 5, 1, dep(2, 4, 1))}, []impl.Dep{dep(2, 4, 1)}},
		{[]impl.Ver{came(0, 5, 1, dep(2, 4, 1), dep(5, 3, 2))}, []impl.Dep{dep(2, 4, 1), dep(5, 3, 2)}},
		{[]impl.Ver{came(0, 5, 1, dep(5, 4, 1)), came(2, 5, 1, dep(5, 4, 2))}, []impl.Dep{dep(5, 4, 2)}},
		{[]impl.Ver{came(0, 5, 1, dep(5, 4, 2)), came(2, 5, 1, dep(5, 4, 1))}, []impl.Dep{dep(5, 4, 2)}},
		{[]impl.Ver{came(0, 7, 1, dep(5, 3, 0)), came(2, 7, 1, dep(5, 2, 3)), came(5, 3, 0)}, nil},
		{[]impl.Ver{came(0, 7, 1, dep(5, 3, 1)), came(2, 7, 1, dep(5, 2, 3)), came(5, 3, 0)}, []impl.Dep{dep(5, 3, 1)}},
		{[]impl.Ver{came(0, 7, 1, dep(5, 4, 0)), came(2, 7, 1), came(5, 3, 3)}, []impl.Dep{dep(5, 4, 0)}},
		{[]impl.Ver{came(0, 7, 1, dep(1, 6, 0), dep(3, 6, 0), dep(4, 6, 0)), came(2, 7, 1), came(5, 3, 3)}, nil},
		{[]impl.Ver{came(0, 7, 1, dep(0, 6, 3)), came(2, 7, 1, dep(0, 6, 3)), came(5, 7, 3, dep(0, 6, 3), dep(2, 6, 3))}, nil},
		{[]impl.Ver{came(0, 3, 1), came(2, 5, 1, dep(0, 4, 3)), came(5, 9, 3, dep(0, 6, 0), dep(2, 8, 1))}, []impl.Dep{dep(0, 6, 0), dep(2, 8, 1)}},
	} {
		call := readCall(0, 2, 5)
		for j, key := range call.Keys {
			w := noneOk(call, key)
			if at := slices.IndexFunc(c.got, func(v impl.Ver) bool { return v.Key == key }); at >= 0 {
				w = getOk(call, c.got[at])
			}
			call = checkCalled(t, call, w, 6+j)
		}
		if !slices.Equal(call.Needs, c.want) || (call.End == 8) != (len(c.want) == 0) {
			t.Error(i, call)
		}
	}
}

// A first answer has no stamp: one that has is none, with a version or without, be it the one that it has.
func TestFirstAnswersHaveNoStamp(t *testing.T) {
	c := readCall(1, 3)
	asked := noneOk(c, 3)
	asked.Stamp = impl.Stamp{Time: 5, Site: 2}
	for _, w := range []impl.Word{asked, atOk(c, midOf(3)), atOk(c, oldOf(1))} {
		if x := checkCalled(t, c, w, 9); !sameCall(x, c) {
			t.Error(w, x)
		}
	}
}

// An answer without Yes says that there is no version, whatever else it has.
func TestAnswersWithoutYes(t *testing.T) {
	c := readCall(3)
	w := getOk(c, midOf(3))
	w.Yes = false
	if x := checkCalled(t, c, w, 9); x.End != 9 || x.Got[0].Yes || !noVer(x.Got[0].Ver) {
		t.Error(x)
	}
}
