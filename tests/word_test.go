package tests

import (
	"math"
	"slices"
	"testing"

	"loop.example/tombolo/impl"
)

// okWord has something in each part, so that what is taken away or changed counts.
func okWord() impl.Word {
	return impl.Word{
		Kind: impl.WordBulk, From: 1, To: impl.WordClient, Call: 7, Key: 4, Stamp: impl.Stamp{Time: 5, Site: 2}, Val: 31, Yes: true,
		Deps: fullDeps(), Slot: 1, Epoch: 12, Vers: someVers(), Waits: longChain(9), Owes: someDebts(),
	}
}

// someDebts, in order, has the first and the last key, several of one key, and some of one time and other sites.
func someDebts() []impl.Dep {
	return []impl.Dep{
		dep(0, 1, 0), dep(0, 1, 3), dep(0, 2, 0), dep(2, 3, 1), dep(2, 3, 2), dep(3, 1, 0), dep(5, 2, 3), dep(5, impl.StampMax, 3),
	}
}

// longDebts has n debts in order, shared out to all keys.
func longDebts(n int) []impl.Dep {
	var list []impl.Dep
	for _, v := range longChain(n) {
		list = append(list, dep(v.Key, v.Stamp.Time, v.Stamp.Site))
	}
	return list
}

// oneKeyDebts has n debts in order, all of one key, by sites within times.
func oneKeyDebts(n int) []impl.Dep {
	var list []impl.Dep
	for _, v := range oneKeyChain(n) {
		list = append(list, dep(v.Key, v.Stamp.Time, v.Stamp.Site))
	}
	return list
}

// wrongDebts has debts that are not in order, one fault each, in whichever place it is.
func wrongDebts() [][]impl.Dep {
	lists := [][]impl.Dep{longDebts(impl.ChainMax + 1), oneKeyDebts(impl.ChainMax + 1), longDebts(500)}
	all := someDebts()
	for i := range all {
		lists = append(lists, slices.Insert(slices.Clone(all), i, all[i]), append(slices.Clone(all), all[i]))
		for j := range i {
			turned := slices.Clone(all)
			turned[i], turned[j] = turned[j], turned[i]
			lists = append(lists, turned)
		}
	}
	for _, bad := range wrongDepOnes() {
		place, _ := slices.BinarySearchFunc(all, bad, depOrder)
		lists = append(lists, []impl.Dep{bad}, slices.Insert(slices.Clone(all), place, bad))
	}
	return lists
}

// depOrder is by key, then time, then site, without the program.
func depOrder(a impl.Dep, b impl.Dep) int {
	return verOrder(impl.Ver{Key: a.Key, Stamp: a.Stamp}, impl.Ver{Key: b.Key, Stamp: b.Stamp})
}

func checkWords(t *testing.T, want bool, changes ...func(w *impl.Word)) {
	t.Helper()
	for i, change := range changes {
		w := okWord()
		change(&w)
		if impl.WordOk(w) != want {
			t.Error(i, want, w)
		}
	}
}

func TestWordNumbersAreFixed(t *testing.T) {
	kinds := []int{
		impl.WordPut, impl.WordPutOk, impl.WordGet, impl.WordGetOk, impl.WordRep,
		impl.WordRepOk, impl.WordCheck, impl.WordHave, impl.WordBulk, impl.WordBulkOk,
	}
	for i, kind := range kinds {
		if kind != i+1 {
			t.Error(i, kind)
		}
	}
	if impl.WordClient != 10 {
		t.Error(impl.WordClient)
	}
}

func TestWordOfEachKind(t *testing.T) {
	for kind := -2; kind <= 13; kind++ {
		for _, w := range []impl.Word{okWord(), {}, {From: 10, To: 3, Call: 99, Val: 9999}} {
			w.Kind = kind
			if impl.WordOk(w) != (kind >= 1 && kind <= 10) {
				t.Error(w)
			}
		}
	}
	if impl.WordOk(impl.Word{}) {
		t.Error("nothing is no word, as it has no kind")
	}
	checkWords(t, false, func(w *impl.Word) { w.Kind = math.MinInt }, func(w *impl.Word) { w.Kind = math.MaxInt })
}

// Promise 27: to, or from, a place that nobody has a word is not ok.
func TestWordPlaces(t *testing.T) {
	there := []int{0, 1, 2, 3, 10, 11}
	places := []int{math.MinInt, math.MinInt + 10, math.MaxInt}
	for place := -12; place <= 25; place++ {
		places = append(places, place)
	}
	for _, from := range places {
		for _, to := range places {
			w := okWord()
			w.From, w.To = from, to
			if impl.WordOk(w) != (slices.Contains(there, from) && slices.Contains(there, to)) {
				t.Error(from, to)
			}
		}
	}
}

// Each number at both of its ends, and one below and one above.
func TestWordNumbersAtTheirLimits(t *testing.T) {
	for name, c := range map[string]struct {
		least, most int
		set         func(w *impl.Word, n int)
	}{
		"call":  {0, impl.VerMaxCall, func(w *impl.Word, n int) { w.Call = n }},
		"key":   {0, impl.VerKeys - 1, func(w *impl.Word, n int) { w.Key = n }},
		"val":   {0, impl.VerMaxVal, func(w *impl.Word, n int) { w.Val = n }},
		"slot":  {0, impl.VerSlots - 1, func(w *impl.Word, n int) { w.Slot = n }},
		"epoch": {0, impl.StampMax, func(w *impl.Word, n int) { w.Epoch = n }},
	} {
		numbers := []int{math.MinInt, c.least - 1, c.most + 1, math.MaxInt}
		for n := c.least; n <= c.most; n++ {
			numbers = append(numbers, n)
		}
		for _, n := range numbers {
			w := okWord()
			c.set(&w, n)
			if impl.WordOk(w) != (n >= c.least && n <= c.most) {
				t.Error(name, n)
			}
		}
	}
}

func TestWordStampIsOkOrNothing(t *testing.T) {
	for _, s := range append(anyStamps(), okStamps()...) {
		w := okWord()
		w.Stamp = s
		if impl.WordOk(w) != (impl.StampOk(s) || s == impl.Stamp{}) {
			t.Error(s)
		}
	}
	checkWords(t, false, func(w *impl.Word) { w.Stamp = impl.Stamp{Site: 1} })
}

func TestWordYesIsAny(t *testing.T) {
	checkWords(t, true, func(w *impl.Word) { w.Yes = true }, func(w *impl.Word) { w.Yes = false })
}

// Promise 27: what is less than a word that is ok is ok, without its lists, one by one and all of them.
func TestWordWithLessIsOk(t *testing.T) {
	less := []func(w *impl.Word){
		func(w *impl.Word) { w.Deps = nil },
		func(w *impl.Word) { w.Vers = nil },
		func(w *impl.Word) { w.Waits = nil },
		func(w *impl.Word) { w.Owes = nil },
		func(w *impl.Word) {
			w.Deps, w.Vers, w.Waits, w.Owes = []impl.Dep{}, []impl.Ver{}, []impl.Ver{}, []impl.Dep{}
		},
		func(w *impl.Word) { w.Stamp = impl.Stamp{} },
		func(w *impl.Word) { w.Call, w.Val, w.Epoch = 0, 0, 0 },
		func(w *impl.Word) { w.Yes = false },
	}
	for some := range 1 << len(less) {
		w := okWord()
		for i, change := range less {
			if some>>i&1 == 1 {
				change(&w)
			}
		}
		if !impl.WordOk(w) {
			t.Error(some, w)
		}
		w.To = 12
		if impl.WordOk(w) {
			t.Error(some, w)
		}
	}
}

// Promise 27: a list that has less is ok still, wherever it ends or begins.
func TestWordWithShorterListsIsOk(t *testing.T) {
	w := okWord()
	for i := range w.Vers {
		checkWords(t, true, func(x *impl.Word) { x.Vers = w.Vers[:i] }, func(x *impl.Word) { x.Vers = w.Vers[i:] })
	}
	for i := range w.Waits {
		checkWords(t, true, func(x *impl.Word) { x.Waits = w.Waits[:i] }, func(x *impl.Word) { x.Waits = w.Waits[i:] })
	}
	for i := range w.Owes {
		checkWords(t, true, func(x *impl.Word) { x.Owes = w.Owes[:i] }, func(x *impl.Word) { x.Owes = w.Owes[i:] })
	}
	for i := range w.Deps {
		checkWords(t, true, func(x *impl.Word) { x.Deps = w.Deps[:i] }, func(x *impl.Word) { x.Deps = w.Deps[i:] })
	}
}

// ChainMax of each list, one fewer and one more; there may be as many of each at once.
func TestWordListsAtTheirLimits(t *testing.T) {
	for _, n := range []int{impl.ChainMax - 1, impl.ChainMax} {
		checkWords(t, true,
			func(w *impl.Word) { w.Vers = longChain(n) }, func(w *impl.Word) { w.Vers = oneKeyChain(n) },
			func(w *impl.Word) { w.Waits = longChain(n) }, func(w *impl.Word) { w.Waits = oneKeyChain(n) },
			func(w *impl.Word) { w.Owes = longDebts(n) }, func(w *impl.Word) { w.Owes = oneKeyDebts(n) },
			func(w *impl.Word) { w.Vers, w.Waits, w.Owes = longChain(n), longChain(n), longDebts(n) },
		)
	}
	n := impl.ChainMax + 1
	checkWords(t, false,
		func(w *impl.Word) { w.Vers = longChain(n) }, func(w *impl.Word) { w.Vers = oneKeyChain(n) },
		func(w *impl.Word) { w.Waits = longChain(n) }, func(w *impl.Word) { w.Waits = oneKeyChain(n) },
		func(w *impl.Word) { w.Owes = longDebts(n) }, func(w *impl.Word) { w.Owes = oneKeyDebts(n) },
	)
}

func TestWordListsInOrder(t *testing.T) {
	for _, list := range manyChains() {
		checkWords(t, true, func(w *impl.Word) { w.Vers = list }, func(w *impl.Word) { w.Waits = list })
	}
	for _, list := range someDeps() {
		checkWords(t, true, func(w *impl.Word) { w.Deps = list }, func(w *impl.Word) { w.Owes = list })
	}
	for _, list := range wrongChains() {
		checkWords(t, false, func(w *impl.Word) { w.Vers = list }, func(w *impl.Word) { w.Waits = list })
	}
	for _, list := range wrongDeps() {
		checkWords(t, false, func(w *impl.Word) { w.Deps = list })
	}
	for _, list := range wrongDebts() {
		checkWords(t, false, func(w *impl.Word) { w.Owes = list })
	}
}

// Debts may have several of one key, deps not.
func TestDebtsAreNotDeps(t *testing.T) {
	list := []impl.Dep{dep(1, 1, 0), dep(1, 1, 1), dep(1, 2, 0)}
	checkWords(t, true, func(w *impl.Word) { w.Owes = list })
	checkWords(t, false, func(w *impl.Word) { w.Deps = list })
}

// Nothing is written into a word's lists or behind their ends, and what stands behind these does not count.
func TestWordStaysAsItIs(t *testing.T) {
	w := okWord()
	w.Deps, w.Vers, w.Waits, w.Owes = roomy(w.Deps), roomyVers(w.Vers), roomyVers(w.Waits), roomy(w.Owes)
	deps, owes := slices.Clone(w.Deps[:cap(w.Deps)]), slices.Clone(w.Owes[:cap(w.Owes)])
	vers, waits := deepCopy(w.Vers), deepCopy(w.Waits)
	for range 2 {
		if !impl.WordOk(w) {
			t.Error(w)
		}
	}
	if !slices.Equal(w.Deps[:cap(w.Deps)], deps) || !slices.Equal(w.Owes[:cap(w.Owes)], owes) {
		t.Error(w)
	}
	if !sameVers(deepCopy(w.Vers), vers) || !sameVers(deepCopy(w.Waits), waits) {
		t.Error(w)
	}
}
