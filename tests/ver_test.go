package tests

import (
	"math"
	"slices"
	"testing"

	"loop.example/tombolo/impl"
)

func dep(key int, time int, site int) impl.Dep {
	return impl.Dep{Key: key, Stamp: impl.Stamp{Time: time, Site: site}}
}

// manyDeps has each choice of none or one of the stamps for each of the keys.
func manyDeps(keys []int, stamps []impl.Stamp) [][]impl.Dep {
	lists := [][]impl.Dep{nil}
	for _, key := range keys {
		for _, list := range lists {
			for _, s := range stamps {
				lists = append(lists, append(slices.Clone(list), impl.Dep{Key: key, Stamp: s}))
			}
		}
	}
	return lists
}

// someDeps has the first, the last and a key in the midst, with stamps of one time and other sites, and of other times.
func someDeps() [][]impl.Dep {
	return manyDeps([]int{0, 3, impl.VerKeys - 1}, []impl.Stamp{{Time: 1, Site: 3}, {Time: 2, Site: 0}, {Time: 2, Site: 1}})
}

// fullDeps has all keys.
func fullDeps() []impl.Dep {
	var list []impl.Dep
	for key := range impl.VerKeys {
		list = append(list, dep(key, 1+key%3, key%impl.Sites))
	}
	return list
}

// wrongDeps has lists that are not ok, one fault each.
func wrongDeps() [][]impl.Dep {
	lists := [][]impl.Dep{
		{dep(3, 1, 1), dep(3, 2, 1)},
		{dep(3, 2, 1), dep(3, 1, 1)},
		{dep(3, 1, 1), dep(3, 1, 1)},
		{dep(0, 1, 1), dep(0, 1, 1)},
		{dep(5, 1, 1), dep(5, 1, 2)},
		{dep(1, 1, 1), dep(0, 1, 1)},
		{dep(0, 1, 1), dep(2, 1, 1), dep(1, 1, 1)},
		{dep(0, 1, 1), dep(2, 1, 1), dep(0, 1, 1)},
		{dep(5, 1, 1), dep(4, 1, 1), dep(3, 1, 1)},
		append(fullDeps(), dep(impl.VerKeys, 1, 1)),
		append(fullDeps(), dep(impl.VerKeys-1, 9, 1)),
		append([]impl.Dep{dep(-1, 1, 1)}, fullDeps()...),
	}
	for _, d := range wrongDepOnes() {
		lists = append(lists, []impl.Dep{d})
		if d.Key > 0 {
			lists = append(lists, []impl.Dep{dep(0, 1, 1), d})
		}
		if d.Key < 5 {
			lists = append(lists, []impl.Dep{d, dep(5, 1, 1)})
		}
	}
	return lists
}

// wrongDepOnes has deps that are not ok for themselves.
func wrongDepOnes() []impl.Dep {
	list := []impl.Dep{
		dep(-1, 1, 1), dep(impl.VerKeys, 1, 1), dep(7, 1, 1), dep(math.MinInt, 1, 1), dep(math.MaxInt, 1, 1), {},
	}
	for _, s := range anyStamps() {
		if !impl.StampOk(s) {
			list = append(list, impl.Dep{Key: 2, Stamp: s})
		}
	}
	return list
}

// newer is the later of two stamps, nothing being ahead of all.
func newer(a impl.Stamp, b impl.Stamp) impl.Stamp {
	if a.Time < b.Time || a.Time == b.Time && a.Site < b.Site {
		return b
	}
	return a
}

// stampOf looks for a key by itself, without the program.
func stampOf(list []impl.Dep, key int) impl.Stamp {
	for _, d := range list {
		if d.Key == key {
			return d.Stamp
		}
	}
	return impl.Stamp{}
}

// joinedBy is what the newer of both for each key comes to, without the program.
func joinedBy(a []impl.Dep, b []impl.Dep) []impl.Dep {
	var list []impl.Dep
	for key := range impl.VerKeys {
		if s := newer(stampOf(a, key), stampOf(b, key)); s != (impl.Stamp{}) {
			list = append(list, impl.Dep{Key: key, Stamp: s})
		}
	}
	return list
}

func okVer() impl.Ver {
	return impl.Ver{Key: 2, Stamp: impl.Stamp{Time: 6, Site: 1}, Val: 9, Client: 1, Call: 1, Deps: []impl.Dep{dep(0, 5, 3), dep(2, 1, 0), dep(5, 4, 2)}}
}

func TestVerLimits(t *testing.T) {
	if impl.VerKeys != 6 || impl.VerSlots != 3 || impl.VerMaxVal != 9999 || impl.VerMaxCall != 99 || impl.VerClients != 2 {
		t.Error(impl.VerKeys, impl.VerSlots, impl.VerMaxVal, impl.VerMaxCall, impl.VerClients)
	}
}

func TestVerOkAtItsLimits(t *testing.T) {
	for i, c := range []struct {
		change func(v *impl.Ver)
		want   bool
	}{
		{func(v *impl.Ver) {}, true},
		{func(v *impl.Ver) { v.Key = 0 }, true},
		{func(v *impl.Ver) { v.Key = impl.VerKeys - 1 }, true},
		{func(v *impl.Ver) { v.Key = -1 }, false},
		{func(v *impl.Ver) { v.Key = impl.VerKeys }, false},
		{func(v *impl.Ver) { v.Key = math.MinInt }, false},
		{func(v *impl.Ver) { v.Key = math.MaxInt }, false},
		{func(v *impl.Ver) { v.Val = 0 }, true},
		{func(v *impl.Ver) { v.Val = impl.VerMaxVal }, true},
		{func(v *impl.Ver) { v.Val = -1 }, false},
		{func(v *impl.Ver) { v.Val = impl.VerMaxVal + 1 }, false},
		{func(v *impl.Ver) { v.Client = 0 }, true},
		{func(v *impl.Ver) { v.Client = -1 }, false},
		{func(v *impl.Ver) { v.Client = impl.VerClients }, false},
		{func(v *impl.Ver) { v.Call = impl.VerMaxCall }, true},
		{func(v *impl.Ver) { v.Call = 0 }, false},
		{func(v *impl.Ver) { v.Call = -1 }, false},
		{func(v *impl.Ver) { v.Call = impl.VerMaxCall + 1 }, false},
		{func(v *impl.Ver) { v.Stamp.Time = impl.StampMax }, true},
		{func(v *impl.Ver) { v.Stamp.Time = impl.StampMax + 1 }, false},
		{func(v *impl.Ver) { v.Stamp.Site = -1 }, false},
		{func(v *impl.Ver) { v.Stamp.Site = impl.Sites }, false},
		{func(v *impl.Ver) { v.Stamp, v.Deps = impl.Stamp{Time: 1}, nil }, true},
		{func(v *impl.Ver) { v.Stamp, v.Deps = impl.Stamp{}, nil }, false},
		{func(v *impl.Ver) { v.Stamp, v.Deps = impl.Stamp{Time: -1}, nil }, false},
		{func(v *impl.Ver) { v.Deps = nil }, true},
		{func(v *impl.Ver) { v.Deps = []impl.Dep{} }, true},
		{func(v *impl.Ver) { v.Deps = fullDeps() }, true},
		{func(v *impl.Ver) { *v = impl.Ver{} }, false},
	} {
		v := okVer()
		c.change(&v)
		if impl.VerOk(v) != c.want {
			t.Error(i, v)
		}
	}
}

// Promise 6: by time alone, whichever place the dep has, and of whichever site it is.
func TestVerIsNewerThanWhatItCameOf(t *testing.T) {
	for i := range okVer().Deps {
		for time := 4; time <= 8; time++ {
			for site := range impl.Sites {
				v := okVer()
				v.Deps[i].Stamp = impl.Stamp{Time: time, Site: site}
				if impl.VerOk(v) != (time < v.Stamp.Time) {
					t.Error(i, v)
				}
			}
		}
	}
	for _, list := range someDeps() {
		v := okVer()
		v.Deps, v.Stamp = list, impl.Stamp{Time: 2, Site: 3}
		ok := impl.VerOk(v)
		for _, d := range list {
			if ok && !impl.StampLess(d.Stamp, v.Stamp) {
				t.Error(v)
			}
		}
	}
}

// Promise 6.
func TestVerWithFewerDepsIsOk(t *testing.T) {
	v := okVer()
	v.Deps = fullDeps()
	if !impl.VerOk(v) {
		t.Fatal(v)
	}
	for some := range 1 << impl.VerKeys {
		fewer := okVer()
		fewer.Deps = nil
		for i, d := range fullDeps() {
			if some>>i&1 == 1 {
				fewer.Deps = append(fewer.Deps, d)
			}
		}
		if !impl.VerOk(fewer) {
			t.Error(fewer)
		}
	}
}

func TestVerWithWrongDepsIsNotOk(t *testing.T) {
	for _, bad := range wrongDeps() {
		v := okVer()
		v.Stamp.Time, v.Deps = impl.StampMax, bad
		if impl.VerOk(v) {
			t.Error(v)
		}
	}
}

// Promise 7.
func TestSlotsOfKeys(t *testing.T) {
	for key, want := range []int{0, 0, 1, 1, 2, 2} {
		if impl.VerSlot(key) != want {
			t.Error(key, impl.VerSlot(key))
		}
	}
	for key := 1; key < impl.VerKeys; key++ {
		if step := impl.VerSlot(key) - impl.VerSlot(key-1); step != 0 && step != 1 {
			t.Error(key, step)
		}
	}
	if impl.VerSlot(0) != 0 || impl.VerSlot(impl.VerKeys-1) != impl.VerSlots-1 {
		t.Error(impl.VerSlot(0), impl.VerSlot(impl.VerKeys-1))
	}
	for _, key := range []int{math.MinInt, -2, -1, impl.VerKeys, impl.VerKeys + 1, math.MaxInt} {
		if impl.VerSlot(key) != -1 {
			t.Error(key, impl.VerSlot(key))
		}
	}
}

func TestDepsOk(t *testing.T) {
	for _, list := range append(someDeps(), fullDeps(), []impl.Dep{}, []impl.Dep{dep(0, 1, 0), dep(5, impl.StampMax, 3)}) {
		if !impl.DepsOk(list) {
			t.Error(list)
		}
	}
	for _, list := range wrongDeps() {
		if impl.DepsOk(list) {
			t.Error(list)
		}
	}
}

// Promise 8: with none, an older, the same and a newer one there, also of one time and other sites.
func TestNewerDepCounts(t *testing.T) {
	for _, list := range append(someDeps(), fullDeps()) {
		for key := range impl.VerKeys {
			for _, s := range []impl.Stamp{{Time: 1, Site: 0}, {Time: 1, Site: 3}, {Time: 2, Site: 0}, {Time: 2, Site: 1}, {Time: 2, Site: 2}, {Time: 3, Site: 0}, {Time: impl.StampMax, Site: 3}} {
				d := impl.Dep{Key: key, Stamp: s}
				got := impl.DepsPut(list, d)
				if !impl.DepsOk(got) || !slices.Equal(got, joinedBy(list, []impl.Dep{d})) {
					t.Error(list, d, got)
				}
				checkPut(t, list, d, got)
			}
		}
	}
}

func checkPut(t *testing.T, list []impl.Dep, d impl.Dep, got []impl.Dep) {
	t.Helper()
	for key := range impl.VerKeys {
		want := impl.DepsAt(list, key)
		if key == d.Key {
			want = newer(want, d.Stamp)
		}
		if impl.DepsAt(got, key) != want {
			t.Error(list, d, got)
		}
	}
}

// Promise 9.
func TestPutTwiceAndInEitherOrder(t *testing.T) {
	ones := []impl.Dep{dep(0, 1, 0), dep(0, 2, 0), dep(0, 2, 3), dep(3, 2, 1), dep(3, 2, 2), dep(4, 1, 1), dep(5, 1, 3), dep(5, 9, 0)}
	for _, list := range append(someDeps(), fullDeps()) {
		for _, a := range ones {
			once := impl.DepsPut(list, a)
			if len(once) == 0 || !slices.Equal(impl.DepsPut(once, a), once) {
				t.Error(list, a, once)
			}
			for _, b := range ones {
				ab, ba := impl.DepsPut(once, b), impl.DepsPut(impl.DepsPut(list, b), a)
				if len(ab) == 0 || !slices.Equal(ab, ba) {
					t.Error(list, a, b, ab, ba)
				}
			}
		}
	}
}

// Promises 10 and 14.
func TestJoinedHaveTheNewerOfBoth(t *testing.T) {
	lists := append(someDeps(), fullDeps(), []impl.Dep{dep(1, 1, 0), dep(4, impl.StampMax, 3)})
	for _, a := range lists {
		for _, b := range lists {
			ab, ba := impl.DepsJoin(a, b), impl.DepsJoin(b, a)
			want := joinedBy(a, b)
			if !impl.DepsOk(ab) || !slices.Equal(ab, want) || !slices.Equal(ba, want) {
				t.Error(a, b, ab, ba)
			}
			for key := range impl.VerKeys {
				at := impl.DepsAt(ab, key)
				if impl.StampLess(at, impl.DepsAt(a, key)) || impl.StampLess(at, impl.DepsAt(b, key)) {
					t.Error(a, b, ab)
				}
			}
		}
	}
}

// Joining is putting, one by one.
func TestJoinIsPutOneByOne(t *testing.T) {
	for _, a := range append(someDeps(), fullDeps()) {
		for _, b := range append(someDeps(), fullDeps()) {
			want := a
			for _, d := range b {
				want = impl.DepsPut(want, d)
			}
			if got := impl.DepsJoin(a, b); !slices.Equal(got, want) {
				t.Error(a, b, got, want)
			}
		}
	}
}

// Promise 11.
func TestThreeAreJoinedAsTwo(t *testing.T) {
	lists := append(manyDeps([]int{0, 2, 5}, []impl.Stamp{{Time: 1, Site: 2}, {Time: 2, Site: 0}}), fullDeps())
	for _, a := range lists {
		for _, b := range lists {
			for _, c := range lists {
				left := impl.DepsJoin(impl.DepsJoin(a, b), c)
				right := impl.DepsJoin(a, impl.DepsJoin(b, c))
				if !slices.Equal(left, right) || !slices.Equal(left, joinedBy(joinedBy(a, b), c)) {
					t.Fatal(a, b, c, left, right)
				}
			}
		}
	}
}

// Promise 12.
func TestWhatIsToldOfAKeyIsThere(t *testing.T) {
	for _, list := range append(someDeps(), fullDeps()) {
		for key := -2; key < impl.VerKeys+2; key++ {
			at := impl.DepsAt(list, key)
			if at != stampOf(list, key) {
				t.Error(list, key, at)
			}
			if at != (impl.Stamp{}) && !slices.Contains(list, impl.Dep{Key: key, Stamp: at}) {
				t.Error(list, key, at)
			}
		}
		for _, key := range []int{math.MinInt, math.MaxInt} {
			if at := impl.DepsAt(list, key); at != (impl.Stamp{}) {
				t.Error(list, key, at)
			}
		}
	}
}

// Promise 13.
func TestJoinedWithItselfOrNone(t *testing.T) {
	for _, list := range append(someDeps(), fullDeps()) {
		for _, got := range [][]impl.Dep{
			impl.DepsJoin(list, list), impl.DepsJoin(list, nil), impl.DepsJoin(nil, list), impl.DepsJoin(list, []impl.Dep{}),
		} {
			if !slices.Equal(got, list) {
				t.Error(list, got)
			}
		}
	}
}

// Promise 15.
func TestNoMoreKeysThanThereAre(t *testing.T) {
	var list []impl.Dep
	for i := range 500 {
		d := dep(i*5%impl.VerKeys, 1+i*7%impl.StampMax, i%impl.Sites)
		list = impl.DepsPut(list, d)
		if !impl.DepsOk(list) || len(list) > impl.VerKeys {
			t.Fatal(i, list)
		}
	}
	if len(list) != impl.VerKeys || len(impl.DepsJoin(list, fullDeps())) != impl.VerKeys {
		t.Error(list)
	}
	for _, d := range wrongDepOnes() {
		if got := impl.DepsPut(list, d); len(got) != 0 {
			t.Error(d, got)
		}
	}
}

// What is not ok has one fixed answer, on either side.
func TestDepsRefuse(t *testing.T) {
	good := []impl.Dep{dep(1, 2, 1), dep(3, 1, 0)}
	for _, bad := range wrongDeps() {
		for key := range impl.VerKeys {
			if at := impl.DepsAt(bad, key); at != (impl.Stamp{}) {
				t.Error(bad, key, at)
			}
			if got := impl.DepsPut(bad, dep(key, 5, 1)); len(got) != 0 {
				t.Error(bad, key, got)
			}
		}
		for _, list := range [][]impl.Dep{nil, good, fullDeps(), bad} {
			if got := impl.DepsJoin(list, bad); len(got) != 0 {
				t.Error(list, bad, got)
			}
			if got := impl.DepsJoin(bad, list); len(got) != 0 {
				t.Error(bad, list, got)
			}
		}
	}
	for _, d := range wrongDepOnes() {
		for _, list := range [][]impl.Dep{nil, good, fullDeps()} {
			if got := impl.DepsPut(list, d); len(got) != 0 {
				t.Error(list, d, got)
			}
		}
	}
}

// roomy is a list with spare room, in which marks stand behind its end.
func roomy(list []impl.Dep) []impl.Dep {
	all := slices.Clone(list)
	for len(all) < len(list)+8 {
		all = append(all, dep(77, 77, 77))
	}
	return all[:len(list):len(all)]
}

// spoil writes all over a list, its spare room included.
func spoil(list []impl.Dep) {
	all := list[:cap(list)]
	for i := range all {
		all[i] = dep(88, 88, 88)
	}
}

func TestDepsAnswersAreNewMemory(t *testing.T) {
	for name, call := range map[string]func(a, b []impl.Dep) []impl.Dep{
		"put newer":    func(a, b []impl.Dep) []impl.Dep { return impl.DepsPut(a, dep(2, 9, 1)) },
		"put older":    func(a, b []impl.Dep) []impl.Dep { return impl.DepsPut(a, dep(2, 1, 0)) },
		"put another":  func(a, b []impl.Dep) []impl.Dep { return impl.DepsPut(a, dep(5, 1, 0)) },
		"join":         impl.DepsJoin,
		"join turned":  func(a, b []impl.Dep) []impl.Dep { return impl.DepsJoin(b, a) },
		"join itself":  func(a, b []impl.Dep) []impl.Dep { return impl.DepsJoin(a, a) },
		"join none":    func(a, b []impl.Dep) []impl.Dep { return impl.DepsJoin(a, nil) },
		"join to none": func(a, b []impl.Dep) []impl.Dep { return impl.DepsJoin(nil, a) },
		"join empty":   func(a, b []impl.Dep) []impl.Dep { return impl.DepsJoin(a, b[:0]) },
	} {
		a, b := roomy([]impl.Dep{dep(1, 2, 1), dep(2, 3, 1)}), roomy([]impl.Dep{dep(2, 3, 2), dep(4, 1, 0)})
		wasA, wasB := slices.Clone(a[:cap(a)]), slices.Clone(b[:cap(b)])
		first, second := call(a, b), call(a, b)
		want := slices.Clone(first)
		if len(first) == 0 || !slices.Equal(first, second) {
			t.Error(name, first, second)
		}
		spoil(first)
		if !slices.Equal(second, want) || !slices.Equal(a[:cap(a)], wasA) || !slices.Equal(b[:cap(b)], wasB) {
			t.Error(name, second, a[:cap(a)], b[:cap(b)])
		}
		spoil(a)
		spoil(b)
		if !slices.Equal(second, want) {
			t.Error(name, second)
		}
	}
}

func TestVerLeavesItsDeps(t *testing.T) {
	v := okVer()
	v.Deps = roomy(v.Deps)
	was := slices.Clone(v.Deps[:cap(v.Deps)])
	if !impl.VerOk(v) || !impl.DepsOk(v.Deps) || impl.DepsAt(v.Deps, 5) != v.Deps[2].Stamp {
		t.Error(v)
	}
	if !slices.Equal(v.Deps[:cap(v.Deps)], was) {
		t.Error(v.Deps[:cap(v.Deps)])
	}
}
