package tests

import (
	"math"
	"slices"
	"testing"

	"loop.example/tombolo/impl"
)

// ver is an ok version whose other parts tell it from those of other keys and stamps.
func ver(key int, time int, site int) impl.Ver {
	v := impl.Ver{Key: key, Stamp: impl.Stamp{Time: time, Site: site}, Val: (time*10 + site) % 10000, Client: site % impl.VerClients, Call: 1 + time%impl.VerMaxCall}
	if time > 1 {
		v.Deps = []impl.Dep{dep(key/2, time-1, site), dep(5, 1, 3)}
	}
	return v
}

// someVers, in order, has the first and the last key, several of one key, some of one time and other sites, and each slot.
func someVers() []impl.Ver {
	return []impl.Ver{
		ver(0, 1, 0), ver(0, 1, 3), ver(0, 2, 0), ver(2, 3, 1), ver(2, 3, 2), ver(3, 1, 0), ver(5, 2, 3), ver(5, impl.StampMax, 3),
	}
}

// manyChains has each choice of these versions, none and all among them.
func manyChains() [][]impl.Ver {
	var lists [][]impl.Ver
	for some := range 1 << len(someVers()) {
		var list []impl.Ver
		for i, v := range someVers() {
			if some>>i&1 == 1 {
				list = append(list, v)
			}
		}
		lists = append(lists, list)
	}
	return lists
}

// longChain has n versions in order, shared out to all keys; there is room for one more anywhere, by times in between.
func longChain(n int) []impl.Ver {
	var list []impl.Ver
	for i := range n {
		list = append(list, ver(i*impl.VerKeys/n, 2*i+2, i%impl.Sites))
	}
	return list
}

// oneKeyChain has n versions in order, all of one key, by sites within times.
func oneKeyChain(n int) []impl.Ver {
	var list []impl.Ver
	for i := range n {
		list = append(list, ver(4, 1+i/impl.Sites, i%impl.Sites))
	}
	return list
}

// wrongVers has versions that are not ok, one fault each.
func wrongVers() []impl.Ver {
	var list []impl.Ver
	for _, change := range []func(v *impl.Ver){
		func(v *impl.Ver) { v.Key = -1 },
		func(v *impl.Ver) { v.Key = impl.VerKeys },
		func(v *impl.Ver) { v.Key = math.MinInt },
		func(v *impl.Ver) { v.Key = math.MaxInt },
		func(v *impl.Ver) { v.Val = -1 },
		func(v *impl.Ver) { v.Val = impl.VerMaxVal + 1 },
		func(v *impl.Ver) { v.Client = -1 },
		func(v *impl.Ver) { v.Client = impl.VerClients },
		func(v *impl.Ver) { v.Call = 0 },
		func(v *impl.Ver) { v.Call = impl.VerMaxCall + 1 },
		func(v *impl.Ver) { v.Stamp.Site = -1 },
		func(v *impl.Ver) { v.Stamp.Site = impl.Sites },
		func(v *impl.Ver) { v.Stamp.Time = impl.StampMax + 1 },
		func(v *impl.Ver) { v.Stamp, v.Deps = impl.Stamp{}, nil },
		func(v *impl.Ver) { v.Deps[0].Stamp.Time = v.Stamp.Time },
		func(v *impl.Ver) { v.Deps[0], v.Deps[1] = v.Deps[1], v.Deps[0] },
		func(v *impl.Ver) { v.Deps[1] = v.Deps[0] },
		func(v *impl.Ver) { v.Deps[0].Key = -1 },
		func(v *impl.Ver) { *v = impl.Ver{} },
	} {
		v := okVer()
		change(&v)
		list = append(list, v)
	}
	return list
}

// wrongChains has lists that are not in order, one fault each, in whichever place it is.
func wrongChains() [][]impl.Ver {
	lists := [][]impl.Ver{longChain(impl.ChainMax + 1), oneKeyChain(impl.ChainMax + 1), longChain(500)}
	all := someVers()
	for i := range all {
		twice := slices.Insert(slices.Clone(all), i, all[i])
		other := slices.Clone(twice)
		other[i].Val++
		far := append(slices.Clone(all), all[i])
		lists = append(lists, twice, other, far)
		for j := range i {
			turned := slices.Clone(all)
			turned[i], turned[j] = turned[j], turned[i]
			lists = append(lists, turned)
		}
	}
	for _, bad := range wrongVers() {
		lists = append(lists, []impl.Ver{bad})
		place, _ := slices.BinarySearchFunc(all, bad, verOrder)
		lists = append(lists, slices.Insert(slices.Clone(all), place, bad))
	}
	for i := range all {
		bad := slices.Clone(all)
		bad[i].Call = 0
		lists = append(lists, bad)
	}
	return lists
}

// verOrder is by key, then time, then site, without the program.
func verOrder(a impl.Ver, b impl.Ver) int {
	for _, c := range [][2]int{{a.Key, b.Key}, {a.Stamp.Time, b.Stamp.Time}, {a.Stamp.Site, b.Stamp.Site}} {
		if c[0] < c[1] {
			return -1
		}
		if c[0] > c[1] {
			return 1
		}
	}
	return 0
}

func sameVer(a impl.Ver, b impl.Ver) bool {
	return verOrder(a, b) == 0 && a.Val == b.Val && a.Client == b.Client && a.Call == b.Call && slices.Equal(a.Deps, b.Deps)
}

func sameVers(a []impl.Ver, b []impl.Ver) bool {
	return slices.EqualFunc(a, b, sameVer)
}

func noVer(v impl.Ver) bool {
	return sameVer(v, impl.Ver{})
}

// findVers is those of a key and stamp, looked for one by one.
func findVers(list []impl.Ver, key int, s impl.Stamp) []impl.Ver {
	var found []impl.Ver
	for _, v := range list {
		if v.Key == key && v.Stamp == s {
			found = append(found, v)
		}
	}
	return found
}

// putBy is what a put comes to, without the program.
func putBy(list []impl.Ver, v impl.Ver) ([]impl.Ver, bool) {
	if len(list) >= impl.ChainMax || len(findVers(list, v.Key, v.Stamp)) > 0 {
		return list, false
	}
	more := append(slices.Clone(list), v)
	slices.SortFunc(more, verOrder)
	return more, true
}

// moreVers has versions that some chains have and others lack: as the first, in the midst and as the last, of keys with none and with some,
// and such as have the key and stamp of another one.
func moreVers() []impl.Ver {
	list := append(someVers(), ver(0, 1, 1), ver(0, 1, 2), ver(0, 3, 0), ver(1, 1, 0), ver(2, 1, 0), ver(2, 3, 0), ver(2, 3, 3), ver(4, 5, 2), ver(5, 1, 0), ver(5, 3, 0))
	for _, v := range someVers() {
		otherVal, otherDeps, otherCall := v, v, v
		otherVal.Val = v.Val/2 + 7
		otherDeps.Deps = nil
		otherCall.Client, otherCall.Call = 1-v.Client, 77
		list = append(list, otherVal, otherDeps, otherCall)
	}
	return list
}

func TestChainLimits(t *testing.T) {
	if impl.ChainMax != 80 {
		t.Error(impl.ChainMax)
	}
}

func TestChainOk(t *testing.T) {
	good := append(manyChains(), []impl.Ver{})
	for n := range impl.ChainMax + 1 {
		good = append(good, longChain(n), oneKeyChain(n))
	}
	for _, list := range good {
		if !impl.ChainOk(list) {
			t.Error(list)
		}
	}
	for _, list := range wrongChains() {
		if impl.ChainOk(list) {
			t.Error(list)
		}
	}
}

// Promise 16.
func TestPutIsThereAndOthersStay(t *testing.T) {
	for _, list := range append(manyChains(), []impl.Ver{}, longChain(30), oneKeyChain(30)) {
		for _, v := range moreVers() {
			got, ok := impl.ChainPut(list, v)
			want, wantOk := putBy(list, v)
			if ok != wantOk || !sameVers(got, want) || !impl.ChainOk(got) {
				t.Fatal(list, v, got, ok)
			}
			if at, there := impl.ChainAt(got, v.Key, v.Stamp); !there || ok && !sameVer(at, v) {
				t.Error(list, v, at)
			}
			if again, taken := impl.ChainPut(got, v); taken || !sameVers(again, got) {
				t.Error(list, v, again)
			}
		}
	}
}

// Promise 16: what is there stays as it is, whatever else the one to be put says.
func TestPutDoesNotReplace(t *testing.T) {
	first := ver(2, 5, 1)
	list, ok := impl.ChainPut(nil, first)
	if !ok {
		t.Fatal(list)
	}
	for _, change := range []func(v *impl.Ver){
		func(v *impl.Ver) { v.Val++ },
		func(v *impl.Ver) { v.Deps = nil },
		func(v *impl.Ver) { v.Deps = fullDeps() },
		func(v *impl.Ver) { v.Client = 1 - v.Client },
		func(v *impl.Ver) { v.Call++ },
	} {
		v := ver(2, 5, 1)
		change(&v)
		if got, ok := impl.ChainPut(list, v); !impl.VerOk(v) || ok || !sameVers(got, []impl.Ver{first}) {
			t.Error(v, got, ok)
		}
	}
}

// Promise 17.
func TestPutInEitherOrder(t *testing.T) {
	for _, list := range append(manyChains(), longChain(30)) {
		for _, a := range moreVers() {
			for _, b := range someVers() {
				if a.Key == b.Key && a.Stamp == b.Stamp {
					continue
				}
				withA, okA := impl.ChainPut(list, a)
				ab, okAB := impl.ChainPut(withA, b)
				withB, okB := impl.ChainPut(list, b)
				ba, okBA := impl.ChainPut(withB, a)
				if okA != okBA || okB != okAB || !sameVers(ab, ba) || len(ab) == 0 {
					t.Fatal(list, a, b, ab, ba)
				}
			}
		}
	}
}

// Promise 17: of the last two places both orders take both, of the last one the first takes it.
func TestPutInEitherOrderWhereRoomEnds(t *testing.T) {
	a, b := ver(0, 1, 0), ver(5, impl.StampMax, 3)
	for _, pair := range [][2]impl.Ver{{a, b}, {b, a}} {
		for n := impl.ChainMax - 2; n <= impl.ChainMax; n++ {
			list, firstOk := impl.ChainPut(longChain(n), pair[0])
			list, secondOk := impl.ChainPut(list, pair[1])
			if firstOk != (n < impl.ChainMax) || secondOk != (n < impl.ChainMax-1) || len(list) != impl.ChainMax {
				t.Error(n, firstOk, secondOk, len(list))
			}
		}
	}
}

// Promises 18 and 24.
func TestNewestOfAKey(t *testing.T) {
	keys := []int{math.MinInt, -1, 0, 1, 2, 3, 4, 5, 6, 7, math.MaxInt}
	for _, list := range append(manyChains(), []impl.Ver{}, longChain(impl.ChainMax), oneKeyChain(impl.ChainMax), oneKeyChain(1)) {
		for _, key := range keys {
			mine := slices.DeleteFunc(slices.Clone(list), func(v impl.Ver) bool { return v.Key != key })
			top, ok := impl.ChainTop(list, key)
			if ok != (len(mine) > 0) || !ok && !noVer(top) {
				t.Fatal(list, key, top, ok)
			}
			if ok && !sameVer(top, slices.MaxFunc(mine, verOrder)) {
				t.Error(list, key, top)
			}
			for _, v := range mine {
				if impl.StampLess(top.Stamp, v.Stamp) {
					t.Error(list, key, top, v)
				}
			}
		}
	}
}

// Promises 19 and 25.
func TestFoundByItsStamp(t *testing.T) {
	stamps := append(anyStamps(), impl.Stamp{Time: 3, Site: 1}, impl.Stamp{Time: 160, Site: 3}, impl.Stamp{Time: 20, Site: 3})
	for _, list := range append(manyChains(), longChain(impl.ChainMax), oneKeyChain(impl.ChainMax)) {
		for _, v := range list {
			if at, ok := impl.ChainAt(list, v.Key, v.Stamp); !ok || !sameVer(at, v) {
				t.Fatal(list, v, at, ok)
			}
		}
	}
	for _, list := range [][]impl.Ver{nil, {}, someVers()[:1], someVers(), longChain(impl.ChainMax), oneKeyChain(impl.ChainMax)} {
		for _, key := range []int{math.MinInt, -1, 0, 1, 2, 3, 4, 5, 6, math.MaxInt} {
			for _, s := range stamps {
				checkAt(t, list, key, s)
			}
		}
	}
}

func checkAt(t *testing.T, list []impl.Ver, key int, s impl.Stamp) {
	t.Helper()
	at, ok := impl.ChainAt(list, key, s)
	found := findVers(list, key, s)
	if ok != (len(found) == 1) || !ok && !noVer(at) || ok && !sameVer(at, found[0]) {
		t.Error(list, key, s, at, ok)
	}
}

// Promise 20.
func TestDepsAreThereIfEachIs(t *testing.T) {
	lists := manyDeps([]int{0, 2, 5}, []impl.Stamp{{Time: 1, Site: 0}, {Time: 1, Site: 3}, {Time: 3, Site: 2}, {Time: impl.StampMax, Site: 3}})
	for _, list := range manyChains() {
		for _, deps := range append(lists, []impl.Dep{}, []impl.Dep{dep(3, 1, 0)}, []impl.Dep{dep(1, 1, 0)}, []impl.Dep{dep(2, 3, 1), dep(3, 1, 0)}) {
			want := true
			for _, d := range deps {
				want = want && len(findVers(list, d.Key, d.Stamp)) > 0
			}
			if impl.ChainHas(list, deps) != want {
				t.Fatal(list, deps, want)
			}
		}
	}
}

// Promise 20: with more versions they are still.
func TestDepsAreThereWithMoreVersions(t *testing.T) {
	deps := []impl.Dep{dep(0, 1, 3), dep(2, 3, 1), dep(5, 2, 3)}
	list := []impl.Ver{ver(0, 1, 3), ver(2, 3, 1), ver(5, 2, 3)}
	for i := range 2 * impl.ChainMax {
		if !impl.ChainHas(list, deps) || !impl.ChainHas(list, deps[1:]) || !impl.ChainHas(list, nil) {
			t.Fatal(i, list)
		}
		list, _ = impl.ChainPut(list, ver(i%impl.VerKeys, 1+i*7%200, i%impl.Sites))
	}
	if len(list) != impl.ChainMax {
		t.Error(len(list))
	}
	if got := longChain(impl.ChainMax); !impl.ChainHas(got, []impl.Dep{dep(0, got[0].Stamp.Time, got[0].Stamp.Site), dep(5, got[79].Stamp.Time, got[79].Stamp.Site)}) {
		t.Error("first and last of all that there is room for")
	}
}

// Deps that are not ok are not there, even if each of them would be.
func TestHasRefusesWrongDeps(t *testing.T) {
	wrong := append(wrongDeps(),
		[]impl.Dep{dep(0, 1, 0), dep(0, 1, 0)}, []impl.Dep{dep(0, 1, 0), dep(0, 1, 3)}, []impl.Dep{dep(2, 3, 1), dep(0, 1, 0)})
	for _, list := range [][]impl.Ver{nil, {}, someVers(), longChain(impl.ChainMax)} {
		for _, deps := range wrong {
			if impl.ChainHas(list, deps) {
				t.Error(list, deps)
			}
		}
	}
}

// Promises 21 and 23.
func TestSlotsAndOthers(t *testing.T) {
	for _, list := range append(manyChains(), []impl.Ver{}, longChain(impl.ChainMax), oneKeyChain(impl.ChainMax)) {
		var all []impl.Ver
		for slot := range impl.VerSlots {
			of, others := checkSlot(t, list, slot)
			all = append(all, of...)
			checkTogether(t, list, of, others)
			checkTogether(t, list, others, of)
		}
		if !sameVers(all, list) {
			t.Error(list, all)
		}
		for _, none := range []int{math.MinInt, -1, impl.VerSlots, 4, 5, math.MaxInt} {
			if of, others := checkSlot(t, list, none); len(of) != 0 || !sameVers(others, list) {
				t.Error(list, none, of, others)
			}
		}
	}
}

func checkSlot(t *testing.T, list []impl.Ver, slot int) ([]impl.Ver, []impl.Ver) {
	t.Helper()
	of, others := impl.ChainSlot(list, slot)
	inSlot := func(v impl.Ver) bool { return v.Key/2 == slot }
	notInSlot := func(v impl.Ver) bool { return v.Key/2 != slot }
	if !sameVers(of, slices.DeleteFunc(slices.Clone(list), notInSlot)) || !sameVers(others, slices.DeleteFunc(slices.Clone(list), inSlot)) {
		t.Error(list, slot, of, others)
	}
	if !impl.ChainOk(of) || !impl.ChainOk(others) {
		t.Error(list, slot, of, others)
	}
	return of, others
}

func checkTogether(t *testing.T, list []impl.Ver, some []impl.Ver, more []impl.Ver) {
	t.Helper()
	for _, v := range more {
		with, ok := impl.ChainPut(some, v)
		if !ok {
			t.Error(list, some, v)
		}
		some = with
	}
	if !sameVers(some, list) {
		t.Error(list, some)
	}
}

// Promise 22.
func TestNewestNeverGetsOlder(t *testing.T) {
	for _, list := range append(manyChains(), longChain(impl.ChainMax), longChain(impl.ChainMax-1)) {
		for _, v := range moreVers() {
			more, taken := impl.ChainPut(list, v)
			for key := range impl.VerKeys {
				was, wasOk := impl.ChainTop(list, key)
				is, isOk := impl.ChainTop(more, key)
				if wasOk && !isOk || impl.StampLess(is.Stamp, was.Stamp) {
					t.Fatal(list, v, key, was, is)
				}
				if key != v.Key && !sameVer(is, was) || key == v.Key && taken && is.Stamp != newer(was.Stamp, v.Stamp) {
					t.Fatal(list, v, key, was, is)
				}
			}
		}
	}
}

// Promise 26: one fewer, just as many and one more than there is room for, at each place.
func TestNoMoreThanThereIsRoomFor(t *testing.T) {
	for _, build := range []func(n int) []impl.Ver{longChain, oneKeyChain} {
		for _, v := range []impl.Ver{ver(0, 1, 0), ver(2, 61, 1), ver(3, 9000, 0), ver(4, 1, 3), ver(4, 200, 0), ver(5, impl.StampMax, 3)} {
			fewer, full, more := build(impl.ChainMax-1), build(impl.ChainMax), build(impl.ChainMax+1)
			want, fits := putBy(fewer, v)
			if got, ok := impl.ChainPut(fewer, v); ok != fits || !sameVers(got, want) {
				t.Error(v, len(got), ok)
			}
			if got, ok := impl.ChainPut(full, v); ok || !sameVers(got, full) {
				t.Error(v, len(got), ok)
			}
			if got, ok := impl.ChainPut(more, v); ok || len(got) != 0 {
				t.Error(v, len(got), ok)
			}
		}
	}
}

// Promise 26: whatever is put, and in whichever order, what came while there was room stays.
func TestPutTillThereIsNoRoom(t *testing.T) {
	var list []impl.Ver
	for i := range 300 {
		v := ver(i*5%impl.VerKeys, 1+i*37%301, i%impl.Sites)
		more, ok := impl.ChainPut(list, v)
		want, wantOk := putBy(list, v)
		if ok != wantOk || !sameVers(more, want) || len(more) > impl.ChainMax {
			t.Fatal(i, len(more), ok)
		}
		list = more
	}
	if len(list) != impl.ChainMax || !impl.ChainOk(list) {
		t.Error(len(list))
	}
}

// A version that is not ok is not taken, also where there is no room, and all stay.
func TestPutRefusesWrongVersions(t *testing.T) {
	wrong := wrongVers()
	for _, deps := range wrongDeps() {
		v := ver(2, impl.StampMax, 3)
		v.Deps = deps
		wrong = append(wrong, v)
	}
	for _, s := range anyStamps() {
		if v := (impl.Ver{Key: 2, Stamp: s, Call: 1}); !impl.StampOk(s) {
			wrong = append(wrong, v)
		}
	}
	for _, list := range [][]impl.Ver{nil, {}, someVers(), longChain(impl.ChainMax - 1), longChain(impl.ChainMax), oneKeyChain(impl.ChainMax)} {
		for _, v := range wrong {
			if got, ok := impl.ChainPut(list, v); ok || !sameVers(got, list) {
				t.Error(list, v, got, ok)
			}
		}
	}
}

// Versions that are not in order have one fixed answer at each function, whatever is asked of them.
func TestChainsRefuse(t *testing.T) {
	for _, list := range wrongChains() {
		for _, v := range append(wrongVers(), ver(1, 5, 1), ver(2, 3, 1), ver(5, impl.StampMax-1, 0)) {
			if got, ok := impl.ChainPut(list, v); ok || len(got) != 0 {
				t.Error(list, v, got, ok)
			}
		}
		for key := -1; key <= impl.VerKeys; key++ {
			if top, ok := impl.ChainTop(list, key); ok || !noVer(top) {
				t.Error(list, key, top, ok)
			}
		}
		for _, v := range list {
			if at, ok := impl.ChainAt(list, v.Key, v.Stamp); ok || !noVer(at) {
				t.Error(list, v, at, ok)
			}
			if impl.ChainHas(list, []impl.Dep{{Key: v.Key, Stamp: v.Stamp}}) {
				t.Error(list, v)
			}
		}
		if impl.ChainHas(list, nil) || impl.ChainHas(list, []impl.Dep{}) {
			t.Error(list)
		}
		for slot := -1; slot <= impl.VerSlots; slot++ {
			if of, others := impl.ChainSlot(list, slot); len(of) != 0 || len(others) != 0 {
				t.Error(list, slot, of, others)
			}
		}
	}
}

// deepCopy has all of a list, its spare room and that of deps included, in memory of its own.
func deepCopy(list []impl.Ver) []impl.Ver {
	all := slices.Clone(list[:cap(list)])
	for i := range all {
		all[i].Deps = slices.Clone(all[i].Deps[:cap(all[i].Deps)])
	}
	return all
}

// roomyVers is a list with spare room, as have its deps, in which marks stand behind each end.
func roomyVers(list []impl.Ver) []impl.Ver {
	all := slices.Clone(list)
	for len(all) < len(list)+8 {
		all = append(all, impl.Ver{Key: 77, Val: 77})
	}
	for i := range list {
		all[i].Deps = roomy(all[i].Deps)
	}
	return all[:len(list):len(all)]
}

// spoilVers writes all over a list and its deps, all spare room included.
func spoilVers(list []impl.Ver) {
	all := list[:cap(list)]
	for i := range all {
		spoil(all[i].Deps)
		all[i] = impl.Ver{Key: 88, Val: 88}
	}
}

// chainCalls has each function that answers versions, in each of its cases.
func chainCalls() map[string]func(list []impl.Ver, v impl.Ver) [][]impl.Ver {
	put := func(list []impl.Ver, v impl.Ver) [][]impl.Ver {
		got, _ := impl.ChainPut(list, v)
		return [][]impl.Ver{got}
	}
	slot := func(n int) func(list []impl.Ver, v impl.Ver) [][]impl.Ver {
		return func(list []impl.Ver, v impl.Ver) [][]impl.Ver {
			of, others := impl.ChainSlot(list, n)
			return [][]impl.Ver{of, others}
		}
	}
	return map[string]func(list []impl.Ver, v impl.Ver) [][]impl.Ver{
		"put":        put,
		"put to few": func(list []impl.Ver, v impl.Ver) [][]impl.Ver { return put(list[:1], v) },
		"put twice":  func(list []impl.Ver, v impl.Ver) [][]impl.Ver { return put(list, list[1]) },
		"put to none": func(list []impl.Ver, v impl.Ver) [][]impl.Ver {
			return put(list[:0], v)
		},
		"put wrong": func(list []impl.Ver, v impl.Ver) [][]impl.Ver {
			v.Call = 0
			return put(list, v)
		},
		"top": func(list []impl.Ver, v impl.Ver) [][]impl.Ver {
			top, _ := impl.ChainTop(list, list[0].Key)
			return [][]impl.Ver{{top}}
		},
		"at": func(list []impl.Ver, v impl.Ver) [][]impl.Ver {
			at, _ := impl.ChainAt(list, list[1].Key, list[1].Stamp)
			return [][]impl.Ver{{at}}
		},
		"slot 0": slot(0), "slot 1": slot(1), "slot 2": slot(2), "no slot": slot(-1),
	}
}

func sameLists(a [][]impl.Ver, b [][]impl.Ver) bool {
	return slices.EqualFunc(a, b, sameVers)
}

// memoryChains has chains whose versions have deps, also where there is no room left.
func memoryChains() [][]impl.Ver {
	full := longChain(impl.ChainMax)
	return [][]impl.Ver{{ver(0, 3, 1), ver(0, 4, 1), ver(2, 3, 2), ver(5, 2, 0), ver(5, 3, 0)}, full[:impl.ChainMax-1], full}
}

func TestChainAnswersAreNewMemory(t *testing.T) {
	for name, call := range chainCalls() {
		for _, chain := range memoryChains() {
			for _, v := range []impl.Ver{ver(0, 2, 3), ver(3, 3, 0), ver(5, impl.StampMax, 3)} {
				list := roomyVers(chain)
				v.Deps = roomy(v.Deps)
				was, wasDeps := deepCopy(list), slices.Clone(v.Deps[:cap(v.Deps)])
				first, second, want := call(list, v), call(list, v), call(list, v)
				for _, answer := range first {
					spoilVers(answer)
				}
				if !sameLists(second, want) || !sameVers(deepCopy(list), was) || !slices.Equal(v.Deps[:cap(v.Deps)], wasDeps) {
					t.Fatal(name, "the answer shares memory, or an argument was written into", second)
				}
				spoilVers(list)
				spoil(v.Deps)
				if !sameLists(second, want) || len(want[0])+len(want[len(want)-1]) == 0 {
					t.Fatal(name, "the answer shares memory with an argument", second)
				}
			}
		}
	}
}

// No two lists of one answer share any, not even where those of the argument do.
func TestListsOfAChainAnswerAreApart(t *testing.T) {
	shared := roomy([]impl.Dep{dep(1, 1, 1), dep(3, 1, 2)})
	list := []impl.Ver{ver(0, 3, 1), ver(0, 4, 1), ver(2, 3, 2), ver(5, 2, 0), ver(5, 3, 0)}
	for i := range list {
		list[i].Deps = shared
	}
	v := ver(3, 3, 0)
	v.Deps = shared
	for name, call := range chainCalls() {
		want := call(list, v)
		for i := range want {
			for j := range want[i] {
				answer := call(list, v)
				spoil(answer[i][j].Deps)
				answer[i][j] = want[i][j]
				if !sameLists(answer, want) {
					t.Fatal(name, i, j, answer)
				}
			}
			answer := call(list, v)
			spoilVers(answer[i])
			answer[i] = want[i]
			if !sameLists(answer, want) {
				t.Fatal(name, i, answer)
			}
		}
	}
}

// Looking leaves all as it was, and is answered alike again.
func TestLookingLeavesItsChain(t *testing.T) {
	list, deps := roomyVers(someVers()), roomy([]impl.Dep{dep(0, 1, 3), dep(2, 3, 1)})
	was, wasDeps := deepCopy(list), slices.Clone(deps[:cap(deps)])
	for range 2 {
		if !impl.ChainOk(list) || !impl.ChainHas(list, deps) || !impl.ChainHas(list, deps[:1]) {
			t.Error(list, deps)
		}
		if impl.ChainOk(list[:cap(list)]) || impl.ChainHas(list, deps[:cap(deps)]) {
			t.Error("marks behind an end are not ok")
		}
	}
	if !sameVers(deepCopy(list), was) || !slices.Equal(deps[:cap(deps)], wasDeps) {
		t.Error(list, deps)
	}
}
