package tests

import (
	"cmp"
	"reflect"
	"slices"
	"testing"

	"loop.example/tombolo/impl"
)

// stretch is where a list lies in memory, its spare room included.
type stretch struct {
	from uintptr
	to   uintptr
}

// stretchesOf is where all lists of a value lie, those in the spare room of others, too.
func stretchesOf(v reflect.Value) []stretch {
	var list []stretch
	switch v.Kind() {
	case reflect.Struct:
		for i := range v.NumField() {
			list = append(list, stretchesOf(v.Field(i))...)
		}
	case reflect.Slice:
		if v.Cap() == 0 || v.Type().Elem().Size() == 0 {
			return nil
		}
		list = append(list, stretch{v.Pointer(), v.Pointer() + uintptr(v.Cap())*v.Type().Elem().Size()})
		all := v.Slice(0, v.Cap())
		for i := range all.Len() {
			list = append(list, stretchesOf(all.Index(i))...)
		}
	}
	return list
}

// checkOwnMemory: no two lists of an answer share any memory, and none shares any with what was handed in.
func checkOwnMemory(t *testing.T, answer any, given ...any) {
	t.Helper()
	own := stretchesOf(reflect.ValueOf(answer))
	slices.SortFunc(own, func(a stretch, b stretch) int { return cmp.Compare(a.from, b.from) })
	for i := 1; i < len(own); i++ {
		if own[i-1].to > own[i].from {
			t.Fatal("two lists of one answer share memory", answer)
		}
	}
	for _, g := range given {
		for _, s := range stretchesOf(reflect.ValueOf(g)) {
			place, _ := slices.BinarySearchFunc(own, s, func(a stretch, b stretch) int { return cmp.Compare(a.to, b.from+1) })
			if place < len(own) && own[place].from < s.to {
				t.Fatal("the answer shares memory with an argument", answer, g)
			}
		}
	}
}

// The check itself finds what is shared: in a list, between two, in spare room, and with an argument.
func TestStretches(t *testing.T) {
	deps := make([]impl.Dep, 6)
	for i, c := range []struct {
		a    []impl.Dep
		b    []impl.Dep
		want bool
	}{
		{deps[0:2:2], deps[2:4:4], false}, {deps[0:2], deps[2:4:4], true}, {deps[0:0], deps[4:6], true}, {deps[0:0:0], deps[0:6], false}, {deps[3:4:4], deps[0:6], true},
		{deps[1:3:3], deps[1:3:3], true}, {deps[4:6], deps[0:4:4], false}, {deps[4:6], deps[0:4:5], true}, {deps[0:4:5], deps[4:6], true}, {nil, deps, false},
	} {
		list := stretchesOf(reflect.ValueOf(impl.Server{Owes: c.a, Knows: c.b}))
		shared := len(list) == 2 && list[0].from < list[1].to && list[1].from < list[0].to
		if shared != c.want {
			t.Error(i, list)
		}
	}
}

// checkNeckMemory: nothing is written into the world, or behind its ends; every world that comes of it is new memory, spare room included;
// nothing is kept of one.
func checkNeckMemory(t *testing.T, given impl.Neck, answer func(w impl.Neck) impl.Neck) {
	t.Helper()
	w := roomyNeck(given)
	was := wholeNeck(w)
	first, second := answer(w), answer(w)
	checkOwnMemory(t, first, w, second)
	checkOwnMemory(t, second)
	behind := wholeNeck(second)
	if !sameNeck(wholeNeck(first), behind) {
		t.Fatal("not answered alike", w)
	}
	spoilNeck(first)
	third := answer(w)
	if !sameNeck(wholeNeck(second), behind) || !sameNeck(wholeNeck(third), behind) || !sameNeck(wholeNeck(w), was) {
		t.Fatal("something was kept, or the world was written into", w)
	}
}

// checkDoMemory asks that of what happens, and tells whether it can be.
func checkDoMemory(t *testing.T, given impl.Neck, e impl.NeckEvent) bool {
	t.Helper()
	var could []bool
	checkNeckMemory(t, given, func(w impl.Neck) impl.Neck {
		x, done := impl.NeckDo(w, e)
		could = append(could, done)
		return x
	})
	if slices.Contains(could, !could[0]) {
		t.Fatal("not answered alike", e, given)
	}
	return could[0]
}

// Every answer is new memory, of worlds of all kinds, ok or not, and each event, also where the answer is the world as it is.
func TestWhatHappensIsNewMemory(t *testing.T) {
	t.Parallel()
	could, not := 0, 0
	wrong := neckChange(func(w *impl.Neck) { w.Servers[0].Site = 3 }).of(busyNeck())
	for _, w := range append(drawnNecks(t, 8), busyNeck(), idleNeck(), fullNeck(), impl.NeckStart(), withRadio(busyNeck(), filler(60)...), wrong) {
		for _, e := range few(eventsOf(w), 90) {
			if checkDoMemory(t, w, e) {
				could++
			} else {
				not++
			}
		}
	}
	if could < 300 || not < 200 {
		t.Error("too little happened", could, not)
	}
}

// tangledNeck has lists that share memory with each other: what versions came of, what is owed, and what clients have seen and called for.
func tangledNeck(w impl.Neck) impl.Neck {
	w.Servers, w.Radio, w.Calls = made(w.Servers, tangled), made(w.Radio, tangledWord), made(w.Calls, tangledCall)
	shared := fullDeps()
	w.Seen = [][]impl.Dep{shared, shared[:4]}
	for i := range w.Calls {
		w.Calls[i].Ctx = shared[:3]
	}
	return w
}

// The lists of one answer share none with each other, not even where those of the world do.
func TestListsOfWhatHappensAreApart(t *testing.T) {
	t.Parallel()
	could := 0
	for _, given := range append(drawnNecks(t, 12), busyNeck(), idleNeck(), impl.NeckStart()) {
		w := tangledNeck(given)
		was := wholeNeck(w)
		for _, e := range eventsOf(w) {
			x, done := impl.NeckDo(w, e)
			checkOwnMemory(t, x, w)
			want, _ := doneBy(w, e)
			if !sameNeck(x, want) || !sameNeck(wholeNeck(w), was) {
				t.Fatal(e, w, x)
			}
			if done {
				could++
			}
		}
	}
	if could < 300 {
		t.Error("too little happened", could)
	}
}

// What begins, is sent, is heard and leaves shares nothing with what it was made of: seen deps, calls, servers and the words that stay.
func TestWhatIsMadeInAWorldIsApart(t *testing.T) {
	w := idleNeck()
	x := checkDoes(t, w, begin(0, impl.CallPut, 3, 0, 0, 7))
	x = checkDoes(t, x, impl.NeckEvent{Kind: impl.NeckSends})
	ctx, sent := x.Calls[len(x.Calls)-1].Ctx, x.Radio[len(x.Radio)-2:]
	if len(ctx) == 0 || len(sent[0].Deps) != len(ctx) || len(sent[1].Deps) != len(ctx) || len(x.Seen[0]) != len(ctx) {
		t.Fatal(x)
	}
	ctx[0], sent[0].Deps[0] = dep(0, 77, 1), dep(0, 78, 1)
	if sent[1].Deps[0] != w.Seen[0][0] || x.Seen[0][0] != w.Seen[0][0] {
		t.Error(x)
	}
	y := impl.NeckStart()
	y.Servers[0].Vers = []impl.Ver{came(0, 9, 0, dep(2, 5, 1))}
	y.Servers[0].Owes = []impl.Dep{dep(0, 9, 0)}
	y = checkDoes(t, y, impl.NeckEvent{Kind: impl.NeckTends})
	y = checkDoes(t, y, impl.NeckEvent{Kind: impl.NeckBrings, Keep: 1})
	y.Radio[0].Vers[0].Deps[0] = dep(2, 4, 1)
	if y.Radio[1].Vers[0].Deps[0] != dep(2, 5, 1) || y.Servers[0].Vers[0].Deps[0] != dep(2, 5, 1) || y.Servers[2].Waits[0].Deps[0] != dep(2, 5, 1) {
		t.Error(y)
	}
}

// A script is not written into, nor behind its end; each answer is new memory, also where it is NeckStart.
func TestPlayedWorldsAreNewMemory(t *testing.T) {
	for _, n := range []int{0, 1, 50, 400, impl.NeckMaxPlay, impl.NeckMaxPlay + 1} {
		list := walked(t, 2300, n).list
		roomyList := behind(list, impl.NeckEvent{Kind: impl.NeckFalls})
		was := slices.Clone(roomyList[:cap(roomyList)])
		first, second := impl.NeckPlay(roomyList), impl.NeckPlay(roomyList)
		checkOwnMemory(t, first, second)
		checkOwnMemory(t, second)
		want := wholeNeck(second)
		spoilNeck(first)
		if !sameNeck(wholeNeck(second), want) || !sameNeck(wholeNeck(impl.NeckPlay(roomyList)), want) || !slices.Equal(roomyList[:cap(roomyList)], was) {
			t.Error(n, second)
		}
	}
}
