package tests

import (
	"slices"
	"testing"

	"loop.example/tombolo/impl"
)

func sameNeck(a impl.Neck, b impl.Neck) bool {
	return a.Time == b.Time && slices.EqualFunc(a.Servers, b.Servers, sameServer) && sameWords(a.Radio, b.Radio) &&
		slices.EqualFunc(a.Calls, b.Calls, sameCall) && slices.EqualFunc(a.Seen, b.Seen, slices.Equal[[]impl.Dep])
}

// made is a list of what is made of each.
func made[E any](list []E, of func(e E) E) []E {
	var all []E
	for _, e := range list {
		all = append(all, of(e))
	}
	return all
}

// behind is the list with spare room, in which marks stand.
func behind[E any](list []E, mark E) []E {
	return append(slices.Clone(list), mark, mark, mark)[:len(list)]
}

// roomyNeck has spare room behind each list, in which marks stand.
func roomyNeck(w impl.Neck) impl.Neck {
	w.Servers = behind(made(w.Servers, roomyServer), impl.Server{Site: 77})
	w.Radio = behind(made(w.Radio, roomyWord), impl.Word{Kind: 77})
	w.Calls = behind(made(w.Calls, roomyCall), impl.Call{Client: 77})
	w.Seen = behind(made(w.Seen, roomy), roomy(nil))
	return w
}

// wholeNeck has all of a world, the spare room of its lists included, in memory of its own.
func wholeNeck(w impl.Neck) impl.Neck {
	w.Servers, w.Radio = made(w.Servers[:cap(w.Servers)], wholeServer), made(w.Radio[:cap(w.Radio)], wholeWord)
	w.Calls = made(w.Calls[:cap(w.Calls)], wholeCall)
	w.Seen = made(w.Seen[:cap(w.Seen)], func(deps []impl.Dep) []impl.Dep { return slices.Clone(deps[:cap(deps)]) })
	return w
}

// spoilAll writes all over a list, its spare room included, and all over what lies in it.
func spoilAll[E any](list []E, spoil func(e E), mark E) {
	for i, e := range list[:cap(list)] {
		spoil(e)
		list[:cap(list)][i] = mark
	}
}

func spoilNeck(w impl.Neck) {
	spoilAll(w.Servers, spoilServer, impl.Server{Site: 88})
	spoilAll(w.Radio, spoilWord, impl.Word{Kind: 88})
	spoilAll(w.Calls, spoilCall, impl.Call{Client: 88})
	spoilAll(w.Seen, spoil, []impl.Dep{dep(88, 88, 88)})
}

// Every field of a world at its start: of each site the server at first, nothing seen by each client, and all else nothing.
func TestNeckStart(t *testing.T) {
	w := impl.NeckStart()
	owned, none := impl.Slot{Epoch: 1, Stand: impl.StandOwns}, impl.Slot{}
	even, odd := []impl.Slot{owned, none, owned}, []impl.Slot{none, owned, none}
	want := impl.Neck{
		Servers: []impl.Server{{Site: 0, Up: true, Slots: even}, {Site: 1, Up: true, Slots: odd}, {Site: 2, Up: true, Slots: even}, {Site: 3, Up: true, Slots: odd}},
		Seen:    [][]impl.Dep{nil, nil},
	}
	if !sameNeck(w, want) || !impl.NeckOk(w) {
		t.Error(w)
	}
	for site, s := range w.Servers {
		if !sameServer(s, impl.ServerStart(site)) {
			t.Error(site, s)
		}
	}
	if w.Time != 0 || len(w.Radio) != 0 || len(w.Calls) != 0 || len(w.Seen) != impl.VerClients || len(w.Seen[0])+len(w.Seen[1]) != 0 {
		t.Error(w)
	}
}

// Two answers share no memory with each other, spare room included; nothing is kept of one that is written over.
func TestStartsAreNewMemory(t *testing.T) {
	first, second := impl.NeckStart(), impl.NeckStart()
	want := wholeNeck(second)
	if !sameNeck(wholeNeck(first), want) {
		t.Error(first, second)
	}
	spoilNeck(first)
	if !sameNeck(wholeNeck(second), want) || !sameNeck(wholeNeck(impl.NeckStart()), want) {
		t.Error(second, impl.NeckStart())
	}
	first = impl.NeckStart()
	for i := range first.Seen {
		first.Seen[i] = append(first.Seen[i], dep(1, 1, 1))
	}
	first.Radio, first.Calls = append(first.Radio, okWord()), append(first.Calls, callOf(0, 1, 1))
	first.Servers = append(first.Servers, impl.Server{Site: 88})
	if !sameNeck(wholeNeck(second), want) || !sameNeck(wholeNeck(impl.NeckStart()), want) {
		t.Error(second, impl.NeckStart())
	}
}

// The lists of one answer share none with each other: each server has slots of its own.
func TestListsOfAStartAreApart(t *testing.T) {
	w := impl.NeckStart()
	for site, s := range w.Servers {
		all := s.Slots[:cap(s.Slots)]
		for i := range all {
			all[i].Epoch = 100 + site
		}
	}
	for site, s := range w.Servers {
		if slices.ContainsFunc(s.Slots[:cap(s.Slots)], func(slot impl.Slot) bool { return slot.Epoch != 100+site }) {
			t.Error(site, s)
		}
		checkApart(t, told{server: s})
	}
	var deps [][]impl.Dep
	for _, s := range w.Servers {
		deps = append(deps, s.Owes, s.Knows)
	}
	checkDepsApart(t, append(deps, w.Seen[:cap(w.Seen)]...))
}

// Asking writes nothing into its argument, or behind its end, and is answered alike again; what stands behind an end does not count.
func TestAskingLeavesItsWorld(t *testing.T) {
	wrong := neckChange(func(w *impl.Neck) { w.Calls[0], w.Calls[1] = w.Calls[1], w.Calls[0] }).of(busyNeck())
	for _, given := range append(someNecks(), wrong, impl.Neck{}) {
		w, want := roomyNeck(given), neckOkBy(given)
		was := wholeNeck(w)
		for range 2 {
			checkNeck(t, w, want)
		}
		if !sameNeck(wholeNeck(w), was) {
			t.Error(w)
		}
		for _, change := range []neckChange{
			func(w *impl.Neck) { w.Servers = w.Servers[:len(w.Servers)+1] }, func(w *impl.Neck) { w.Radio = w.Radio[:len(w.Radio)+1] },
			func(w *impl.Neck) { w.Calls = w.Calls[:len(w.Calls)+1] }, func(w *impl.Neck) { w.Seen = w.Seen[:len(w.Seen)+1] },
		} {
			more := w
			change(&more)
			checkNeck(t, more, false)
		}
	}
}

// Lists that share memory with each other are as good as others.
func TestWorldsWhoseListsShare(t *testing.T) {
	w := busyNeck()
	w.Servers = made(w.Servers, tangled)
	w.Radio, w.Calls = made(w.Radio, tangledWord), made(w.Calls, tangledCall)
	shared := fullDeps()
	w.Seen = [][]impl.Dep{shared, shared[:3]}
	was := wholeNeck(w)
	checkNeck(t, w, true)
	if !sameNeck(wholeNeck(w), was) {
		t.Error(w)
	}
}
