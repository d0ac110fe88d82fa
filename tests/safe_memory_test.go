package tests

import (
	"runtime"
	"slices"
	"sync"
	"testing"

	"loop.example/tombolo/impl"
)

// looksWorlds has worlds of all kinds, ok or not, safe or not.
func looksWorlds(t *testing.T) []impl.Neck {
	broken := valued(7).at(nameOf(thirdOf()), 0, 1).of(safeNeck())
	list := []impl.Neck{impl.NeckStart(), busyNeck(), idleNeck(), fullNeck(), safeNeck(), restNeck(), broken, {}, withVers(someVers(), moreVers(), moreVers(), someVers())}
	return slices.Concat(list, few(wrongNecks(safeNeck()), 20), drawnNecks(t, 10))
}

// wholeVers has all of versions, their spare room included, in memory of its own.
func wholeVers(list []impl.Ver) []impl.Ver {
	return made(list[:cap(list)], func(v impl.Ver) impl.Ver {
		v.Deps = slices.Clone(v.Deps[:cap(v.Deps)])
		return v
	})
}

// Looking writes nothing into its argument, or behind its end, and is answered alike again; each side is new memory, spare room included, its
// lists apart from each other; nothing is kept of one that is written over.
func TestLooksLeaveTheirWorld(t *testing.T) {
	for _, given := range looksWorlds(t) {
		w := roomyNeck(given)
		was := wholeNeck(w)
		checkLooks(t, w)
		for side := -1; side <= 2; side++ {
			first, second := impl.NeckSide(w, side), impl.NeckSide(w, side)
			checkOwnMemory(t, first, w, second)
			checkOwnMemory(t, second)
			want := wholeVers(second)
			if !sameVers(wholeVers(first), want) {
				t.Fatal("not answered alike", side, w)
			}
			spoilVers(first)
			if !sameVers(wholeVers(second), want) || !sameVers(wholeVers(impl.NeckSide(w, side)), want) {
				t.Fatal("something was kept", side, w)
			}
		}
		checkLooks(t, w)
		if !sameNeck(wholeNeck(w), was) {
			t.Fatal("the world was written into", given)
		}
	}
}

// What stands behind an end does not count, though it would be amiss.
func TestLooksStopAtTheEndsOfLists(t *testing.T) {
	for _, given := range []impl.Neck{safeNeck(), restNeck()} {
		w := roomyNeck(given)
		if got := checkLooks(t, w); !got.safe || !got.calls || !sameLooks(got, looksOf(given)) {
			t.Error(w)
		}
	}
}

// Lists of a world that share memory with each other do not make those of a side share any.
func TestSidesOfTangledWorlds(t *testing.T) {
	for _, given := range looksWorlds(t) {
		w := tangledNeck(given)
		was := wholeNeck(w)
		for side := range 2 {
			list := impl.NeckSide(w, side)
			checkOwnMemory(t, list, w)
			checkDepsApart(t, depsOf(list))
		}
		checkLooks(t, w)
		if !sameNeck(wholeNeck(w), was) {
			t.Error(w)
		}
	}
}

// No goroutine is left when it is answered: each does nothing more by then, and ends.
func TestNoGoroutineIsLeft(t *testing.T) {
	list := looksWorlds(t)
	before := runtime.NumGoroutine()
	for range 30 {
		for _, w := range list {
			looksOf(w)
		}
	}
	for range 100000 {
		if runtime.NumGoroutine() <= before {
			return
		}
		runtime.Gosched()
	}
	t.Error("goroutines are left", before, runtime.NumGoroutine())
}

// Asked by several at once, of one world, and again and again, the answer is the same, however the goroutines inside run.
func TestLooksAtOnce(t *testing.T) {
	for _, procs := range []int{1, 2, runtime.NumCPU()} {
		old := runtime.GOMAXPROCS(procs)
		for _, w := range looksWorlds(t) {
			want := looksBy(w)
			var all sync.WaitGroup
			for range 4 {
				all.Go(func() {
					for range 5 {
						if got := looksOf(w); !sameLooks(got, want) {
							t.Error(w, got)
						}
					}
				})
			}
			all.Wait()
		}
		runtime.GOMAXPROCS(old)
	}
}
