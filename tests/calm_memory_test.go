package tests

import (
	"slices"
	"sync"
	"testing"

	"loop.example/tombolo/impl"
)

// Every answer is new memory, of worlds of all kinds, ok or not, also where it is the world as it is: of no rounds, of fewer, and too late for any.
func TestCalmsAreNewMemory(t *testing.T) {
	t.Parallel()
	late := busyNeck()
	late.Time = impl.NeckMaxTime - 20000
	wrong := few(wrongNecks(safeNeck()), 12)
	for _, w := range slices.Concat(calmNecks(t), wrong, []impl.Neck{late, {}}) {
		for _, rounds := range []int{-3, -1, 0, 1, 2, 25, 41} {
			checkNeckMemory(t, w, func(w impl.Neck) impl.Neck { return impl.NeckCalm(w, rounds) })
		}
	}
}

// The lists of one answer share none with each other, not even where those of the world do, be there rounds or none.
func TestListsOfCalmsAreApart(t *testing.T) {
	t.Parallel()
	for _, given := range append(drawnNecks(t, 20), busyNeck(), idleNeck(), safeNeck(), restNeck(), impl.NeckStart()) {
		w := tangledNeck(given)
		was := wholeNeck(w)
		for _, rounds := range []int{-1, 0, 1, 2, 7} {
			x := checkCalm(t, w, rounds)
			checkOwnMemory(t, x, w)
			if !sameNeck(wholeNeck(w), was) {
				t.Fatalf("the world was written into %d %+v", rounds, w)
			}
		}
	}
}

// What stands behind an end is neither brought, nor told, nor counted.
func TestCalmsStopAtTheEndsOfLists(t *testing.T) {
	for _, given := range calmNecks(t) {
		w := roomyNeck(given)
		for _, rounds := range []int{0, 1, 3} {
			if x := impl.NeckCalm(w, rounds); !sameNeck(x, impl.NeckCalm(given, rounds)) {
				t.Errorf("%d %+v", rounds, x)
			}
		}
		if text := impl.NeckBoard(w); text == "" || text != impl.NeckBoard(given) {
			t.Errorf("%q", text)
		}
	}
}

// To tell of a world writes nothing into it, or behind its ends, and is told alike again; what becomes of the world later does not change what was told.
func TestBoardsLeaveTheirWorld(t *testing.T) {
	for _, given := range append(calmNecks(t), few(wrongNecks(safeNeck()), 20)...) {
		w := roomyNeck(given)
		was := wholeNeck(w)
		text := impl.NeckBoard(w)
		checkBoard(t, w)
		if impl.NeckBoard(w) != text || !sameNeck(wholeNeck(w), was) {
			t.Errorf("%+v", w)
		}
		spoilNeck(w)
		if text != impl.NeckBoard(given) {
			t.Errorf("%q", text)
		}
	}
}

// Asked by several at once, of one world, each is answered the same.
func TestCalmsAtOnce(t *testing.T) {
	for _, w := range calmNecks(t) {
		want, text := impl.NeckCalm(w, 3), impl.NeckBoard(w)
		var all sync.WaitGroup
		for range 4 {
			all.Go(func() {
				if x := impl.NeckCalm(w, 3); !sameNeck(x, want) || impl.NeckBoard(w) != text {
					t.Errorf("%+v", x)
				}
			})
		}
		all.Wait()
	}
}
