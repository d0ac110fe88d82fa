package tests

import (
	"math"
	"slices"
	"testing"

	"loop.example/tombolo/impl"
)

// anyStamps has ok stamps, those at their edges, and such as are not ok, up to the ends of int.
func anyStamps() []impl.Stamp {
	times := []int{math.MinInt, -1, 0, 1, 2, 3, impl.StampMax - 1, impl.StampMax, impl.StampMax + 1, math.MaxInt}
	sites := []int{math.MinInt, -4, -1, 0, 1, 2, 3, impl.Sites, 7, math.MaxInt}
	var list []impl.Stamp
	for _, t := range times {
		for _, s := range sites {
			list = append(list, impl.Stamp{Time: t, Site: s})
		}
	}
	return list
}

// okStamps has all sites at times near both ends, and in the midst.
func okStamps() []impl.Stamp {
	var list []impl.Stamp
	for _, t := range []int{1, 2, 3, 4999, 5000, impl.StampMax - 1, impl.StampMax} {
		for s := range impl.Sites {
			list = append(list, impl.Stamp{Time: t, Site: s})
		}
	}
	return list
}

func TestStampLimits(t *testing.T) {
	if impl.StampMax != 9999 || impl.Sites != 4 {
		t.Error(impl.StampMax, impl.Sites)
	}
}

func TestStampOk(t *testing.T) {
	for _, c := range []struct {
		time, site int
		want       bool
	}{
		{1, 0, true}, {1, 3, true}, {9999, 0, true}, {9999, 3, true}, {17, 2, true},
		{0, 0, false}, {0, 3, false}, {-1, 0, false}, {10000, 0, false},
		{1, -1, false}, {1, 4, false}, {9999, 4, false}, {9999, -1, false},
		{math.MinInt, 0, false}, {math.MaxInt, 0, false}, {1, math.MinInt, false}, {1, math.MaxInt, false},
		{0, 4, false}, {2, -4, false},
	} {
		if got := impl.StampOk(impl.Stamp{Time: c.time, Site: c.site}); got != c.want {
			t.Error(c, got)
		}
	}
}

func TestStampLessTells(t *testing.T) {
	for _, c := range []struct {
		a, b impl.Stamp
		want bool
	}{
		{impl.Stamp{Time: 3, Site: 1}, impl.Stamp{Time: 3, Site: 2}, true},
		{impl.Stamp{Time: 3, Site: 2}, impl.Stamp{Time: 3, Site: 1}, false},
		{impl.Stamp{Time: 3, Site: 2}, impl.Stamp{Time: 3, Site: 2}, false},
		{impl.Stamp{Time: 3, Site: 3}, impl.Stamp{Time: 4, Site: 0}, true},
		{impl.Stamp{Time: 4, Site: 0}, impl.Stamp{Time: 3, Site: 3}, false},
		{impl.Stamp{Time: 9, Site: 0}, impl.Stamp{Time: 10, Site: 0}, true},
		{impl.Stamp{Time: 1, Site: 0}, impl.Stamp{Time: impl.StampMax, Site: 3}, true},
		{impl.Stamp{}, impl.Stamp{Time: 1}, true},
		// Not ok, and yet in order: what one number would take for alike, or turn round.
		{impl.Stamp{Time: 3, Site: 4}, impl.Stamp{Time: 4, Site: 0}, true},
		{impl.Stamp{Time: 3, Site: 7}, impl.Stamp{Time: 4, Site: 0}, true},
		{impl.Stamp{Time: 4, Site: -4}, impl.Stamp{Time: 3, Site: 0}, false},
		{impl.Stamp{Time: math.MinInt, Site: 0}, impl.Stamp{Time: math.MaxInt, Site: 0}, true},
		{impl.Stamp{Time: 1, Site: math.MinInt}, impl.Stamp{Time: 1, Site: math.MaxInt}, true},
		{impl.Stamp{Time: 1, Site: math.MaxInt}, impl.Stamp{Time: 1, Site: math.MinInt}, false},
	} {
		if got := impl.StampLess(c.a, c.b); got != c.want {
			t.Error(c.a, c.b, got)
		}
	}
}

// Promise 1.
func TestOfTwoStampsOneIsAhead(t *testing.T) {
	for _, a := range anyStamps() {
		for _, b := range anyStamps() {
			less, more := impl.StampLess(a, b), impl.StampLess(b, a)
			if a == b && (less || more) || a != b && less == more {
				t.Error(a, b, less, more)
			}
		}
	}
}

// Promise 2.
func TestAheadOfAheadIsAhead(t *testing.T) {
	list := anyStamps()
	for _, a := range list {
		for _, b := range list {
			if !impl.StampLess(a, b) {
				continue
			}
			for _, c := range list {
				if impl.StampLess(b, c) && !impl.StampLess(a, c) {
					t.Fatal(a, b, c)
				}
			}
		}
	}
}

// Promise 3.
func TestNextIsBehindAll(t *testing.T) {
	for site := range impl.Sites {
		for _, a := range okStamps() {
			for _, b := range okStamps() {
				checkNextBehind(t, site, []impl.Stamp{a, b})
			}
		}
	}
}

func checkNextBehind(t *testing.T, site int, list []impl.Stamp) {
	t.Helper()
	next, ok := impl.StampNext(site, list)
	full := slices.ContainsFunc(list, func(s impl.Stamp) bool { return s.Time == impl.StampMax })
	if ok == full {
		t.Error(site, list, next, ok)
	}
	if !ok {
		if next != (impl.Stamp{}) {
			t.Error(site, list, next)
		}
		return
	}
	if next.Site != site || !impl.StampOk(next) {
		t.Error(site, list, next)
	}
	for _, s := range list {
		if !impl.StampLess(s, next) {
			t.Error(site, list, next)
		}
	}
	for _, s := range okStamps() {
		more, ok := impl.StampNext(site, append(slices.Clone(list), s))
		if ok && impl.StampLess(more, next) {
			t.Error(site, list, s, more, next)
		}
	}
}

// Promise 4.
func TestSides(t *testing.T) {
	count := map[int]int{}
	for site, want := range []int{0, 0, 1, 1} {
		side := impl.SiteSide(site)
		if side != want {
			t.Error(site, side)
		}
		count[side]++
	}
	if len(count) != 2 || count[0] != 2 || count[1] != 2 {
		t.Error(count)
	}
	for _, site := range []int{math.MinInt, -2, -1, 4, 5, 6, math.MaxInt} {
		if side := impl.SiteSide(site); side != -1 {
			t.Error(site, side)
		}
	}
}

// Promise 5.
func TestNextIsOneLater(t *testing.T) {
	for _, c := range []struct {
		site int
		list []impl.Stamp
		want impl.Stamp
	}{
		{0, nil, impl.Stamp{Time: 1, Site: 0}},
		{3, []impl.Stamp{}, impl.Stamp{Time: 1, Site: 3}},
		{0, []impl.Stamp{{Time: 1, Site: 3}}, impl.Stamp{Time: 2, Site: 0}},
		{3, []impl.Stamp{{Time: 1, Site: 0}}, impl.Stamp{Time: 2, Site: 3}},
		// Two of one time: one later than both, whichever stands first, also for a site that is behind both.
		{1, []impl.Stamp{{Time: 3, Site: 1}, {Time: 3, Site: 2}}, impl.Stamp{Time: 4, Site: 1}},
		{3, []impl.Stamp{{Time: 3, Site: 2}, {Time: 3, Site: 1}}, impl.Stamp{Time: 4, Site: 3}},
		{2, []impl.Stamp{{Time: 3, Site: 2}, {Time: 3, Site: 2}}, impl.Stamp{Time: 4, Site: 2}},
		{2, []impl.Stamp{{Time: 7, Site: 0}, {Time: 5, Site: 3}, {Time: 6, Site: 1}}, impl.Stamp{Time: 8, Site: 2}},
		{0, []impl.Stamp{{Time: 5, Site: 3}, {Time: 7, Site: 0}, {Time: 6, Site: 1}}, impl.Stamp{Time: 8, Site: 0}},
		{1, []impl.Stamp{{Time: 5, Site: 3}, {Time: 6, Site: 1}, {Time: 7, Site: 0}}, impl.Stamp{Time: 8, Site: 1}},
		{0, []impl.Stamp{{Time: impl.StampMax - 1, Site: 3}}, impl.Stamp{Time: impl.StampMax, Site: 0}},
		{3, []impl.Stamp{{Time: impl.StampMax - 1, Site: 0}, {Time: 1, Site: 3}}, impl.Stamp{Time: impl.StampMax, Site: 3}},
	} {
		if got, ok := impl.StampNext(c.site, c.list); !ok || got != c.want {
			t.Error(c.site, c.list, got, ok)
		}
	}
}

func TestNextRefuses(t *testing.T) {
	good := impl.Stamp{Time: 3, Site: 1}
	for site := range impl.Sites {
		checkNoNext(t, site, []impl.Stamp{{Time: impl.StampMax, Site: 0}})
		checkNoNext(t, site, []impl.Stamp{good, {Time: impl.StampMax, Site: 3}})
		checkNoNext(t, site, []impl.Stamp{{Time: impl.StampMax, Site: 3}, good})
		for _, bad := range anyStamps() {
			if impl.StampOk(bad) {
				continue
			}
			checkNoNext(t, site, []impl.Stamp{bad})
			checkNoNext(t, site, []impl.Stamp{bad, good})
			checkNoNext(t, site, []impl.Stamp{good, bad})
			checkNoNext(t, site, []impl.Stamp{good, bad, good})
		}
	}
	for _, site := range []int{math.MinInt, -1, impl.Sites, 7, math.MaxInt} {
		checkNoNext(t, site, nil)
		checkNoNext(t, site, []impl.Stamp{good})
	}
}

func checkNoNext(t *testing.T, site int, list []impl.Stamp) {
	t.Helper()
	if got, ok := impl.StampNext(site, list); ok || got != (impl.Stamp{}) {
		t.Error(site, list, got, ok)
	}
}

func TestNextLeavesItsList(t *testing.T) {
	room := []impl.Stamp{{Time: 5, Site: 3}, {Time: 2, Site: 0}, {Time: 9, Site: 1}, {Time: 8, Site: 2}}
	was := slices.Clone(room)
	first, ok := impl.StampNext(0, room[:2])
	again, okAgain := impl.StampNext(0, room[:2])
	if !slices.Equal(room, was) || !ok || !okAgain || first != again || first != (impl.Stamp{Time: 6, Site: 0}) {
		t.Error(room, first, again)
	}
}
