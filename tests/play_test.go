package tests

import (
	"slices"
	"testing"

	"loop.example/tombolo/impl"
)

// playedOn lets the rest happen to a world, one behind the other.
func playedOn(w impl.Neck, rest []impl.NeckEvent) impl.Neck {
	for _, e := range rest {
		w, _ = impl.NeckDo(w, e)
	}
	return w
}

// checkPlayed, promise 69: wherever a script is cut, NeckPlay of its first part, and then NeckDo of the rest, is NeckPlay of all.
func checkPlayed(t *testing.T, list []impl.NeckEvent, cuts ...int) impl.Neck {
	t.Helper()
	whole := impl.NeckPlay(list)
	if !neckOkBy(whole) {
		t.Fatal("it is not ok", whole)
	}
	for _, cut := range cuts {
		if x := playedOn(impl.NeckPlay(list[:cut]), list[cut:]); !sameNeck(x, whole) {
			t.Fatal("it does not go on where it ended", cut, len(list), x, whole)
		}
	}
	return whole
}

// Promise 69, of drawn events, many of which cannot be: cut at several places, it is what they led to.
func TestScriptsGoOn(t *testing.T) {
	t.Parallel()
	for number := range 16 {
		d := walked(t, 2000+number, 300+100*(number%8))
		n := len(d.list)
		if x := checkPlayed(t, d.list, 0, 1, d.below(n), d.below(n), n-1, n); !sameNeck(x, d.now) {
			t.Error(number, x, d.now)
		}
	}
}

// Promise 69, of one script cut at each place.
func TestScriptsThatAreCutAnywhere(t *testing.T) {
	t.Parallel()
	list := walked(t, 2100, 250).list
	cuts := make([]int, len(list)+1)
	for n := range cuts {
		cuts[n] = n
	}
	checkPlayed(t, list, cuts...)
}

// Of none, and of events that cannot be, nothing has happened, whatever they are.
func TestScriptsOfNothing(t *testing.T) {
	start := impl.NeckStart()
	impossible := []impl.NeckEvent{
		{}, {Kind: -1}, {Kind: 10}, {Kind: impl.NeckSends}, {Kind: impl.NeckGives, Client: 1}, {Kind: impl.NeckBrings}, {Kind: impl.NeckLoses}, {Kind: impl.NeckFalls, At: 4},
		{Kind: impl.NeckRises}, {Kind: impl.NeckTends, At: -1}, {Kind: impl.NeckMoves, Slot: 1}, begin(2, impl.CallPut, 0, 0, 0, 0), begin(0, 3, 0, 0, 0, 0), begin(0, impl.CallPut, 6, 0, 0, 0),
	}
	for _, list := range [][]impl.NeckEvent{nil, {}, impossible, slices.Repeat(impossible, 100)} {
		if x := impl.NeckPlay(list); !sameNeck(x, start) {
			t.Error(list, x)
		}
	}
	for _, e := range impossible {
		if x := impl.NeckPlay([]impl.NeckEvent{e}); !sameNeck(x, start) {
			t.Error(e, x)
		}
	}
}

// What cannot be is left out, and the time goes on by those that can.
func TestScriptsWithWhatCannotBe(t *testing.T) {
	falls, rises := impl.NeckEvent{Kind: impl.NeckFalls, At: 3}, impl.NeckEvent{Kind: impl.NeckRises, At: 3}
	for _, c := range []struct {
		list []impl.NeckEvent
		time int
		up   bool
	}{
		{[]impl.NeckEvent{rises}, 0, true}, {[]impl.NeckEvent{falls}, 1, false}, {[]impl.NeckEvent{falls, falls}, 1, false}, {[]impl.NeckEvent{rises, falls, falls, rises, rises}, 2, true},
		{[]impl.NeckEvent{falls, {Kind: impl.NeckTends, At: 3}, {Kind: 77}, rises, {Kind: impl.NeckTends, At: 3}}, 3, true},
	} {
		x := impl.NeckPlay(c.list)
		if x.Time != c.time || x.Servers[3].Up != c.up {
			t.Error(c.list, x)
		}
	}
}

// NeckMaxPlay events are played, one more is not, be they such as can be or such as cannot.
func TestScriptsAtTheirLimit(t *testing.T) {
	both := []impl.NeckEvent{{Kind: impl.NeckFalls, At: 1}, {Kind: impl.NeckRises, At: 1}}
	for _, n := range []int{1998, 1999, 2000, 2001, 2002, 5000} {
		want := n
		if n > impl.NeckMaxPlay {
			want = 0
		}
		if x := impl.NeckPlay(slices.Repeat(both, n)[:n]); x.Time != want || x.Servers[1].Up != (want%2 == 0) || want == 0 && !sameNeck(x, impl.NeckStart()) {
			t.Error(n, x)
		}
		list := make([]impl.NeckEvent, n)
		list[0], list[n-1] = both[0], both[1]
		if x := impl.NeckPlay(list); x.Time != min(want, 2) {
			t.Error(n, x)
		}
	}
	long := walked(t, 2200, impl.NeckMaxPlay)
	if x := checkPlayed(t, long.list, 1000, 1999); !sameNeck(x, long.now) || x.Time < 1000 {
		t.Error(x)
	}
	if x := impl.NeckPlay(append(long.list, impl.NeckEvent{Kind: impl.NeckTends})); !sameNeck(x, impl.NeckStart()) {
		t.Error(x)
	}
}
