package tests

import (
	"fmt"
	"slices"
	"strings"
	"testing"

	"loop.example/tombolo/impl"
)

// linesBy is the lines of a board, the document's words one by one, without the program's chapter 44; none of a world that is not ok.
func linesBy(w impl.Neck) []string {
	var lines []string
	if !neckOkBy(w) {
		return nil
	}
	for _, s := range w.Servers {
		line := fmt.Sprintf("server %d %s, slots", s.Site, map[bool]string{true: "up", false: "down"}[s.Up])
		for _, slot := range s.Slots {
			line += fmt.Sprintf(" %s%d", []string{"-", "owns", "leaving"}[slot.Stand], slot.Epoch)
		}
		lines = append(lines, line+fmt.Sprintf(", waits %d, owes %d", len(s.Waits), len(s.Owes)))
		for _, v := range s.Vers {
			line := fmt.Sprintf("  %d@%d.%d=%d", v.Key, v.Stamp.Time, v.Stamp.Site, v.Val)
			for _, d := range v.Deps {
				line += fmt.Sprintf(" %d@%d.%d", d.Key, d.Stamp.Time, d.Stamp.Site)
			}
			lines = append(lines, line)
		}
	}
	for _, c := range w.Calls {
		lines = append(lines, callLineBy(c))
	}
	return append(lines, fmt.Sprintf("%d words", len(w.Radio)))
}

func callLineBy(c impl.Call) string {
	line := fmt.Sprintf("call %d.%d:", c.Client, c.Num)
	for _, key := range c.Keys {
		line += fmt.Sprintf(" %d", key)
	}
	if c.Over {
		return line + " given up"
	}
	if c.End == 0 {
		return line + " waits"
	}
	if c.Kind == 1 {
		return line + fmt.Sprintf(" put %d as %d.%d", c.Val, c.Stamp.Time, c.Stamp.Site)
	}
	line += " read"
	for _, a := range c.Got {
		if a.Yes {
			line += fmt.Sprintf(" %d of %d.%d", a.Ver.Val, a.Ver.Stamp.Time, a.Ver.Stamp.Site)
		} else {
			line += " nothing"
		}
	}
	return line
}

// checkBoard holds a board against the document's words, and tells its lines; each of them has its newline.
func checkBoard(t *testing.T, w impl.Neck) []string {
	t.Helper()
	want, text := linesBy(w), impl.NeckBoard(w)
	lines := strings.Split(text, "\n")
	if lines = lines[:len(lines)-1]; !slices.Equal(lines, want) || len(want) > 0 && !strings.HasSuffix(text, "\n") || len(want) == 0 && text != "" {
		t.Fatalf("%+v\n%q\n%q", w, text, want)
	}
	return lines
}

// checkBoardIs: the board has just these lines.
func checkBoardIs(t *testing.T, w impl.Neck, lines ...string) {
	t.Helper()
	if got := checkBoard(t, w); !slices.Equal(got, lines) {
		t.Errorf("%q\n%q", got, lines)
	}
}

// checkLine: the board has that line, at that place.
func checkLine(t *testing.T, w impl.Neck, place int, line string) {
	t.Helper()
	if got := checkBoard(t, w); place >= len(got) || got[place] != line {
		t.Errorf("%d %q %q", place, line, got)
	}
}

// The board of NeckStart: each server, and that there are no words.
func TestBoardAtFirst(t *testing.T) {
	checkBoardIs(t, impl.NeckStart(),
		"server 0 up, slots owns1 -0 owns1, waits 0, owes 0", "server 1 up, slots -0 owns1 -0, waits 0, owes 0",
		"server 2 up, slots owns1 -0 owns1, waits 0, owes 0", "server 3 up, slots -0 owns1 -0, waits 0, owes 0", "0 words")
	if text := impl.NeckBoard(impl.NeckStart()); text[:54] != "server 0 up, slots owns1 -0 owns1, waits 0, owes 0\nser" || !strings.HasSuffix(text, "owes 0\n0 words\n") {
		t.Errorf("%q", text)
	}
}

// The whole board of a world with something in each part: a server that is down, slots that are leaving, what waits and is owed, versions that came of
// others, calls that were given up, that wait, puts and reads, one of them of a key that there was nothing of.
func TestBoardOfAWorld(t *testing.T) {
	checkBoardIs(t, safeNeck(),
		"server 0 up, slots owns1 -0 leaving2, waits 0, owes 0",
		"  0@1.0=1",
		"  0@4.0=4 0@1.0 2@2.1 4@3.2",
		"  4@3.2=101",
		"server 1 up, slots -0 owns1 owns2, waits 2, owes 1",
		"  2@2.1=2 0@1.0",
		"  2@5.1=5 0@4.0 2@2.1 4@3.2",
		"  4@3.2=101",
		"server 2 up, slots owns1 leaving3 owns5, waits 1, owes 1",
		"  0@1.0=1",
		"  2@2.1=2 0@1.0",
		"  4@3.2=101",
		"  5@6.2=103 0@1.0 2@2.1 4@3.2",
		"server 3 down, slots -0 leaving4 -3, waits 0, owes 1",
		"  2@2.1=2 0@1.0",
		"  3@7.3=104 0@1.0 2@2.1 4@3.2 5@6.2",
		"call 0.1: 0 put 1 as 1.0",
		"call 1.1: 4 put 101 as 3.2",
		"call 0.2: 2 put 2 as 2.1",
		"call 1.2: 0 2 read 1 of 1.0 2 of 2.1",
		"call 0.3: 2 4 read 2 of 2.1 101 of 3.2",
		"call 0.4: 0 put 4 as 4.0",
		"call 1.3: 5 put 103 as 6.2",
		"call 0.5: 2 given up",
		"call 1.4: 3 put 104 as 7.3",
		"call 0.6: 0 1 2 read 4 of 4.0 nothing 5 of 5.1",
		"call 1.5: 3 4 5 waits",
		"3 words")
}

// Each server up and down, each of its slots as it may stand, by the least and the greatest number.
func TestServersOnTheBoard(t *testing.T) {
	for site := range impl.Sites {
		for _, up := range []bool{true, false} {
			for slot := range impl.VerSlots {
				for _, c := range []struct {
					slot impl.Slot
					text string
				}{
					{impl.Slot{}, "-0"}, {impl.Slot{Epoch: 1}, "-1"}, {impl.Slot{Epoch: 9999}, "-9999"}, {impl.Slot{Epoch: 1, Stand: 1}, "owns1"}, {impl.Slot{Epoch: 10, Stand: 1}, "owns10"},
					{impl.Slot{Epoch: 9999, Stand: 1}, "owns9999"}, {impl.Slot{Epoch: 1, Stand: 2}, "leaving1"}, {impl.Slot{Epoch: 2, Stand: 2}, "leaving2"}, {impl.Slot{Epoch: 9999, Stand: 2}, "leaving9999"},
				} {
					w, texts := impl.NeckStart(), []string{"-0", "-0", "-0"}
					w.Servers[site].Up, w.Servers[site].Slots = up, make([]impl.Slot, 3)
					w.Servers[site].Slots[slot], texts[slot] = c.slot, c.text
					stands := map[bool]string{true: "up", false: "down"}[up]
					checkLine(t, w, site, fmt.Sprintf("server %d %s, slots %s, waits 0, owes 0", site, stands, strings.Join(texts, " ")))
				}
			}
		}
	}
}

// How many wait, and how many debts there are, is told in numbers, up to ChainMax; what is known is not told.
func TestWhatWaitsOnTheBoard(t *testing.T) {
	for _, n := range []int{0, 1, 2, 9, 10, 79, 80} {
		w := impl.NeckStart()
		var vers, waits []impl.Ver
		var owes []impl.Dep
		for i := range n {
			vers, waits, owes = append(vers, came(0, i+1, 0)), append(waits, came(0, i+1, 2)), append(owes, dep(0, i+1, 0))
		}
		w.Servers[0].Vers, w.Servers[0].Waits, w.Servers[0].Owes, w.Servers[0].Knows = vers, waits, owes, someDebts()
		checkLine(t, w, 0, fmt.Sprintf("server 0 up, slots owns1 -0 owns1, waits %d, owes %d", n, n))
		w.Servers[0].Waits = nil
		checkLine(t, w, 0, fmt.Sprintf("server 0 up, slots owns1 -0 owns1, waits 0, owes %d", n))
		w.Servers[0].Waits, w.Servers[0].Owes = waits, nil
		checkLine(t, w, 0, fmt.Sprintf("server 0 up, slots owns1 -0 owns1, waits %d, owes 0", n))
		if n > 0 {
			checkLine(t, w, n, fmt.Sprintf("  0@%d.0=%d", n, vers[n-1].Val))
		}
	}
}

// A version is told with all that it came of, and without, and by the least and the greatest numbers.
func TestVersionsOnTheBoard(t *testing.T) {
	last := impl.Ver{Key: 5, Stamp: impl.Stamp{Time: 9999, Site: 3}, Val: 9999, Client: 1, Call: 99}
	least := impl.Ver{Stamp: impl.Stamp{Time: 1}, Call: 1}
	full, some := last, last
	full.Deps, some.Deps = fullDeps(), []impl.Dep{dep(5, 9998, 3)}
	for _, c := range []struct {
		ver  impl.Ver
		line string
	}{
		{last, "  5@9999.3=9999"}, {least, "  0@1.0=0"}, {some, "  5@9999.3=9999 5@9998.3"}, {wrote(dep(3, 7, 1), 1, 4, dep(0, 4, 2), dep(3, 6, 0)), "  3@7.1=104 0@4.2 3@6.0"},
		{full, "  5@9999.3=9999" + namesOf(full.Deps)},
	} {
		for site := range impl.Sites {
			lists := make([][]impl.Ver, impl.Sites)
			lists[site] = []impl.Ver{c.ver}
			checkLine(t, withVers(lists...), site+1, c.line)
		}
	}
	if namesOf(full.Deps) == "" || len(full.Deps) != impl.VerKeys {
		t.Error(full)
	}
}

// namesOf is each dep with a space ahead.
func namesOf(deps []impl.Dep) string {
	text := ""
	for _, d := range deps {
		text += fmt.Sprint(" ", d.Key, "@", d.Stamp.Time, ".", d.Stamp.Site)
	}
	return text
}

// Calls in all ways: given up, though something was answered; waiting, though something was answered, or is needed; puts and reads that have ended.
func TestCallsOnTheBoard(t *testing.T) {
	val := func(key int, time int, site int, val int) impl.Answer {
		return impl.Answer{Key: key, Yes: true, Ver: impl.Ver{Key: key, Stamp: impl.Stamp{Time: time, Site: site}, Val: val, Client: 1, Call: 9, Deps: []impl.Dep{dep(1, time-1, 1)}}}
	}
	put, read := impl.Call{Num: 1, Kind: impl.CallPut, Keys: []int{4}, Val: 6, Begin: 1}, impl.Call{Client: 1, Num: 1, Kind: impl.CallRead, Keys: []int{1, 3, 5}, Begin: 1}
	one := impl.Call{Num: 1, Kind: impl.CallRead, Keys: []int{5}, Begin: 1}
	late := put
	late.Val, late.Stamp, late.End = 9999, impl.Stamp{Time: 9999, Site: 3}, 7
	none1 := put
	none1.Keys, none1.Val, none1.Stamp, none1.End = []int{0}, 0, impl.Stamp{Time: 1}, 2
	for _, c := range []struct {
		call impl.Call
		line string
	}{
		{put, "call 0.1: 4 waits"}, {over(put), "call 0.1: 4 given up"}, {late, "call 0.1: 4 put 9999 as 9999.3"}, {none1, "call 0.1: 0 put 0 as 1.0"},
		{read, "call 1.1: 1 3 5 waits"}, {over(read), "call 1.1: 1 3 5 given up"}, {with(read, val(3, 9, 2, 8)), "call 1.1: 1 3 5 waits"},
		{over(with(read, val(3, 9, 2, 8), none(5))), "call 1.1: 1 3 5 given up"}, {needs(with(read, none(1), val(3, 9, 2, 8), none(5)), dep(1, 8, 1)), "call 1.1: 1 3 5 waits"},
		{over(needs(with(read, none(1), val(3, 9, 2, 8), none(5)), dep(1, 8, 1))), "call 1.1: 1 3 5 given up"},
		{ended(with(read, none(1), none(3), none(5)), 3), "call 1.1: 1 3 5 read nothing nothing nothing"},
		{ended(with(read, val(1, 10, 3, 0), none(3), val(5, 9999, 0, 9999)), 3), "call 1.1: 1 3 5 read 0 of 10.3 nothing 9999 of 9999.0"},
		{ended(with(read, val(1, 5, 1, 4), val(3, 6, 2, 5), val(5, 7, 3, 6)), 3), "call 1.1: 1 3 5 read 4 of 5.1 5 of 6.2 6 of 7.3"},
		{one, "call 0.1: 5 waits"}, {ended(with(one, none(5)), 9), "call 0.1: 5 read nothing"}, {ended(with(one, val(5, 12, 1, 34)), 9), "call 0.1: 5 read 34 of 12.1"},
	} {
		w := impl.NeckStart()
		w.Time, w.Calls = 9, []impl.Call{c.call}
		checkNeck(t, w, true)
		checkLine(t, w, impl.Sites, c.line)
	}
}

// A put that has ended is told so, be it read behind, be it given up what came behind, or not; each client's calls by their own numbers, up to the last.
func TestManyCallsOnTheBoard(t *testing.T) {
	w := fullNeck()
	lines := checkBoard(t, w)
	if calls := lines[len(lines)-21 : len(lines)-1]; calls[0] != "call 0.1: 1 given up" || calls[1] != "call 1.1: 1 given up" || calls[18] != "call 0.10: 1 3 given up" || calls[19] != "call 1.10: 1 3 given up" {
		t.Errorf("%q", lines)
	}
	x := impl.NeckCalm(impl.NeckPlay([]impl.NeckEvent{begin(0, impl.CallPut, 0, 0, 0, 5)}), 2)
	checkLine(t, x, 6, "call 0.1: 0 put 5 as 1.0")
	x = impl.NeckCalm(letDo(t, x, begin(0, impl.CallRead, 0, 0, 0, 0)), 2)
	checkLine(t, x, 6, "call 0.1: 0 put 5 as 1.0")
	checkLine(t, x, 7, "call 0.2: 0 read 5 of 1.0")
}

// How many words there are, up to NeckMaxRadio; one is told as all others are.
func TestWordsOnTheBoard(t *testing.T) {
	for _, n := range []int{0, 1, 2, 9, 10, 59, 60} {
		checkLine(t, withRadio(impl.NeckStart(), filler(n)...), impl.Sites, fmt.Sprintf("%d words", n))
	}
	checkBoardIs(t, withRadio(impl.NeckStart(), filler(61)...))
}

// Of a world that is not ok there is no board, whichever part is wrong.
func TestBoardsOfWrongWorlds(t *testing.T) {
	for _, w := range wrongWorlds() {
		checkBoardIs(t, w)
	}
	for _, w := range wrongParts() {
		checkBoard(t, w)
	}
}

// readVer reads a version's line.
func readVer(t *testing.T, line string) impl.Ver {
	t.Helper()
	v := impl.Ver{}
	fields := strings.Fields(line)
	if n, err := fmt.Sscanf(fields[0], "%d@%d.%d=%d", &v.Key, &v.Stamp.Time, &v.Stamp.Site, &v.Val); n != 4 || err != nil {
		t.Fatalf("%q", line)
	}
	for _, field := range fields[1:] {
		d := impl.Dep{}
		if n, err := fmt.Sscanf(field, "%d@%d.%d", &d.Key, &d.Stamp.Time, &d.Stamp.Site); n != 3 || err != nil {
			t.Fatalf("%q", line)
		}
		v.Deps = append(v.Deps, d)
	}
	return v
}

// checkToldInLines, promise 106: each server, each version that can be seen there, and each call is told in a line of the board, behind each other; what is
// read there is what is there; and there is no line but these, and the one that tells how many words there are.
func checkToldInLines(t *testing.T, w impl.Neck) int {
	t.Helper()
	lines := checkBoard(t, w)
	next := func(start string) string {
		if len(lines) == 0 || !strings.HasPrefix(lines[0], start) {
			t.Fatalf("promise 106: %q\n%q\n%+v", start, lines, w)
		}
		line := lines[0]
		lines = lines[1:]
		return line
	}
	vers := 0
	for _, s := range w.Servers {
		if line := next(fmt.Sprintf("server %d ", s.Site)); strings.Contains(line, "down") == s.Up || strings.Count(line, "leaving") != len(slotsThat(s, impl.StandLeaving)) {
			t.Fatalf("promise 106: %q %+v", line, s)
		}
		for _, v := range s.Vers {
			vers++
			got := readVer(t, next("  "))
			got.Client, got.Call = v.Client, v.Call
			if !sameVer(got, v) {
				t.Fatalf("promise 106: %+v %+v", got, v)
			}
		}
	}
	for _, c := range w.Calls {
		next(fmt.Sprintf("call %d.%d: %d", c.Client, c.Num, c.Keys[0]))
	}
	next(fmt.Sprint(len(w.Radio)))
	if len(lines) > 0 {
		t.Fatalf("promise 106: %q", lines)
	}
	return vers
}

// slotsThat is those of a server's slots that stand so.
func slotsThat(s impl.Server, stand int) []impl.Slot {
	return slices.DeleteFunc(slices.Clone(s.Slots), func(slot impl.Slot) bool { return slot.Stand != stand })
}

// Promise 106, of worlds of all kinds, of such as drawn events have led to, and of the calms that come of them.
func TestAllIsOnTheBoard(t *testing.T) {
	t.Parallel()
	vers := 0
	for _, w := range append(drawnNecks(t, 60), safeNeck(), restNeck(), busyNeck(), idleNeck(), fullNeck(), impl.NeckStart()) {
		vers += checkToldInLines(t, w)
		vers += checkToldInLines(t, impl.NeckCalm(w, 3))
	}
	if vers < 1000 {
		t.Error("too little happened", vers)
	}
	for _, w := range someNecks() {
		checkToldInLines(t, w)
	}
}
