package tests

import (
	"math"
	"slices"
	"testing"

	"loop.example/tombolo/impl"
)

// calledNeck is a world at its start, but for its time and its calls.
func calledNeck(time int, calls ...impl.Call) impl.Neck {
	w := impl.NeckStart()
	w.Time, w.Calls = time, calls
	return w
}

// Calls as many as may be, and one more, be they of both clients in turn or of one alone.
func TestCallsOfWorldsAreFew(t *testing.T) {
	for _, n := range []int{0, 1, 19, 20, 21, 22} {
		checkNeck(t, calledNeck(99, manyCalls(n)...), n <= impl.NeckMaxCalls)
		for client := range impl.VerClients {
			var list []impl.Call
			for num := 1; num <= n; num++ {
				list = append(list, endedAt(callOf(client, num, 3*num), 3*num+2))
			}
			checkNeck(t, calledNeck(99, list...), n <= impl.NeckMaxCalls)
		}
	}
	checkNeck(t, calledNeck(9999, manyCalls(1000)...), false)
}

// A call that is not ok, or is by a later time alone, at each place.
func TestWrongCallsOfWorlds(t *testing.T) {
	for _, c := range wrongCalls() {
		for _, num := range []int{c.Num, 1} {
			c.Num = num
			checkNeck(t, calledNeck(impl.NeckMaxTime, c), callOkBy(c, impl.NeckMaxTime) && num == 1)
		}
	}
	w := fullNeck()
	for place := range w.Calls {
		for _, change := range []callChange{
			func(c *impl.Call) { c.Keys = nil }, func(c *impl.Call) { c.Kind = 3 }, func(c *impl.Call) { c.Val = -1 }, func(c *impl.Call) { c.Client = 2 },
			func(c *impl.Call) { c.Client = -1 }, func(c *impl.Call) { c.Ctx = wrongDeps()[0] }, func(c *impl.Call) { c.End = c.Begin + 1 }, func(c *impl.Call) { *c = impl.Call{} },
		} {
			checkNecks(t, w, false, func(w *impl.Neck) { w.Calls[place] = change.of(w.Calls[place]) })
		}
	}
}

// A call is ok up to the world's time: one that begins, or has ended, later is not.
func TestCallsOfWorldsUpToItsTime(t *testing.T) {
	for _, c := range []impl.Call{callOf(0, 1, 5), callOf(1, 1, 5), over(callOf(0, 1, 5)), endedAt(callOf(0, 1, 5), 6), endedAt(callOf(1, 1, 5), 9)} {
		for time := range 12 {
			want := time >= max(c.Begin, c.End)
			checkNeck(t, calledNeck(time, c), want)
			checkNeck(t, calledNeck(time, over(callOf(1-c.Client, 1, 1)), c), want)
		}
	}
	checkNeck(t, calledNeck(0, callOf(0, 1, 0)), false)
	for _, time := range []int{impl.NeckMaxTime - 1, impl.NeckMaxTime, impl.NeckMaxTime + 1} {
		want := time == impl.NeckMaxTime
		checkNeck(t, calledNeck(time, callOf(0, 1, impl.NeckMaxTime)), want)
		checkNeck(t, calledNeck(time, endedAt(callOf(0, 1, 5), impl.NeckMaxTime)), want)
	}
	checkNeck(t, calledNeck(impl.NeckMaxTime, callOf(0, 1, math.MaxInt)), false)
	checkNeck(t, calledNeck(-1, callOf(0, 1, -1)), false)
}

// Begins that ascend, are alike, or fall, of one client and of both.
func TestBeginsOfCalls(t *testing.T) {
	for first := 1; first <= 4; first++ {
		for second := 1; second <= 4; second++ {
			for third := 1; third <= 4; third++ {
				want := first < second && second < third
				for client := range impl.VerClients {
					other := 1 - client
					checkNeck(t, calledNeck(4, over(callOf(client, 1, first)), over(callOf(client, 2, second)), over(callOf(client, 3, third))), want)
					checkNeck(t, calledNeck(4, over(callOf(client, 1, first)), callOf(other, 1, second), callOf(client, 2, third)), want)
					checkNeck(t, calledNeck(4, over(callOf(client, 1, first)), over(callOf(client, 2, second)), callOf(other, 1, third)), want)
				}
			}
		}
	}
}

// Nums that are left out, come twice, do not begin at 1, or fall; those of the other client count for themselves.
func TestNumsOfCalls(t *testing.T) {
	numbers := []int{math.MinInt, -1, 0, 1, 2, 3, 4, 5, 99, 100, math.MaxInt}
	for client := range impl.VerClients {
		for _, first := range numbers {
			checkNeck(t, calledNeck(9, over(callOf(client, first, 1))), first == 1)
			for _, second := range numbers {
				one, two := over(callOf(client, first, 1)), over(callOf(client, second, 2))
				checkNeck(t, calledNeck(9, one, two), first == 1 && second == 2)
				two.Client = 1 - client
				checkNeck(t, calledNeck(9, one, two), first == 1 && second == 1)
				for _, third := range numbers {
					checkNeck(t, calledNeck(9, one, two, over(callOf(client, third, 3))), first == 1 && second == 1 && third == 2)
				}
			}
		}
	}
	for _, nums := range [][]int{{1, 2, 3, 4}, {1, 2, 4, 5}, {1, 1, 2, 3}, {1, 2, 2, 3}, {2, 3, 4, 5}, {0, 1, 2, 3}, {4, 3, 2, 1}, {1, 3, 2, 4}, {1, 2, 3, 3}, {1, 2, 3, 5}} {
		var list []impl.Call
		for i, num := range nums {
			list = append(list, over(callOf(1, num, i+1)))
		}
		checkNeck(t, calledNeck(9, list...), slices.Equal(nums, []int{1, 2, 3, 4}))
	}
}

// Calls of two clients in turn, whatever the turns are.
func TestCallsInTurn(t *testing.T) {
	eachWay(8, impl.VerClients, func(way []int) {
		var list []impl.Call
		num := [impl.VerClients]int{}
		for i, client := range way {
			num[client]++
			list = append(list, endedAt(callOf(client, num[client], 2*i+1), 2*i+2))
		}
		checkNeck(t, calledNeck(16, list...), true)
	})
}

// An earlier call that waits, is Over, or has ended ahead of the next one's Begin, at it, or behind it: of the same client that counts,
// of the other one it does not matter.
func TestEarlierCalls(t *testing.T) {
	for client := range impl.VerClients {
		for _, c := range []struct {
			earlier impl.Call
			want    bool
		}{
			{callOf(client, 1, 2), false}, {over(callOf(client, 1, 2)), true}, {endedAt(callOf(client, 1, 2), 3), true}, {endedAt(callOf(client, 1, 2), 5), true},
			{endedAt(callOf(client, 1, 2), 6), false}, {endedAt(callOf(client, 1, 2), 7), false}, {endedAt(callOf(client, 1, 2), 9), false},
			{endedAt(callOf(client, 1, 2), 10), false}, {endedAt(callOf(client, 1, 5), 6), false}, {endedAt(callOf(client, 1, 4), 5), true},
		} {
			next, far := callOf(client, 2, 6), callOf(1-client, 1, 6)
			checkNeck(t, calledNeck(10, c.earlier, next), c.want)
			checkNeck(t, calledNeck(10, c.earlier, over(next)), c.want)
			checkNeck(t, calledNeck(10, c.earlier, endedAt(next, 8)), c.want)
			checkNeck(t, calledNeck(10, c.earlier, far), true)
			checkNeck(t, calledNeck(10, c.earlier, over(far)), true)
			late := callOf(client, 2, 8)
			checkNeck(t, calledNeck(10, c.earlier, far, late), c.want || c.earlier.End > 0 && c.earlier.End < 8)
		}
	}
}

// What the earlier one of two calls is counts for each one behind it, not for the next one alone.
func TestEarlierCallsFarther(t *testing.T) {
	for place := range 4 {
		for _, waits := range []bool{true, false} {
			var list []impl.Call
			for i := range 4 {
				c := endedAt(callOf(1, i+1, 3*i+1), 3*i+2)
				if i == place && waits {
					c = callOf(1, i+1, 3*i+1)
				} else if i == place {
					c = endedAt(callOf(1, i+1, 3*i+1), 12)
				}
				list = append(list, c)
			}
			checkNeck(t, calledNeck(12, list...), place == 3)
		}
	}
}

// Three calls, whoever makes them, by whatever numbers and Begins, the earlier ones being in whatever state: as the document's words say.
func TestCallsOfAllWays(t *testing.T) {
	t.Parallel()
	begins := [][]int{{1, 3, 5}, {1, 2, 3}, {1, 3, 3}, {3, 1, 5}, {1, 5, 3}, {2, 2, 2}}
	stateOf := func(c impl.Call, state int) impl.Call {
		switch state {
		case 0:
			return c
		case 1:
			return over(c)
		}
		return endedAt(c, []int{0, 0, 2, 3, 5}[state])
	}
	good := 0
	for _, begin := range begins {
		eachWay(3, impl.VerClients*3, func(who []int) {
			eachWay(2, 5, func(states []int) {
				var list []impl.Call
				for i := range 3 {
					c := callOf(who[i]%impl.VerClients, 1+who[i]/impl.VerClients, begin[i])
					if i < len(states) {
						c = stateOf(c, states[i])
					}
					list = append(list, c)
				}
				w := calledNeck(6, list...)
				want := neckOkBy(w)
				checkNeck(t, w, want)
				if want {
					good++
				}
			})
		})
	}
	if good < 60 {
		t.Error("too few are ok", good)
	}
}
