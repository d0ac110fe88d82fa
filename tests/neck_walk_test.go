package tests

import (
	"slices"
	"testing"

	"loop.example/tombolo/impl"
)

// worlds is callers of whom all calls are kept, so that all together is a world.
type worlds struct {
	*callers
	past []impl.Call
}

// note keeps each client's call as it is now, behind all that began ahead of it.
func (w *worlds) note() {
	for _, c := range w.calls {
		i := slices.IndexFunc(w.past, func(old impl.Call) bool { return old.Client == c.Client && old.Num == c.Num })
		switch {
		case i >= 0:
			w.past[i] = c
		case c.Num > 0:
			w.past = append(w.past, c)
		}
	}
}

// world is all as it is now, with as many words and calls as there may be.
func (w *worlds) world() impl.Neck {
	return impl.Neck{
		Time: w.time, Servers: w.servers[:], Radio: w.radio[:min(len(w.radio), impl.NeckMaxRadio)], Calls: w.past[:min(len(w.past), impl.NeckMaxCalls)],
		Seen: w.seen[:],
	}
}

// goesOn lets something happen, and then a word be heard.
func (w *worlds) goesOn() {
	w.step()
	w.note()
	if len(w.radio) > 0 {
		w.bring(w.below(len(w.radio)), false)
	}
	w.note()
}

// turned is the world with one thing of its calls changed, which may be ok still.
func (w *worlds) turned(given impl.Neck) impl.Neck {
	place := w.below(len(given.Calls))
	return neckChange(func(x *impl.Neck) {
		c := &x.Calls[place]
		switch other := &x.Calls[w.below(len(x.Calls))]; w.below(8) {
		case 0:
			*c, *other = *other, *c
		case 1:
			c.Num += w.below(3) - 1
		case 2:
			c.Begin += w.below(5) - 2
		case 3:
			c.Over = !c.Over
		case 4:
			c.Client = 1 - c.Client
		case 5:
			c.End = other.Begin
		case 6:
			x.Calls = slices.Delete(x.Calls, place, place+1)
		case 7:
			x.Time = c.Begin - w.below(2)
		}
	}).of(given)
}

// Promise 67 holds of worlds as they come to be: words, servers and calls go on together, and each world on the way is ok, and with less;
// with something of its calls changed, it is as the document says.
func TestWorldsAsTheyComeToBe(t *testing.T) {
	t.Parallel()
	calls, fine, wrong := 0, 0, 0
	for number := range 20 {
		w := &worlds{callers: newCallers(t, number)}
		for i := range 600 {
			w.goesOn()
			now := w.world()
			checkNeck(t, now, true)
			if i%100 == 0 {
				checkLess(t, now)
			}
			if len(now.Calls) == 0 {
				continue
			}
			x := w.turned(now)
			want := neckOkBy(x)
			checkNeck(t, x, want)
			if want {
				fine++
			} else {
				wrong++
			}
		}
		calls += len(w.world().Calls)
	}
	if calls < 200 || fine < 1000 || wrong < 2000 {
		t.Error("too little happened", calls, fine, wrong)
	}
}
