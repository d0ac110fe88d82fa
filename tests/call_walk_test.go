package tests

import (
	"slices"
	"testing"

	"loop.example/tombolo/impl"
)

// callers is a walk in which clients make calls, one at a time each, and send each of them again and again.
type callers struct {
	*walk
	time   int
	calls  [impl.VerClients]impl.Call
	num    [impl.VerClients]int
	reads  int
	needed int
}

func newCallers(t *testing.T, number int) *callers {
	c := &callers{walk: newWalk(t, number)}
	c.say, c.told = c.begins, c.hears
	return c
}

// hears lets a client's call hear a word; when it ends, what it saw is what its client has seen.
func (c *callers) hears(client int, word impl.Word) {
	c.time++
	old := c.calls[client]
	if old.Num == 0 {
		return
	}
	x := checkCalled(c.t, old, word, c.time)
	c.calls[client] = x
	if old.End > 0 || x.End == 0 {
		return
	}
	c.checkEnded(x)
	c.seen[client] = impl.CallSaw(x)
	if old.Kind == impl.CallRead {
		c.reads++
		c.needed += len(old.Needs)
	}
}

// checkEnded: a read fits together, and with what its client had seen; a put is newer than all of that.
func (c *callers) checkEnded(x impl.Call) {
	c.t.Helper()
	for _, a := range x.Got {
		if s := newer(newestBy(x, a.Key), stampOf(x.Ctx, a.Key)); s != (impl.Stamp{}) && olderThan(a, s) {
			c.t.Fatal("it could not have been seen at once", x, a)
		}
	}
	for _, d := range x.Ctx {
		if x.Kind == impl.CallPut && d.Stamp.Time >= x.Stamp.Time {
			c.t.Fatal("it is no newer than what was seen", x)
		}
	}
}

// begins lets a client begin a call, if none waits, or sends the one that waits, or gives it up. One word of a read goes out at a time, so that
// much happens between its answers; the first client writes much, and the second one reads much.
func (c *callers) begins(client int) {
	c.time++
	call := &c.calls[client]
	switch waits := call.Num > 0 && call.End == 0 && !call.Over; {
	case waits && c.below(30) == 0:
		call.Over = true
	case !waits && c.num[client] < impl.VerMaxCall:
		c.num[client]++
		*call = impl.Call{Client: client, Num: c.num[client], Kind: impl.CallRead, Ctx: c.seen[client], Begin: c.time}
		for key := c.below(3); key < impl.VerKeys && len(call.Keys) < 3; key += 1 + c.below(2) {
			call.Keys = append(call.Keys, key)
		}
		if c.below(3+3*client) < 2 && c.num[client] < 50-20*client {
			call.Kind, call.Keys, call.Val = impl.CallPut, call.Keys[:1], c.below(100)
			call.Keys[0] = c.below(impl.VerKeys)
		}
	}
	words := impl.CallWords(*call)
	if !sameWords(words, wordsBy(*call)) {
		c.t.Fatal(*call, words)
	}
	if len(words) > 2 {
		one := c.below(len(words))
		words = words[one : one+1]
	}
	c.send(words...)
}

// Promises 55 to 66 hold of calls as they come to be, words being lost, doubled, late and out of turn, slots moving at any time: what is read
// fits together, and with what its client had seen.
func TestCallsAndServersTogether(t *testing.T) {
	t.Parallel()
	reads, needed := 0, 0
	for number := range 60 {
		c := newCallers(t, number)
		for range 2500 {
			c.step()
			if len(c.radio) > 0 {
				c.bring(c.below(len(c.radio)), false)
			}
			c.radio = c.radio[max(0, len(c.radio)-30):]
		}
		for client := range c.calls {
			c.endsInACalm(client)
		}
		c.checkSides()
		reads, needed = reads+c.reads, needed+c.needed
	}
	if reads < 600 || needed < 20 {
		t.Error("too little happened", reads, needed)
	}
}

// endsInACalm sends a call again and again, as all is heard: it ends, and sends nothing any more.
func (c *callers) endsInACalm(client int) {
	c.t.Helper()
	c.radio = nil
	c.calm()
	for range 3 {
		c.send(impl.CallWords(c.calls[client])...)
		c.calm()
	}
	if call := c.calls[client]; call.Num > 0 && call.End == 0 && !call.Over || len(impl.CallWords(c.calls[client])) > 0 {
		c.t.Fatal("it has not ended", c.calls[client])
	}
	if slices.ContainsFunc(c.radio, func(w impl.Word) bool { return w.To >= impl.WordClient }) {
		c.t.Fatal("words are under way still")
	}
}
