package tests

import (
	"slices"
	"testing"

	"loop.example/tombolo/impl"
)

// oneOf is a place of a list of so many, drawn; none, if there is none.
func (d *drawn) oneOf(n int) (int, bool) {
	if n == 0 {
		return 0, false
	}
	return d.below(n), true
}

// drawnDep is one of what can be seen, or waits, or something near it.
func (d *drawn) drawnDep() impl.Dep {
	list := impl.NeckSide(d.now, d.below(2))
	near := dep(d.below(impl.VerKeys), 1+d.below(12), d.below(impl.Sites))
	if place, there := d.oneOf(len(list)); there && d.below(4) > 0 {
		near = nameOf(list[place])
		if d.below(3) == 0 {
			near.Stamp.Time += d.below(3)
		}
	}
	return near
}

// spoilsVer changes something of a version.
func (d *drawn) spoilsVer(v impl.Ver) impl.Ver {
	switch d.below(6) {
	case 0:
		v.Val ^= 1
	case 1:
		v.Client ^= 1
	case 2:
		v.Call = 1 + d.below(20)
	case 3:
		cameOf(d.drawnDep())(&v)
	case 4:
		cameOfNo(d.below(impl.VerKeys))(&v)
	case 5:
		v.Stamp.Site = d.below(impl.Sites)
	}
	return v
}

// spoilsServer changes something of what a server has, or of how a slot stands there.
func (d *drawn) spoilsServer(s impl.Server) impl.Server {
	vers, seen := d.oneOf(len(s.Vers))
	waits, waiting := d.oneOf(len(s.Waits))
	slot := d.below(impl.VerSlots)
	switch kind := d.below(7); {
	case kind < 2 && seen:
		s.Vers = slices.Clone(s.Vers)
		s.Vers[vers] = d.spoilsVer(s.Vers[vers])
	case kind == 2 && waiting:
		s.Waits = slices.Clone(s.Waits)
		s.Waits[waits] = d.spoilsVer(s.Waits[waits])
	case kind == 3 && seen:
		s.Owes = slices.DeleteFunc(slices.Clone(s.Owes), func(e impl.Dep) bool { return e == nameOf(s.Vers[vers]) })
		s.Vers = slices.Delete(slices.Clone(s.Vers), vers, vers+1)
	case kind == 4:
		name := d.drawnDep()
		s.Vers = inPlace(s.Vers, wrote(name, d.below(2), 1+d.below(30)))
	default:
		s.Slots = slices.Clone(s.Slots)
		s.Slots[slot].Epoch = max(0, s.Slots[slot].Epoch+d.below(3)-1)
		if d.below(2) == 0 {
			s.Slots[slot].Stand = d.below(3)
		}
	}
	return s
}

// spoilsCall changes something of a call, its answers included.
func (d *drawn) spoilsCall(c impl.Call) impl.Call {
	answer, there := d.oneOf(len(c.Got))
	switch kind := d.below(7); {
	case kind == 0 && c.Kind == impl.CallPut:
		c.Val ^= 1
	case kind == 1 && c.Kind == impl.CallPut && c.End > 0:
		c.Stamp = d.drawnDep().Stamp
	case kind == 2:
		c.Ctx = joinedBy(c.Ctx, []impl.Dep{d.drawnDep()})
	case kind == 3 && len(c.Ctx) > 0:
		c.Ctx = c.Ctx[1:]
	case there && kind == 4:
		c.Got = slices.Clone(c.Got)
		c.Got[answer] = none(c.Got[answer].Key)
	case there && c.Got[answer].Yes:
		c.Got = slices.Clone(c.Got)
		c.Got[answer].Ver = d.spoilsVer(c.Got[answer].Ver)
	default:
		c.Over = !c.Over
	}
	return c
}

// spoilt is the world with something changed, which may be ok and safe still; calls go on from each other then, or not.
func (d *drawn) spoilt() impl.Neck {
	w := neckChange(nothing).of(d.now)
	switch call, called := d.oneOf(len(w.Calls)); {
	case called && d.below(3) == 0:
		w.Calls[call] = d.spoilsCall(w.Calls[call])
		if d.below(2) == 0 {
			w = chainedFrom(w, call)
		}
	case d.below(6) == 0:
		client := d.below(impl.VerClients)
		w.Seen[client] = joinedBy(w.Seen[client], []impl.Dep{d.drawnDep()})
	default:
		site := d.below(impl.Sites)
		w.Servers[site] = d.spoilsServer(w.Servers[site])
	}
	return w
}

// Worlds that drawn events have led to, with something changed in each: what is said of them is what the document says, whatever is amiss,
// and each thing that can be is amiss by itself in some of them.
func TestLooksOfSpoiltWorlds(t *testing.T) {
	inParts(t, 6, func(t *testing.T, part int) {
		o := spoiling{alone: map[string]int{}}
		for number := range 6 {
			d := unwatched(t, 4000+6*part+number)
			for range 60 {
				d.goesFar(12, anyEvent)
				for range 20 {
					o.looks(t, d.spoilt())
				}
			}
		}
		for _, flaw := range []string{depGone, madeTwice, unlike, foreign, slotAmiss, putGone, seenGone, waitGone, readOlder, sawOther} {
			if o.alone[flaw] < 5 {
				t.Error("too few", flaw, o)
			}
		}
		if o.fine < 500 || o.wrong < 500 {
			t.Error("too little happened", o)
		}
	})
}

// spoiling counts how often each thing was amiss by itself, and how many worlds were safe, and were not ok.
type spoiling struct {
	alone map[string]int
	fine  int
	wrong int
}

func (o *spoiling) looks(t *testing.T, w impl.Neck) {
	t.Helper()
	got := checkLooks(t, w)
	if !neckOkBy(w) {
		o.wrong++
		return
	}
	flaws := append(safeFlawsBy(w), callFlawsBy(w)...)
	if len(flaws) == 1 {
		o.alone[flaws[0]]++
	}
	if got.safe && got.calls {
		o.fine++
	}
}
