package tests

import (
	"math"
	"slices"
	"testing"

	"loop.example/tombolo/impl"
)

// sawBy is what a client has seen behind a call, without the program.
func sawBy(c impl.Call) []impl.Dep {
	saw := joinedBy(c.Ctx, nil)
	if c.End == 0 {
		return saw
	}
	if c.Kind == 1 {
		saw = joinedBy(saw, []impl.Dep{{Key: c.Keys[0], Stamp: c.Stamp}})
	}
	for _, a := range c.Got {
		saw = joinedBy(saw, a.Ver.Deps)
		if a.Yes {
			saw = joinedBy(saw, []impl.Dep{nameOf(a.Ver)})
		}
	}
	return saw
}

// Promise 60: what a client has seen never gets less by a call, and has what that wrote, or read.
func TestCallSaw(t *testing.T) {
	for _, given := range okCalls() {
		for _, ctx := range append(few(someDeps(), 30), nil, fullDeps()) {
			c := given
			c.Ctx = ctx
			saw := impl.CallSaw(c)
			if !slices.Equal(saw, sawBy(c)) || !impl.DepsOk(saw) {
				t.Error(c, saw)
			}
			for _, d := range c.Ctx {
				if s := stampOf(saw, d.Key); newer(s, d.Stamp) != s {
					t.Error("it got less", c, saw, d)
				}
			}
			checkSawItsOwn(t, c, saw)
		}
	}
}

func checkSawItsOwn(t *testing.T, c impl.Call, saw []impl.Dep) {
	t.Helper()
	if c.End == 0 {
		if !slices.Equal(saw, c.Ctx) {
			t.Error("it has not ended", c, saw)
		}
		return
	}
	wrote := stampOf(saw, c.Keys[0])
	if c.Kind == impl.CallPut && newer(wrote, c.Stamp) != wrote {
		t.Error("not what it wrote", c, saw)
	}
	for _, a := range c.Got {
		for _, d := range append(slices.Clone(a.Ver.Deps), nameOf(a.Ver)) {
			if s := stampOf(saw, d.Key); a.Yes && newer(s, d.Stamp) != s {
				t.Error("not what it read", c, saw, d)
			}
		}
	}
}

// What was seen, by cases: what is newer counts, of the call or of what was seen ahead of it; a key without a version adds none.
func TestWhatCallsSaw(t *testing.T) {
	seen := []impl.Dep{dep(0, 3, 2), dep(3, 2, 1)}
	put := ended(putCall(3), 6)
	older := put
	older.Ctx = []impl.Dep{dep(3, 4, 2), dep(5, 1, 1)}
	newest := put
	newest.Ctx = []impl.Dep{dep(3, 5, 0)}
	for i, c := range []struct {
		call impl.Call
		want []impl.Dep
	}{
		{putCall(3), seen},
		{over(putCall(3)), seen},
		{put, []impl.Dep{dep(0, 3, 2), dep(3, 4, 3)}},
		{older, []impl.Dep{dep(3, 4, 3), dep(5, 1, 1)}},
		{newest, []impl.Dep{dep(3, 5, 0)}},
		{with(readCall(1, 3), yes(midOf(1))), seen},
		{needs(with(readCall(1, 3), yes(midOf(1)), none(3)), dep(3, 5, 2)), seen},
		{over(needs(with(readCall(1, 3), yes(midOf(1)), none(3)), dep(3, 5, 2))), seen},
		{ended(with(readCall(1, 3), none(1), none(3)), 6), seen},
		{ended(with(readCall(1, 4), none(1), yes(oldOf(4))), 6), []impl.Dep{dep(0, 3, 2), dep(1, 2, 0), dep(3, 2, 1), dep(4, 3, 0)}},
		{ended(with(readCall(3, 4), yes(oldOf(3)), yes(midOf(4))), 6), []impl.Dep{dep(0, 5, 3), dep(3, 5, 2), dep(4, 6, 3)}},
	} {
		if saw := impl.CallSaw(c.call); !slices.Equal(saw, c.want) {
			t.Error(i, saw)
		}
	}
}

// A call that is not ok has seen nothing; that is asked up to Begin and End together, however great they are.
func TestWrongCallsSawNothing(t *testing.T) {
	for i, c := range wrongCalls() {
		if saw := impl.CallSaw(c); len(saw) > 0 {
			t.Error(i, saw)
		}
	}
	for _, begin := range []int{1, 99998, math.MaxInt - 1} {
		c := ended(putCall(3), begin+1)
		c.Begin = begin
		if saw := impl.CallSaw(c); !slices.Equal(saw, []impl.Dep{dep(0, 3, 2), dep(3, 4, 3)}) {
			t.Error(begin, saw)
		}
	}
}
