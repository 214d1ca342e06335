package leaves_test

import (
	"fmt"
	"math"
	"testing"

	"undercroft/api"
	"undercroft/frames"
	"undercroft/leaves"
)

// The face of the package, as the chapter has it: another signature does not compile.
var (
	_ func(*frames.Pool) (*leaves.Map, error)         = leaves.New
	_ func(*leaves.Map, int) (int, error)             = (*leaves.Map).State
	_ func(*leaves.Map, int) (api.Leaf, error)        = (*leaves.Map).Leaf
	_ func(*leaves.Map, int) error                    = (*leaves.Map).Plug
	_ func(*leaves.Map, int) error                    = (*leaves.Map).Unplug
	_ func(*leaves.Map, int) error                    = (*leaves.Map).Give
	_ func(*leaves.Map, int) error                    = (*leaves.Map).Back
	_ func(*leaves.Map, int, bool) (int, bool, error) = (*leaves.Map).Touch
	_ func(m *leaves.Map, n, frame int) error         = (*leaves.Map).Join
	_ func(*leaves.Map, int) error                    = (*leaves.Map).Seal
	_ func(*leaves.Map, *frames.Pool) *leaves.Map     = (*leaves.Map).Copy
)

// noPages: numbers that are no page's.
var noPages = []int{-1, api.Pages, api.Pages + 1, math.MaxInt, math.MinInt, math.MinInt32, math.MaxUint32, 1 << 32}

// says: a bare error of package api, or none at all.
func says(t *testing.T, what string, err error, want api.Errno) {
	t.Helper()
	if want == api.OK {
		if err != nil {
			t.Errorf("%s: %v, wanted no error", what, err)
		}
		return
	}
	if e, ok := err.(api.Errno); !ok || e != want {
		t.Errorf("%s: %v, wanted error %d", what, err, int(want))
	}
}

// on: a pool of so many frames, and a map on it with the first so many pages plugged.
func on(t *testing.T, size, plugged int) (*frames.Pool, *leaves.Map) {
	t.Helper()
	p, err := frames.New(size)
	says(t, "frames.New", err, api.OK)
	return p, beside(t, p, plugged)
}

// beside: one map more on a pool.
func beside(t *testing.T, p *frames.Pool, plugged int) *leaves.Map {
	t.Helper()
	m, err := leaves.New(p)
	if err != nil || m == nil {
		t.Fatalf("New: %v, %v", m, err)
	}
	for n := range plugged {
		says(t, "Plug", m.Plug(n), api.OK)
	}
	return m
}

// touches: what Touch answers.
func touches(t *testing.T, m *leaves.Map, n int, write bool, frame int, moved bool) {
	t.Helper()
	if f, mv, err := m.Touch(n, write); f != frame || mv != moved || err != nil {
		t.Fatalf("Touch(%d, %v): %d, %v, %v; wanted %d, %v", n, write, f, mv, err, frame, moved)
	}
}

// refuses: Touch, to be written or not, answers that error alone.
func refuses(t *testing.T, m *leaves.Map, n int, want api.Errno) {
	t.Helper()
	for _, write := range []bool{false, true} {
		f, moved, err := m.Touch(n, write)
		says(t, fmt.Sprintf("Touch(%d, %v)", n, write), err, want)
		if f != 0 || moved {
			t.Errorf("Touch(%d, %v): %d, %v beside the error", n, write, f, moved)
		}
	}
}

// is: what State and Leaf tell of a page.
func is(t *testing.T, m *leaves.Map, n, state int, leaf api.Leaf) {
	t.Helper()
	if got, err := m.State(n); got != state || err != nil {
		t.Errorf("State(%d): %d, %v; wanted %d", n, got, err, state)
	}
	if got, err := m.Leaf(n); got != leaf || err != nil {
		t.Errorf("Leaf(%d): %v, %v; wanted %v", n, got, err, leaf)
	}
}

// nowhere, own, sealed: the three kinds of leaves.
var nowhere = api.Leaf{}

func own(frame int) api.Leaf { return api.Leaf{There: true, Write: true, Frame: frame} }

func sealed(frame int) api.Leaf { return api.Leaf{There: true, Frame: frame} }

// refs: how many pages are in a frame.
func refs(t *testing.T, p *frames.Pool, f, want int) {
	t.Helper()
	if fr, err := p.Of(f); fr.Refs != want || err != nil {
		t.Errorf("Of(%d): %v, %v; wanted %d pages in it", f, fr, err, want)
	}
}

// seen: all that a pool and maps on it tell of themselves.
func seen(p *frames.Pool, maps ...*leaves.Map) string {
	s := fmt.Sprint(p.Left())
	for f := range p.Size() {
		fr, _ := p.Of(f)
		s += fmt.Sprint(" ", fr.Refs, ":", bytesOf(p, f))
	}
	for _, m := range maps {
		s += ";"
		for n := range api.Pages {
			state, e := m.State(n)
			leaf, x := m.Leaf(n)
			s += fmt.Sprint(" ", state, e, leaf, x)
		}
	}
	return s
}

// bytesOf a frame; none of a free one.
func bytesOf(p *frames.Pool, f int) string {
	s := ""
	for at := range api.Page {
		if v, err := p.Get(f, at); err == nil {
			s += string([]byte{v})
		}
	}
	return s
}

// write bytes into a page, as Touch lets it.
func write(t *testing.T, p *frames.Pool, m *leaves.Map, n, from int) {
	t.Helper()
	f, _, err := m.Touch(n, true)
	says(t, "Touch", err, api.OK)
	for at := range api.Page {
		says(t, "Set", p.Set(f, at, byte(from+at)), api.OK)
	}
}

// has: a page has the bytes that write put there.
func has(t *testing.T, p *frames.Pool, m *leaves.Map, n, from int) {
	t.Helper()
	leaf, err := m.Leaf(n)
	says(t, "Leaf", err, api.OK)
	for at := range api.Page {
		if v, err := p.Get(leaf.Frame, at); v != byte(from+at) || err != nil || !leaf.There {
			t.Errorf("byte %d of page %d (%v): %d, %v; wanted %d", at, n, leaf, v, err, byte(from+at))
		}
	}
}

// B1: all pages of a new map are Absent, and no frame is taken for them.
func TestNewIsAbsent(t *testing.T) {
	p, m := on(t, 3, 0)
	for n := range api.Pages {
		is(t, m, n, api.Absent, nowhere)
	}
	if p.Left() != 3 {
		t.Errorf("left %d of 3", p.Left())
	}
}

// B1: New of no pool is refused.
func TestNewOfNil(t *testing.T) {
	m, err := leaves.New(nil)
	says(t, "New(nil)", err, api.ErrNone)
	if m != nil {
		t.Error("New(nil): a map beside the error")
	}
}

// B1: every call says ErrBound of numbers that are no page's, and changes nothing.
func TestNoPage(t *testing.T) {
	p, m := on(t, 4, api.Pages)
	write(t, p, m, 0, 1)
	write(t, p, m, 15, 1)
	says(t, "Give", m.Give(3), api.OK)
	ahead := seen(p, m)
	for _, n := range noPages {
		state, err := m.State(n)
		says(t, fmt.Sprintf("State(%d)", n), err, api.ErrBound)
		leaf, err := m.Leaf(n)
		says(t, fmt.Sprintf("Leaf(%d)", n), err, api.ErrBound)
		if state != 0 || leaf != nowhere {
			t.Errorf("page %d: %d, %v beside the error", n, state, leaf)
		}
		says(t, fmt.Sprintf("Plug(%d)", n), m.Plug(n), api.ErrBound)
		says(t, fmt.Sprintf("Unplug(%d)", n), m.Unplug(n), api.ErrBound)
		says(t, fmt.Sprintf("Give(%d)", n), m.Give(n), api.ErrBound)
		says(t, fmt.Sprintf("Back(%d)", n), m.Back(n), api.ErrBound)
		says(t, fmt.Sprintf("Seal(%d)", n), m.Seal(n), api.ErrBound)
		for _, f := range []int{0, 1, 3, -1, 4, math.MaxInt} {
			says(t, fmt.Sprintf("Join(%d, %d)", n, f), m.Join(n, f), api.ErrBound)
		}
		refuses(t, m, n, api.ErrBound)
	}
	if seen(p, m) != ahead {
		t.Errorf("errors changed the map: %s became %s", ahead, seen(p, m))
	}
}

// B1: each page has a state of its own, from the first to the last.
func TestEachPage(t *testing.T) {
	_, m := on(t, 1, 0)
	for n := range api.Pages {
		says(t, "Plug", m.Plug(n), api.OK)
		for k := range api.Pages {
			want := api.Absent
			if k <= n {
				want = api.Plain
			}
			is(t, m, k, want, nowhere)
		}
	}
}

// B1: what Plug, Unplug, Give and Back make of each state, and what they refuse.
func TestStates(t *testing.T) {
	calls := []struct {
		name string
		call func(*leaves.Map) error
		err  [3]api.Errno // of an Absent, a Plain, a Given page
		to   [3]int
	}{
		{"Plug", func(m *leaves.Map) error { return m.Plug(2) },
			[3]api.Errno{api.OK, api.ErrHeld, api.ErrHeld}, [3]int{api.Plain, api.Plain, api.Given}},
		{"Unplug", func(m *leaves.Map) error { return m.Unplug(2) },
			[3]api.Errno{api.ErrNone, api.OK, api.OK}, [3]int{api.Absent, api.Absent, api.Absent}},
		{"Give", func(m *leaves.Map) error { return m.Give(2) },
			[3]api.Errno{api.ErrState, api.OK, api.ErrState}, [3]int{api.Absent, api.Given, api.Given}},
		{"Back", func(m *leaves.Map) error { return m.Back(2) },
			[3]api.Errno{api.ErrState, api.ErrState, api.OK}, [3]int{api.Absent, api.Plain, api.Plain}},
	}
	for _, c := range calls {
		for state := range 3 {
			p, m := on(t, 2, 2)
			if state != api.Absent {
				says(t, "Plug", m.Plug(2), api.OK)
			}
			if state == api.Given {
				says(t, "Give", m.Give(2), api.OK)
			}
			says(t, fmt.Sprintf("%s of state %d", c.name, state), c.call(m), c.err[state])
			is(t, m, 2, c.to[state], nowhere)
			is(t, m, 1, api.Plain, nowhere)
			is(t, m, 3, api.Absent, nowhere)
			if p.Left() != 2 {
				t.Errorf("%s of state %d: left %d of 2", c.name, state, p.Left())
			}
		}
	}
}

// B1: a call that is refused leaves a page in its frame, as it was.
func TestRefusedStays(t *testing.T) {
	p, m := on(t, 2, 1)
	write(t, p, m, 0, 5)
	ahead := seen(p, m)
	says(t, "Plug", m.Plug(0), api.ErrHeld)
	says(t, "Back", m.Back(0), api.ErrState)
	if seen(p, m) != ahead {
		t.Errorf("errors changed the map: %s became %s", ahead, seen(p, m))
	}
}

// B1: the frame of a page that is Plain no more is dropped: it is free, or has the others still.
func TestFrameIsDropped(t *testing.T) {
	for _, unplug := range []bool{false, true} {
		p, m := on(t, 2, 3)
		write(t, p, m, 0, 5)
		write(t, p, m, 1, 5)
		says(t, "Join", m.Join(1, 0), api.OK)
		refs(t, p, 0, 2)
		call, state := m.Give, api.Given
		if unplug {
			call, state = m.Unplug, api.Absent
		}
		says(t, "one of two goes", call(0), api.OK)
		is(t, m, 0, state, nowhere)
		is(t, m, 1, api.Plain, sealed(0))
		refs(t, p, 0, 1)
		has(t, p, m, 1, 5)
		says(t, "the last one goes", call(1), api.OK)
		is(t, m, 1, state, nowhere)
		refs(t, p, 0, 0)
		if p.Left() != 2 {
			t.Errorf("left %d of 2", p.Left())
		}
	}
}

// B1: a page that comes back, or is plugged again, is in no frame, and has noughts when it is touched.
func TestNoughtsAgain(t *testing.T) {
	p, m := on(t, 1, 1)
	write(t, p, m, 0, 9)
	says(t, "Give", m.Give(0), api.OK)
	says(t, "Back", m.Back(0), api.OK)
	is(t, m, 0, api.Plain, nowhere)
	touches(t, m, 0, false, 0, false)
	noughts := string(make([]byte, api.Page))
	if bytesOf(p, 0) != noughts {
		t.Errorf("a page that came back has %q", bytesOf(p, 0))
	}
	write(t, p, m, 0, 9)
	says(t, "Unplug", m.Unplug(0), api.OK)
	says(t, "Plug", m.Plug(0), api.OK)
	is(t, m, 0, api.Plain, nowhere)
	touches(t, m, 0, true, 0, false)
	if bytesOf(p, 0) != noughts {
		t.Errorf("a page that was plugged again has %q", bytesOf(p, 0))
	}
}

// B1: a Given page that is unplugged drops nothing: it has no frame any more.
func TestUnplugOfGiven(t *testing.T) {
	p, m := on(t, 2, 2)
	write(t, p, m, 0, 1)
	says(t, "Give", m.Give(0), api.OK)
	write(t, p, m, 1, 2)
	is(t, m, 1, api.Plain, own(0))
	says(t, "Unplug", m.Unplug(0), api.OK)
	refs(t, p, 0, 1)
	has(t, p, m, 1, 2)
}

// B2: Touch of an Absent and of a Given page.
func TestTouchErrors(t *testing.T) {
	p, m := on(t, 2, 2)
	says(t, "Give", m.Give(1), api.OK)
	ahead := seen(p, m)
	refuses(t, m, 2, api.ErrNone)
	refuses(t, m, 1, api.ErrGone)
	if seen(p, m) != ahead {
		t.Errorf("errors changed the map: %s became %s", ahead, seen(p, m))
	}
}

// B2: the first touch, to be written or not, takes the lowest free frame, of noughts, that may be written; later ones answer it.
func TestTouchFirst(t *testing.T) {
	p, m := on(t, 3, 3)
	for i, n := range []int{2, 0, 1} {
		touches(t, m, n, i%2 == 0, i, false)
		is(t, m, n, api.Plain, own(i))
		refs(t, p, i, 1)
		if bytesOf(p, i) != string(make([]byte, api.Page)) {
			t.Errorf("frame %d has %q", i, bytesOf(p, i))
		}
		touches(t, m, n, false, i, false)
		touches(t, m, n, true, i, false)
		if p.Left() != 2-i {
			t.Errorf("left %d, wanted %d", p.Left(), 2-i)
		}
	}
}

// B2: without a free frame Touch has Take's error, and the page is where it was.
func TestTouchFull(t *testing.T) {
	p, m := on(t, 2, 4)
	write(t, p, m, 0, 3)
	write(t, p, m, 1, 3)
	says(t, "Join", m.Join(1, 0), api.OK)
	write(t, p, m, 2, 8)
	says(t, "Seal", m.Seal(0), api.OK)
	ahead := seen(p, m)
	refuses(t, m, 3, api.ErrFull)
	for n := range 2 {
		f, moved, err := m.Touch(n, true)
		says(t, "Touch of a shared page", err, api.ErrFull)
		if f != 0 || moved {
			t.Errorf("Touch: %d, %v beside the error", f, moved)
		}
		touches(t, m, n, false, 0, false)
	}
	touches(t, m, 2, true, 1, false)
	if seen(p, m) != ahead {
		t.Errorf("errors changed the map: %s became %s", ahead, seen(p, m))
	}
}

// B2: a sealed page is read where it is; alone there, it is written there, and may be from then on.
func TestTouchSealedAlone(t *testing.T) {
	p, m := on(t, 1, 1)
	write(t, p, m, 0, 6)
	says(t, "Seal", m.Seal(0), api.OK)
	touches(t, m, 0, false, 0, false)
	is(t, m, 0, api.Plain, sealed(0))
	touches(t, m, 0, true, 0, false)
	is(t, m, 0, api.Plain, own(0))
	has(t, p, m, 0, 6)
	refs(t, p, 0, 1)
}

// B2: a sealed page with others in its frame is read there; to be written it moves, with its bytes; the last one stays.
func TestTouchMoves(t *testing.T) {
	p, a := on(t, 4, 2)
	b := beside(t, p, 1)
	write(t, p, a, 0, 7)
	write(t, p, a, 1, 7)
	write(t, p, b, 0, 7)
	says(t, "Seal", a.Seal(0), api.OK)
	says(t, "Join", a.Join(1, 0), api.OK)
	says(t, "Join", b.Join(0, 0), api.OK)
	refs(t, p, 0, 3)
	for _, m := range []*leaves.Map{a, b} {
		touches(t, m, 0, false, 0, false)
		is(t, m, 0, api.Plain, sealed(0))
	}
	touches(t, b, 0, true, 1, true)
	is(t, b, 0, api.Plain, own(1))
	refs(t, p, 0, 2)
	refs(t, p, 1, 1)
	has(t, p, b, 0, 7)
	write(t, p, b, 0, 100)
	has(t, p, a, 0, 7)
	has(t, p, a, 1, 7)
	touches(t, b, 0, true, 1, false)
	touches(t, a, 0, true, 2, true)
	has(t, p, a, 0, 7)
	refs(t, p, 0, 1)
	touches(t, a, 1, true, 0, false)
	is(t, a, 1, api.Plain, own(0))
	has(t, p, a, 1, 7)
	has(t, p, b, 0, 100)
}

// B3: Join, onto a page of the same map and of another one: the own frame is dropped, no byte changes, the other page's leaf stays.
func TestJoin(t *testing.T) {
	p, a := on(t, 3, 2)
	b := beside(t, p, 1)
	write(t, p, a, 0, 4)
	write(t, p, a, 1, 4)
	write(t, p, b, 0, 4)
	says(t, "Join", b.Join(0, 1), api.OK)
	is(t, b, 0, api.Plain, sealed(1))
	is(t, a, 1, api.Plain, own(1))
	touches(t, a, 1, true, 1, false) // it wasn't sealed, so it isn't asked
	refs(t, p, 1, 2)
	refs(t, p, 2, 0)
	says(t, "Join", b.Join(0, 0), api.OK)
	is(t, b, 0, api.Plain, sealed(0))
	is(t, a, 0, api.Plain, own(0))
	refs(t, p, 0, 2)
	refs(t, p, 1, 1)
	says(t, "Join", a.Join(1, 0), api.OK)
	is(t, a, 1, api.Plain, sealed(0))
	refs(t, p, 0, 3)
	refs(t, p, 1, 0)
	if p.Left() != 2 {
		t.Errorf("left %d of 3", p.Left())
	}
	for _, n := range []int{0, 1} {
		has(t, p, a, n, 4)
	}
	has(t, p, b, 0, 4)
}

// B3: what Join refuses: the page's own frame, one with other bytes, what is no frame or free, and a page that is in none.
func TestJoinErrors(t *testing.T) {
	p, m := on(t, 5, 5)
	write(t, p, m, 0, 4)
	write(t, p, m, 1, 4)
	write(t, p, m, 2, 4)
	says(t, "Set", p.Set(2, api.Page-1, 0), api.OK)
	write(t, p, m, 3, 4)
	says(t, "Give", m.Give(3), api.OK)
	ahead := seen(p, m)
	for _, f := range []int{0, 2, 3, 4, 5, -1, api.MaxFrames, math.MaxInt, math.MinInt, 1 << 32, 1<<32 + 1} {
		says(t, fmt.Sprintf("Join(0, %d)", f), m.Join(0, f), api.ErrState)
	}
	for _, n := range []int{3, 4, 5, 15} {
		for _, f := range []int{0, 1, 2, 3, 4, 5, -1} {
			says(t, fmt.Sprintf("Join(%d, %d)", n, f), m.Join(n, f), api.ErrState)
		}
	}
	if seen(p, m) != ahead {
		t.Errorf("errors changed the map: %s became %s", ahead, seen(p, m))
	}
	says(t, "Join", m.Join(1, 0), api.OK)
	says(t, "Join again", m.Join(1, 0), api.ErrState)
	refs(t, p, 0, 2)
}

// B3: Seal of a page, alone or not, sealed or not; of one that is in no frame it is refused.
func TestSeal(t *testing.T) {
	p, m := on(t, 3, 4)
	write(t, p, m, 0, 4)
	write(t, p, m, 1, 4)
	says(t, "Join", m.Join(1, 0), api.OK)
	is(t, m, 0, api.Plain, own(0))
	for range 2 {
		says(t, "Seal", m.Seal(0), api.OK)
		is(t, m, 0, api.Plain, sealed(0))
		says(t, "Seal", m.Seal(1), api.OK)
		is(t, m, 1, api.Plain, sealed(0))
		refs(t, p, 0, 2)
	}
	write(t, p, m, 2, 1)
	says(t, "Give", m.Give(2), api.OK)
	ahead := seen(p, m)
	for _, n := range []int{2, 3, 4, 15} {
		says(t, fmt.Sprintf("Seal(%d)", n), m.Seal(n), api.ErrState)
	}
	if seen(p, m) != ahead {
		t.Errorf("errors changed the map: %s became %s", ahead, seen(p, m))
	}
}

// B3: a copy has the same pages in the same frames, on the other pool, and both go on apart.
func TestCopy(t *testing.T) {
	p, m := on(t, 4, 4)
	write(t, p, m, 0, 2)
	write(t, p, m, 1, 2)
	says(t, "Join", m.Join(1, 0), api.OK)
	says(t, "Give", m.Give(3), api.OK)
	q := p.Copy()
	c := m.Copy(q)
	first := seen(p, m)
	if c == m || seen(q, c) != first {
		t.Fatalf("a copy of %s is %s", first, seen(q, c))
	}
	change(t, m)
	if seen(q, c) != first {
		t.Errorf("changes of the map reach its copy: %s", seen(q, c))
	}
	changed := seen(p, m)
	change(t, c)
	if seen(q, c) != changed {
		t.Errorf("the copy goes another way: %s, not %s", seen(q, c), changed)
	}
	says(t, "Unplug", c.Unplug(1), api.OK)
	says(t, "Plug", c.Plug(15), api.OK)
	if seen(p, m) != changed {
		t.Errorf("changes of the copy reach the map: %s", seen(p, m))
	}
}

// change something of every kind.
func change(t *testing.T, m *leaves.Map) {
	t.Helper()
	touches(t, m, 1, true, 1, true)
	touches(t, m, 2, false, 2, false)
	says(t, "Back", m.Back(3), api.OK)
	says(t, "Plug", m.Plug(4), api.OK)
	says(t, "Seal", m.Seal(0), api.OK)
}
