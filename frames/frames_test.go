package frames_test

import (
	"fmt"
	"hash/fnv"
	"math"
	"testing"

	"undercroft/api"
	"undercroft/frames"
)

// The face of the package, as the chapter has it: another signature does not compile.
var (
	_ func(int) (*frames.Pool, error)               = frames.New
	_ func(*frames.Pool) int                        = (*frames.Pool).Size
	_ func(*frames.Pool) (int, error)               = (*frames.Pool).Take
	_ func(*frames.Pool, int) error                 = (*frames.Pool).Share
	_ func(*frames.Pool, int) error                 = (*frames.Pool).Drop
	_ func(*frames.Pool, int) (api.Frame, error)    = (*frames.Pool).Of
	_ func(*frames.Pool) int                        = (*frames.Pool).Left
	_ func(p *frames.Pool, f, at int) (byte, error) = (*frames.Pool).Get
	_ func(p *frames.Pool, f, at int, v byte) error = (*frames.Pool).Set
	_ func(p *frames.Pool, f, from int) error       = (*frames.Pool).Fill
	_ func(p *frames.Pool, f, g int) bool           = (*frames.Pool).Same
	_ func(*frames.Pool, int) (uint32, error)       = (*frames.Pool).Sum
	_ func(*frames.Pool) *frames.Pool               = (*frames.Pool).Copy
)

// pool of n frames of which the first so many are taken.
func pool(t *testing.T, n, taken int) *frames.Pool {
	t.Helper()
	p, err := frames.New(n)
	if err != nil || p == nil {
		t.Fatalf("New(%d): %v, %v", n, p, err)
	}
	for i := range taken {
		takes(t, p, i)
	}
	return p
}

// takes: the next frame that is taken is that one.
func takes(t *testing.T, p *frames.Pool, want int) {
	t.Helper()
	if f, err := p.Take(); f != want || err != nil {
		t.Fatalf("Take: %d, %v; wanted %d", f, err, want)
	}
}

// says: a bare error of package api, or none at all.
func says(t *testing.T, what string, err error, want api.Errno) {
	t.Helper()
	if want == api.OK {
		if err != nil {
			t.Errorf("%s: %v, wanted no error", what, err)
		}
		return
	}
	if e, ok := err.(api.Errno); !ok || e != want {
		t.Errorf("%s: %v, wanted error %d", what, err, int(want))
	}
}

// is: what Of tells of a frame.
func is(t *testing.T, p *frames.Pool, f, class, refs int) {
	t.Helper()
	want := api.Frame{Class: class, Refs: refs}
	if got, err := p.Of(f); got != want || err != nil {
		t.Errorf("Of(%d): %v, %v; wanted %v", f, got, err, want)
	}
}

// holds: what Get tells of a byte.
func holds(t *testing.T, p *frames.Pool, f, at int, want byte) {
	t.Helper()
	if got, err := p.Get(f, at); got != want || err != nil {
		t.Errorf("Get(%d, %d): %d, %v; wanted %d", f, at, got, err, want)
	}
}

// seen: all that a pool tells of itself.
func seen(p *frames.Pool) string {
	s := fmt.Sprint(p.Size(), p.Left())
	for f := range p.Size() {
		fr, _ := p.Of(f)
		s += fmt.Sprint(" ", fr)
		for at := range api.Page {
			v, _ := p.Get(f, at)
			s += fmt.Sprint(",", v)
		}
	}
	return s
}

// noFrames: numbers that are no frame's in a pool of n.
func noFrames(n int) []int {
	return []int{-1, n, n + 1, api.MaxFrames, math.MaxInt, math.MinInt, math.MinInt32, math.MaxUint32, 1 << 32}
}

// A1: New, Size, and Left of a pool that nothing is in.
func TestNewPools(t *testing.T) {
	for n := 1; n <= api.MaxFrames; n++ {
		p := pool(t, n, 0)
		if p.Size() != n || p.Left() != n {
			t.Errorf("New(%d): size %d, left %d", n, p.Size(), p.Left())
		}
		for f := range n {
			is(t, p, f, api.Free, 0)
		}
	}
}

// A1: New refuses numbers that are not from 1 to MaxFrames.
func TestNewOutOfBounds(t *testing.T) {
	for _, n := range []int{0, -1, api.MaxFrames + 1, math.MaxInt, math.MinInt, 1<<32 + 1} {
		p, err := frames.New(n)
		says(t, fmt.Sprintf("New(%d)", n), err, api.ErrBound)
		if p != nil {
			t.Errorf("New(%d): a pool beside the error", n)
		}
	}
}

// A1: Take gives frames from the lowest on, all of them, then ErrFull.
func TestTakeAll(t *testing.T) {
	for _, n := range []int{1, 2, 7, api.MaxFrames} {
		p := pool(t, n, 0)
		for f := range n {
			takes(t, p, f)
			is(t, p, f, api.Guest, 1)
			if p.Left() != n-f-1 || p.Size() != n {
				t.Errorf("behind Take %d of %d: left %d, size %d", f, n, p.Left(), p.Size())
			}
		}
		ahead := seen(p)
		f, err := p.Take()
		says(t, "Take of a full pool", err, api.ErrFull)
		if f != 0 || seen(p) != ahead {
			t.Errorf("Take of a full pool: %d; %s became %s", f, ahead, seen(p))
		}
	}
}

// A1: the lowest free frame is taken, whichever became free last.
func TestTakeLowest(t *testing.T) {
	p := pool(t, 5, 5)
	for _, f := range []int{3, 1, 4} {
		says(t, "Drop", p.Drop(f), api.OK)
	}
	for _, f := range []int{1, 3, 4} {
		takes(t, p, f)
	}
}

// A1: a frame that is taken again has noughts alone.
func TestTakeIsNoughts(t *testing.T) {
	p := pool(t, 2, 2)
	for at := range api.Page {
		says(t, "Set", p.Set(0, at, byte(200+at)), api.OK)
		says(t, "Set", p.Set(1, at, byte(100+at)), api.OK)
	}
	says(t, "Drop", p.Drop(0), api.OK)
	takes(t, p, 0)
	for at := range api.Page {
		holds(t, p, 0, at, 0)
		holds(t, p, 1, at, byte(100+at))
	}
}

// A1: Share and Drop count the pages of that frame alone; bytes stay while one is in it.
func TestShareAndDrop(t *testing.T) {
	p := pool(t, 3, 2)
	says(t, "Set", p.Set(1, 4, 9), api.OK)
	for refs := 2; refs < 80; refs++ {
		says(t, "Share", p.Share(1), api.OK)
		is(t, p, 1, api.Shared, refs)
	}
	for refs := 78; refs > 1; refs-- {
		says(t, "Drop", p.Drop(1), api.OK)
		is(t, p, 1, api.Shared, refs)
		if p.Left() != 1 {
			t.Errorf("left %d, wanted 1", p.Left())
		}
	}
	says(t, "Drop", p.Drop(1), api.OK)
	is(t, p, 1, api.Guest, 1)
	holds(t, p, 1, 4, 9)
	says(t, "Drop", p.Drop(1), api.OK)
	is(t, p, 1, api.Free, 0)
	is(t, p, 0, api.Guest, 1)
	is(t, p, 2, api.Free, 0)
	if p.Left() != 2 {
		t.Errorf("left %d, wanted 2", p.Left())
	}
}

// A1: Share and Drop say ErrNone, Of says ErrBound, of what is no frame; a free one is one to Of.
func TestNoFrameOrFree(t *testing.T) {
	for _, n := range []int{1, 3, api.MaxFrames} {
		p := pool(t, n, n-1)
		ahead := seen(p)
		for _, f := range append(noFrames(n), n-1) {
			says(t, fmt.Sprintf("Share(%d)", f), p.Share(f), api.ErrNone)
			says(t, fmt.Sprintf("Drop(%d)", f), p.Drop(f), api.ErrNone)
		}
		for _, f := range noFrames(n) {
			fr, err := p.Of(f)
			says(t, fmt.Sprintf("Of(%d)", f), err, api.ErrBound)
			if fr != (api.Frame{}) {
				t.Errorf("Of(%d): %v beside the error", f, fr)
			}
		}
		is(t, p, n-1, api.Free, 0)
		if seen(p) != ahead {
			t.Errorf("errors changed the pool: %s became %s", ahead, seen(p))
		}
	}
}

// A2: each byte of each frame is its own.
func TestGetAndSet(t *testing.T) {
	p := pool(t, api.MaxFrames, api.MaxFrames)
	for f := range p.Size() {
		for at := range api.Page {
			says(t, "Set", p.Set(f, at, byte(f*31+at*7)), api.OK)
		}
	}
	says(t, "Set", p.Set(63, 15, 255), api.OK)
	for f := range p.Size() {
		for at := range api.Page {
			want := byte(f*31 + at*7)
			if f == 63 && at == 15 {
				want = 255
			}
			holds(t, p, f, at, want)
		}
	}
}

// A2: the errors of Get and Set, and which of several is told.
func TestGetAndSetErrors(t *testing.T) {
	p := pool(t, 4, 3)
	says(t, "Set", p.Set(1, 0, 5), api.OK)
	says(t, "Share", p.Share(1), api.OK)
	ahead := seen(p)
	anyFrame := append(noFrames(4), 0, 1, 3)
	for _, at := range []int{-1, api.Page, api.Page + 1, math.MaxInt, math.MinInt, 1 << 32} {
		for _, f := range anyFrame {
			v, err := p.Get(f, at)
			says(t, fmt.Sprintf("Get(%d, %d)", f, at), err, api.ErrBound)
			if v != 0 {
				t.Errorf("Get(%d, %d): %d beside the error", f, at, v)
			}
			says(t, fmt.Sprintf("Set(%d, %d)", f, at), p.Set(f, at, 1), api.ErrBound)
		}
	}
	for at := range api.Page {
		for _, f := range append(noFrames(4), 3) {
			v, err := p.Get(f, at)
			says(t, fmt.Sprintf("Get(%d, %d)", f, at), err, api.ErrNone)
			if v != 0 {
				t.Errorf("Get(%d, %d): %d beside the error", f, at, v)
			}
			says(t, fmt.Sprintf("Set(%d, %d)", f, at), p.Set(f, at, 1), api.ErrNone)
		}
		says(t, "Set of a shared frame", p.Set(1, at, 1), api.ErrHeld)
	}
	holds(t, p, 1, 0, 5)
	if seen(p) != ahead {
		t.Errorf("errors changed the pool: %s became %s", ahead, seen(p))
	}
}

// A2: Set is let again when one page alone is left.
func TestSetBehindDrop(t *testing.T) {
	p := pool(t, 1, 1)
	says(t, "Share", p.Share(0), api.OK)
	says(t, "Set", p.Set(0, 0, 3), api.ErrHeld)
	says(t, "Drop", p.Drop(0), api.OK)
	says(t, "Set", p.Set(0, 0, 3), api.OK)
	holds(t, p, 0, 0, 3)
}

// A2: bytes of a dropped frame are not told.
func TestFreeFrameTellsNothing(t *testing.T) {
	p := pool(t, 2, 2)
	says(t, "Set", p.Set(0, 0, 3), api.OK)
	says(t, "Drop", p.Drop(0), api.OK)
	v, err := p.Get(0, 0)
	says(t, "Get", err, api.ErrNone)
	h, err := p.Sum(0)
	says(t, "Sum", err, api.ErrNone)
	if v != 0 || h != 0 {
		t.Errorf("a free frame: byte %d, sum %d", v, h)
	}
	says(t, "Fill from it", p.Fill(1, 0), api.ErrNone)
	says(t, "Fill of it", p.Fill(0, 1), api.ErrNone)
}

// A2: Fill brings all bytes over, once: both go on apart.
func TestFill(t *testing.T) {
	p := pool(t, 3, 3)
	for at := range api.Page {
		says(t, "Set", p.Set(1, at, byte(at+1)), api.OK)
		says(t, "Set", p.Set(2, at, byte(at+50)), api.OK)
	}
	says(t, "Share", p.Share(1), api.OK)
	says(t, "Fill from a shared frame", p.Fill(2, 1), api.OK)
	is(t, p, 1, api.Shared, 2)
	is(t, p, 2, api.Guest, 1)
	for at := range api.Page {
		holds(t, p, 0, at, 0)
		holds(t, p, 1, at, byte(at+1))
		holds(t, p, 2, at, byte(at+1))
	}
	says(t, "Set", p.Set(2, 0, 99), api.OK)
	holds(t, p, 1, 0, 1)
	says(t, "Fill with itself", p.Fill(2, 2), api.OK)
	holds(t, p, 2, 0, 99)
	holds(t, p, 2, 15, 16)
}

// A2: the errors of Fill, and which of several is told.
func TestFillErrors(t *testing.T) {
	p := pool(t, 4, 3)
	says(t, "Set", p.Set(0, 0, 7), api.OK)
	says(t, "Share", p.Share(1), api.OK)
	ahead := seen(p)
	for _, none := range append(noFrames(4), 3) {
		for _, f := range []int{0, 1, 2, 3, none} {
			says(t, fmt.Sprintf("Fill(%d, %d)", f, none), p.Fill(f, none), api.ErrNone)
			says(t, fmt.Sprintf("Fill(%d, %d)", none, f), p.Fill(none, f), api.ErrNone)
		}
	}
	for _, from := range []int{0, 1, 2} {
		says(t, fmt.Sprintf("Fill(1, %d)", from), p.Fill(1, from), api.ErrHeld)
	}
	if seen(p) != ahead {
		t.Errorf("errors changed the pool: %s became %s", ahead, seen(p))
	}
}

// A2: Same holds all bytes against each other.
func TestSame(t *testing.T) {
	p := pool(t, 4, 3)
	for at := range api.Page {
		if !p.Same(0, 1) || !p.Same(1, 0) || !p.Same(0, 0) {
			t.Fatalf("ahead of byte %d: frames with the same bytes are not the same", at)
		}
		says(t, "Set", p.Set(1, at, 128), api.OK)
		if p.Same(0, 1) || p.Same(1, 0) || !p.Same(1, 1) {
			t.Errorf("frames that differ at byte %d are the same", at)
		}
		says(t, "Set", p.Set(0, at, 128), api.OK)
	}
	says(t, "Share", p.Share(0), api.OK)
	if !p.Same(0, 1) || p.Same(0, 2) {
		t.Error("how many pages are in a frame is not among its bytes")
	}
}

// A2: Same is false of what is no frame, or free, also of the same twice.
func TestSameOfNone(t *testing.T) {
	p := pool(t, 4, 2)
	for _, none := range append(noFrames(4), 2, 3) {
		for _, f := range []int{0, 1, 2, 3, none} {
			if p.Same(f, none) || p.Same(none, f) {
				t.Errorf("Same of %d and %d", f, none)
			}
		}
	}
}

// A2: Sum, held against the library's; its errors.
func TestSum(t *testing.T) {
	p := pool(t, 2, 1)
	d := die(5)
	for range 300 {
		says(t, "Set", p.Set(0, d.n(api.Page), byte(d.n(256))), api.OK)
		h := fnv.New32a()
		for at := range api.Page {
			v, _ := p.Get(0, at)
			h.Write([]byte{v})
		}
		if got, err := p.Sum(0); got != h.Sum32() || err != nil {
			t.Fatalf("Sum: %d, %v; wanted %d", got, err, h.Sum32())
		}
	}
	for _, f := range append(noFrames(2), 1) {
		got, err := p.Sum(f)
		says(t, fmt.Sprintf("Sum(%d)", f), err, api.ErrNone)
		if got != 0 {
			t.Errorf("Sum(%d): %d beside the error", f, got)
		}
	}
}

// A2: Sum of noughts, worked out apart; sharing a frame does not change it.
func TestSumOfNoughts(t *testing.T) {
	p := pool(t, 1, 1)
	want := uint64(2166136261)
	for range api.Page {
		want = want * 16777619 % (1 << 32)
	}
	for range 2 {
		if got, err := p.Sum(0); uint64(got) != want || err != nil {
			t.Errorf("Sum: %d, %v; wanted %d", got, err, want)
		}
		says(t, "Share", p.Share(0), api.OK)
	}
}

// A2: a copy has all that the pool has, and both go on apart.
func TestCopy(t *testing.T) {
	p := pool(t, 4, 3)
	says(t, "Set", p.Set(0, 3, 8), api.OK)
	says(t, "Share", p.Share(1), api.OK)
	c, first := p.Copy(), seen(p)
	if c == p || seen(c) != first {
		t.Fatalf("a copy of %s is %s", first, seen(c))
	}
	change(t, p)
	if seen(c) != first {
		t.Errorf("changes of the pool reach its copy: %s", seen(c))
	}
	changed := seen(p)
	change(t, c)
	if seen(c) != changed {
		t.Errorf("the copy goes another way: %s, not %s", seen(c), changed)
	}
	says(t, "Drop", c.Drop(0), api.OK)
	says(t, "Set", c.Set(3, 0, 77), api.OK)
	if seen(p) != changed {
		t.Errorf("changes of the copy reach the pool: %s", seen(p))
	}
}

// change something of every kind.
func change(t *testing.T, p *frames.Pool) {
	t.Helper()
	takes(t, p, 3)
	says(t, "Set", p.Set(0, 3, 9), api.OK)
	says(t, "Share", p.Share(1), api.OK)
	says(t, "Fill", p.Fill(2, 0), api.OK)
}
