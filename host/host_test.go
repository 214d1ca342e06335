package host_test

import (
	"fmt"
	"math"
	"slices"
	"testing"

	"undercroft/api"
	"undercroft/host"
)

// The face of the package, as the chapter has it: another signature does not compile.
var (
	_ func(int) (*host.Host, error)                     = host.New
	_ func(*host.Host) (int, error)                     = (*host.Host).Add
	_ func(*host.Host, int) error                       = (*host.Host).Remove
	_ func(*host.Host) int                              = (*host.Host).Promised
	_ func(h *host.Host, n, block int) error            = (*host.Host).Plug
	_ func(h *host.Host, n, block int) error            = (*host.Host).Unplug
	_ func(h *host.Host, n, page int) error             = (*host.Host).Give
	_ func(h *host.Host, n, page int) error             = (*host.Host).Back
	_ func(h *host.Host, n, addr int) (byte, error)     = (*host.Host).Load
	_ func(h *host.Host, n, addr int, v byte) error     = (*host.Host).Store
	_ func(h *host.Host, n, page int) error             = (*host.Host).SetRoot
	_ func(h *host.Host, n, addr int) error             = (*host.Host).Forget
	_ func(h *host.Host, n, root int) error             = (*host.Host).ForgetAll
	_ func(h *host.Host, n, page int) (bool, error)     = (*host.Host).Scan
	_ func(*host.Host) int                              = (*host.Host).ScanAll
	_ func(*host.Host, int) (api.Frame, error)          = (*host.Host).Frame
	_ func(*host.Host) int                              = (*host.Host).Left
	_ func(h *host.Host, n, page int) (int, error)      = (*host.Host).State
	_ func(h *host.Host, n, page int) (api.Leaf, error) = (*host.Host).Leaf
	_ func(*host.Host, int) ([]api.Entry, error)        = (*host.Host).Cached
	_ func(*host.Host) []int                            = (*host.Host).Guests
	_ func(*host.Host) *host.Host                       = (*host.Host).Copy
)

// wild: numbers that are nothing's.
var wild = []int{math.MaxInt, math.MinInt, math.MaxInt32, math.MinInt32, math.MaxUint32, 1 << 32, 1 << 60, -1 << 60}

// beyond: numbers below 0, from most on, and wild ones.
func beyond(most int) []int { return append([]int{-1, -2, most, most + 1}, wild...) }

// says: a bare error of package api, or none at all.
func says(t *testing.T, what string, err error, want api.Errno) {
	t.Helper()
	if want == api.OK {
		if err != nil {
			t.Errorf("%s: %v, wanted no error", what, err)
		}
		return
	}
	if e, ok := err.(api.Errno); !ok || e != want {
		t.Errorf("%s: %v, wanted error %d", what, err, int(want))
	}
}

// of: a host of so many frames without guests.
func of(t *testing.T, size int) *host.Host {
	t.Helper()
	h, err := host.New(size)
	if err != nil || h == nil {
		t.Fatalf("New(%d): %v, %v", size, h, err)
	}
	return h
}

// with: a host of so many frames, and of a guest for each number, that has so many blocks from the first one on.
func with(t *testing.T, size int, blocks ...int) *host.Host {
	t.Helper()
	h := of(t, size)
	for n, l := range blocks {
		adds(t, h, n)
		for block := range l {
			plugs(t, h, n, block)
		}
	}
	return h
}

// adds a guest of that number.
func adds(t *testing.T, h *host.Host, want int) {
	t.Helper()
	if n, err := h.Add(); n != want || err != nil {
		t.Errorf("Add: %d, %v; wanted %d", n, err, want)
	}
}

func plugs(t *testing.T, h *host.Host, n, block int) {
	t.Helper()
	says(t, fmt.Sprintf("Plug(%d, %d)", n, block), h.Plug(n, block), api.OK)
}

func unplugs(t *testing.T, h *host.Host, n, block int) {
	t.Helper()
	says(t, fmt.Sprintf("Unplug(%d, %d)", n, block), h.Unplug(n, block), api.OK)
}

func gives(t *testing.T, h *host.Host, n, page int) {
	t.Helper()
	says(t, fmt.Sprintf("Give(%d, %d)", n, page), h.Give(n, page), api.OK)
}

func backs(t *testing.T, h *host.Host, n, page int) {
	t.Helper()
	says(t, fmt.Sprintf("Back(%d, %d)", n, page), h.Back(n, page), api.OK)
}

func roots(t *testing.T, h *host.Host, n, page int) {
	t.Helper()
	says(t, fmt.Sprintf("SetRoot(%d, %d)", n, page), h.SetRoot(n, page), api.OK)
}

func loads(t *testing.T, h *host.Host, n, addr int, want byte) {
	t.Helper()
	if v, err := h.Load(n, addr); v != want || err != nil {
		t.Errorf("Load(%d, %d): %d, %v; wanted %d", n, addr, v, err, want)
	}
}

func stores(t *testing.T, h *host.Host, n, addr int, v byte) {
	t.Helper()
	says(t, fmt.Sprintf("Store(%d, %d, %d)", n, addr, v), h.Store(n, addr, v), api.OK)
}

func scans(t *testing.T, h *host.Host, n, page int, want bool) {
	t.Helper()
	if got, err := h.Scan(n, page); got != want || err != nil {
		t.Errorf("Scan(%d, %d): %v, %v; wanted %v", n, page, got, err, want)
	}
}

func scansAll(t *testing.T, h *host.Host, want int) {
	t.Helper()
	if got := h.ScanAll(); got != want {
		t.Errorf("ScanAll: %d, wanted %d", got, want)
	}
}

// counts: what Promised and Left tell.
func counts(t *testing.T, h *host.Host, promised, left int) {
	t.Helper()
	if h.Promised() != promised || h.Left() != left {
		t.Errorf("promised %d, left %d; wanted %d, %d", h.Promised(), h.Left(), promised, left)
	}
}

func guests(t *testing.T, h *host.Host, want ...int) {
	t.Helper()
	if got := h.Guests(); !slices.Equal(got, want) {
		t.Errorf("Guests: %v, wanted %v", got, want)
	}
}

// is: what State and Leaf tell of a page.
func is(t *testing.T, h *host.Host, n, page, state int, leaf api.Leaf) {
	t.Helper()
	if got, err := h.State(n, page); got != state || err != nil {
		t.Errorf("State(%d, %d): %d, %v; wanted %d", n, page, got, err, state)
	}
	if got, err := h.Leaf(n, page); got != leaf || err != nil {
		t.Errorf("Leaf(%d, %d): %v, %v; wanted %v", n, page, got, err, leaf)
	}
}

// frame: so many pages are in it.
func frame(t *testing.T, h *host.Host, f, refs int) {
	t.Helper()
	want := api.Frame{Class: min(refs, api.Shared), Refs: refs}
	if got, err := h.Frame(f); got != want || err != nil {
		t.Errorf("Frame(%d): %v, %v; wanted %v", f, got, err, want)
	}
}

// remembers these entries alone, the eldest first.
func remembers(t *testing.T, h *host.Host, n int, want ...api.Entry) {
	t.Helper()
	if got, err := h.Cached(n); !slices.Equal(got, want) || err != nil {
		t.Errorf("Cached(%d): %v, %v; wanted %v", n, got, err, want)
	}
}

// nowhere, own, sealed: the three kinds of leaves.
var nowhere = api.Leaf{}

func own(frame int) api.Leaf { return api.Leaf{There: true, Write: true, Frame: frame} }

func sealed(frame int) api.Leaf { return api.Leaf{There: true, Frame: frame} }

// seen: all that a host tells of itself.
func seen(h *host.Host) string {
	s := fmt.Sprint(h.Guests(), h.Promised(), h.Left())
	for f := -1; f <= api.MaxFrames; f++ {
		fr, err := h.Frame(f)
		s += fmt.Sprint(" ", fr, err)
	}
	for n := -1; n <= api.MaxGuests; n++ {
		l, err := h.Cached(n)
		s += fmt.Sprint("; ", n, l, err)
		for page := -1; page <= api.Pages; page++ {
			state, e := h.State(n, page)
			leaf, x := h.Leaf(n, page)
			s += fmt.Sprint(" ", state, e, leaf, x)
		}
	}
	return s + inside(h)
}

// inside: the bytes of all pages that are in a frame, as a copy tells them, and what its tables lead to.
func inside(h *host.Host) string {
	c := h.Copy()
	s := ""
	for _, n := range h.Guests() {
		s += "; "
		for addr := 0; addr <= api.MaxAddr; addr += api.Page {
			v, err := c.Load(n, addr)
			s += fmt.Sprint(v, err, " ")
		}
		_ = c.SetRoot(n, -1)
		for addr := range api.MaxAddr + 1 {
			if leaf, _ := h.Leaf(n, addr/api.Page); leaf.There {
				v, _ := c.Load(n, addr)
				s += string([]byte{v})
			}
		}
	}
	return s
}

// same: a host tells what it told ahead.
func same(t *testing.T, what string, h *host.Host, ahead string) {
	t.Helper()
	if got := seen(h); got != ahead {
		t.Errorf("%s: %q, wanted %q", what, got, ahead)
	}
}

// E1: a new host has its frames, all free, and nothing else.
func TestNew(t *testing.T) {
	for _, size := range []int{1, 2, 10, api.MaxFrames - 1, api.MaxFrames} {
		h := of(t, size)
		counts(t, h, 0, size)
		guests(t, h)
		frame(t, h, size-1, 0)
		_, err := h.Frame(size)
		says(t, "Frame", err, api.ErrBound)
		scansAll(t, h, 0)
	}
}

// E1: New says what frames.New says.
func TestNewOfNoSize(t *testing.T) {
	for _, size := range append(beyond(api.MaxFrames+1), 0) {
		h, err := host.New(size)
		says(t, fmt.Sprintf("New(%d)", size), err, api.ErrBound)
		if h != nil {
			t.Errorf("New(%d): a host beside the error", size)
		}
	}
}

// E1: guests have the numbers from 0 to MaxGuests less 1, in that order.
func TestAdd(t *testing.T) {
	h := of(t, 3)
	for n := range api.MaxGuests {
		adds(t, h, n)
		guests(t, h, []int{0, 1, 2, 3}[:n+1]...)
		for page := range api.Pages {
			is(t, h, n, page, api.Absent, nowhere)
		}
		remembers(t, h, n)
	}
	counts(t, h, 0, 3)
	ahead := seen(h)
	n, err := h.Add()
	says(t, "Add", err, api.ErrHeld)
	if n != 0 {
		t.Errorf("Add: %d beside the error", n)
	}
	same(t, "Add without a number", h, ahead)
}

// E1: the lowest free number is the next one's, whoever had it.
func TestAddLowest(t *testing.T) {
	h := with(t, 4, 0, 0, 0, 0)
	for _, n := range []int{2, 0, 3} {
		says(t, "Remove", h.Remove(n), api.OK)
	}
	guests(t, h, 1)
	adds(t, h, 0)
	guests(t, h, 0, 1)
	adds(t, h, 2)
	adds(t, h, 3)
	guests(t, h, 0, 1, 2, 3)
	says(t, "Remove", h.Remove(1), api.OK)
	guests(t, h, 0, 2, 3)
	adds(t, h, 1)
}

// calls: each call that names a guest, and what it answers beside the error.
func calls(h *host.Host, n, x int) map[string]func() (any, error) {
	none := func(call func(int, int) error) func() (any, error) {
		return func() (any, error) { return nil, call(n, x) }
	}
	return map[string]func() (any, error){
		"Remove":    func() (any, error) { return nil, h.Remove(n) },
		"Plug":      none(h.Plug),
		"Unplug":    none(h.Unplug),
		"Give":      none(h.Give),
		"Back":      none(h.Back),
		"SetRoot":   none(h.SetRoot),
		"Forget":    none(h.Forget),
		"ForgetAll": none(h.ForgetAll),
		"Store":     func() (any, error) { return nil, h.Store(n, x, 7) },
		"Load":      func() (any, error) { v, err := h.Load(n, x); return v, err },
		"Scan":      func() (any, error) { v, err := h.Scan(n, x); return v, err },
		"State":     func() (any, error) { v, err := h.State(n, x); return v, err },
		"Leaf":      func() (any, error) { v, err := h.Leaf(n, x); return v, err },
		"Cached":    func() (any, error) { l, err := h.Cached(n); return len(l), err },
	}
}

// refused: a call answers that error, nothing beside it, and changes nothing.
func refused(t *testing.T, h *host.Host, what string, call func() (any, error), want api.Errno) {
	t.Helper()
	ahead := seen(h)
	v, err := call()
	says(t, what, err, want)
	if v != nil && v != 0 && v != false && v != byte(0) && v != nowhere {
		t.Errorf("%s: %v beside the error", what, v)
	}
	same(t, what, h, ahead)
}

// E1, Z1, Z3: of all that name a guest: no such number goes ahead of no such guest, and both ahead of all else.
func TestNoGuest(t *testing.T) {
	h := with(t, 10, 1, 0, 1)
	stores(t, h, 0, 5, 7)
	stores(t, h, 2, 5, 7)
	says(t, "Remove", h.Remove(1), api.OK)
	for _, x := range []int{0, 5, -1, -2, math.MaxInt, math.MinInt} {
		for _, n := range beyond(api.MaxGuests) {
			for what, call := range calls(h, n, x) {
				refused(t, h, fmt.Sprintf("%s(%d, %d)", what, n, x), call, api.ErrBound)
			}
		}
		for _, n := range []int{1, 3} {
			for what, call := range calls(h, n, x) {
				refused(t, h, fmt.Sprintf("%s(%d, %d)", what, n, x), call, api.ErrNone)
			}
		}
	}
}

// Z1, Z3: of a guest that is there, wrong pages, blocks, addresses and roots are ErrBound.
func TestBounds(t *testing.T) {
	h := with(t, 10, 1, 1)
	stores(t, h, 0, 5, 7)
	stores(t, h, 1, 5, 7)
	wrong := map[string][]int{
		"Plug":      beyond(api.Pages / api.Block),
		"Unplug":    beyond(api.Pages / api.Block),
		"Give":      beyond(api.Pages),
		"Back":      beyond(api.Pages),
		"Scan":      beyond(api.Pages),
		"State":     beyond(api.Pages),
		"Leaf":      beyond(api.Pages),
		"ForgetAll": beyond(api.Pages),
		"SetRoot":   beyond(api.Pages)[1:],
		"Load":      beyond(api.MaxAddr + 1),
		"Store":     beyond(api.MaxAddr + 1),
		"Forget":    beyond(api.MaxAddr + 1),
	}
	for what, l := range wrong {
		for _, x := range l {
			for n := range 2 {
				refused(t, h, fmt.Sprintf("%s(%d, %d)", what, n, x), calls(h, n, x)[what], api.ErrBound)
			}
		}
	}
}

// E1: a guest that is removed leaves its frames and what was promised it; a new one of its number has nothing of it.
func TestRemove(t *testing.T) {
	h := with(t, 12, 2, 1)
	for n := range 2 {
		stores(t, h, n, 0, 192)
		stores(t, h, n, 17, byte(3+n))
		roots(t, h, n, 0)
		loads(t, h, n, 3, 0)
	}
	gives(t, h, 0, 7)
	scansAll(t, h, 1)
	counts(t, h, 11, 9)
	frame(t, h, 0, 2)
	says(t, "Remove", h.Remove(0), api.OK)
	counts(t, h, 4, 10)
	frame(t, h, 0, 1)
	frame(t, h, 1, 0)
	guests(t, h, 1)
	remembers(t, h, 1, api.Entry{May: true, Leaf: sealed(0)})
	stores(t, h, 1, 3, 9)
	is(t, h, 1, 0, api.Plain, own(0))
	adds(t, h, 0)
	remembers(t, h, 0)
	for page := range api.Pages {
		is(t, h, 0, page, api.Absent, nowhere)
	}
	_, err := h.Load(0, 0)
	says(t, "Load", err, api.ErrNone)
	plugs(t, h, 0, 0)
	loads(t, h, 0, 17, 0)
	loads(t, h, 0, 0, 0)
}

// E2: a block is Block pages from Block times its number on, and they alone are plugged, and unplugged.
func TestPlug(t *testing.T) {
	for block := range api.Pages / api.Block {
		h := with(t, 9, 0, 0)
		plugs(t, h, 1, block)
		counts(t, h, api.Block, 9)
		for page := range api.Pages {
			want := api.Absent
			if page/api.Block == block {
				want = api.Plain
			}
			is(t, h, 1, page, want, nowhere)
			is(t, h, 0, page, api.Absent, nowhere)
		}
		stores(t, h, 1, 16*(4*block+3), 7)
		counts(t, h, api.Block, 8)
		unplugs(t, h, 1, block)
		counts(t, h, 0, 9)
		for page := range api.Pages {
			is(t, h, 1, page, api.Absent, nowhere)
		}
		plugs(t, h, 1, block)
		loads(t, h, 1, 16*(4*block+3), 0)
	}
}

// E2: a block is plugged once, also if all its pages were given away, and with no frame to promise.
func TestPlugHeld(t *testing.T) {
	h := with(t, 4, 1)
	held := func() (any, error) { return nil, h.Plug(0, 0) }
	refused(t, h, "Plug again", held, api.ErrHeld)
	for page := range api.Block {
		gives(t, h, 0, page)
		refused(t, h, "Plug of given pages", held, api.ErrHeld)
	}
	counts(t, h, 0, 4)
	unplugs(t, h, 0, 0)
	plugs(t, h, 0, 0)
}

// E2: an absent block, of which there is none to be unplugged.
func TestUnplugNone(t *testing.T) {
	h := with(t, 16, 1)
	stores(t, h, 0, 0, 1)
	for block := 1; block < api.Pages/api.Block; block++ {
		refused(t, h, "Unplug", func() (any, error) { return nil, h.Unplug(0, block) }, api.ErrNone)
	}
	unplugs(t, h, 0, 0)
	refused(t, h, "Unplug again", func() (any, error) { return nil, h.Unplug(0, 0) }, api.ErrNone)
}

// E2: pages of all kinds are unplugged: plain, touched, shared, given.
func TestUnplugKinds(t *testing.T) {
	h := with(t, 10, 2)
	stores(t, h, 0, 16, 7)
	stores(t, h, 0, 32, 9)
	stores(t, h, 0, 64, 9)
	gives(t, h, 0, 3)
	scansAll(t, h, 1)
	counts(t, h, 7, 8)
	frame(t, h, 1, 2)
	unplugs(t, h, 0, 0)
	counts(t, h, 4, 9)
	frame(t, h, 0, 0)
	frame(t, h, 1, 1)
	for page := range api.Block {
		is(t, h, 0, page, api.Absent, nowhere)
	}
	loads(t, h, 0, 64, 9)
}

// E2: no more is promised than there are frames, of all guests together; as many are.
func TestCommit(t *testing.T) {
	for size := 1; size <= 16; size++ {
		h := with(t, size, 0, 0, 0)
		for block := range 4 {
			n := block % 3
			if 4*block+4 <= size {
				plugs(t, h, n, block)
				continue
			}
			refused(t, h, "Plug", func() (any, error) { return nil, h.Plug(n, block) }, api.ErrCommit)
		}
		counts(t, h, size/4*4, size)
	}
}

// E2: what hangs together: pages that are given away, unplugged or go with their guest are promised no more.
func TestPromised(t *testing.T) {
	h := with(t, 8, 1, 1)
	plug := func() (any, error) { return nil, h.Plug(0, 1) }
	refused(t, h, "Plug", plug, api.ErrCommit)
	for page := range 3 {
		gives(t, h, 1, page)
		counts(t, h, 7-page, 8)
		refused(t, h, "Plug", plug, api.ErrCommit)
	}
	gives(t, h, 1, 3)
	plugs(t, h, 0, 1)
	counts(t, h, 8, 8)
	unplugs(t, h, 1, 0)
	counts(t, h, 8, 8)
	unplugs(t, h, 0, 0)
	counts(t, h, 4, 8)
	says(t, "Remove", h.Remove(0), api.OK)
	counts(t, h, 0, 8)
}

// E2: Give is the guest's: what it had there is gone.
func TestGive(t *testing.T) {
	h := with(t, 4, 1)
	stores(t, h, 0, 5, 7)
	gives(t, h, 0, 0)
	counts(t, h, 3, 4)
	is(t, h, 0, 0, api.Given, nowhere)
	give := func(page int) func() (any, error) { return func() (any, error) { return nil, h.Give(0, page) } }
	refused(t, h, "Give again", give(0), api.ErrState)
	refused(t, h, "Give of an absent page", give(4), api.ErrState)
	_, err := h.Load(0, 5)
	says(t, "Load", err, api.ErrGone)
	says(t, "Store", h.Store(0, 5, 1), api.ErrGone)
	backs(t, h, 0, 0)
	counts(t, h, 4, 4)
	loads(t, h, 0, 5, 0)
}

// E2: Back is refused where as many are promised as there are frames; of a page that isn't given, ErrState goes on.
func TestBack(t *testing.T) {
	h := with(t, 5, 1, 0)
	back := func(n, page int) func() (any, error) { return func() (any, error) { return nil, h.Back(n, page) } }
	gives(t, h, 0, 0)
	gives(t, h, 0, 1)
	gives(t, h, 0, 2)
	plugs(t, h, 1, 2)
	counts(t, h, 5, 5)
	refused(t, h, "Back", back(0, 0), api.ErrCommit)
	refused(t, h, "Back of a plain page", back(0, 3), api.ErrState)
	refused(t, h, "Back of an absent page", back(0, 4), api.ErrState)
	refused(t, h, "Back of another guest's", back(1, 0), api.ErrState)
	refused(t, h, "Back of no page", back(0, 16), api.ErrBound)
	gives(t, h, 1, 8)
	backs(t, h, 0, 2)
	is(t, h, 0, 2, api.Plain, nowhere)
	refused(t, h, "Back", back(0, 0), api.ErrCommit)
	refused(t, h, "Back", back(1, 8), api.ErrCommit)
	unplugs(t, h, 1, 2)
	backs(t, h, 0, 0)
	refused(t, h, "Back again", back(0, 0), api.ErrState)
	backs(t, h, 0, 1)
	counts(t, h, 4, 5)
}

// E3: loads and stores, tables, and what is remembered are the guest's of that number, and the frames are the pool's.
func TestGuests(t *testing.T) {
	h := with(t, 20, 1, 1, 1)
	for n := range 3 {
		stores(t, h, n, 1, byte(192+n+1))
		roots(t, h, n, 0)
		stores(t, h, n, 16+5, byte(70+n))
		frame(t, h, 2*n, 1)
		frame(t, h, 2*n+1, 1)
		is(t, h, n, n+1, api.Plain, own(2*n+1))
	}
	counts(t, h, 12, 14)
	for n := range 3 {
		loads(t, h, n, 16+5, byte(70+n))
		remembers(t, h, n, api.Entry{Page: 1, To: n + 1, May: true, Leaf: own(2*n + 1)})
		_, err := h.Load(n, 0)
		says(t, "Load", err, api.ErrFault)
	}
	says(t, "Forget", h.Forget(1, 16), api.OK)
	says(t, "ForgetAll", h.ForgetAll(2, 1), api.OK)
	remembers(t, h, 0, api.Entry{Page: 1, To: 1, May: true, Leaf: own(1)})
	remembers(t, h, 1)
	remembers(t, h, 2, api.Entry{Page: 1, To: 3, May: true, Leaf: own(5)})
	says(t, "ForgetAll", h.ForgetAll(2, 0), api.OK)
	remembers(t, h, 2)
	for _, f := range beyond(20) {
		fr, err := h.Frame(f)
		says(t, fmt.Sprintf("Frame(%d)", f), err, api.ErrBound)
		if fr != (api.Frame{}) {
			t.Errorf("Frame(%d): %v beside the error", f, fr)
		}
	}
}

// E3, Z2: what Cached and Guests answer is the caller's.
func TestFresh(t *testing.T) {
	h := with(t, 8, 1, 1)
	stores(t, h, 0, 0, 193)
	roots(t, h, 0, 0)
	loads(t, h, 0, 0, 0)
	ahead := seen(h)
	l, _ := h.Cached(0)
	other, _ := h.Cached(0)
	g := h.Guests()
	l[0].To = 9
	_ = append(l[:0], api.Entry{To: 8}, api.Entry{To: 7})
	g[0] = 3
	_ = append(g[:1], 2, 2)
	if other[0].To != 1 {
		t.Errorf("two lists share memory: %v", other)
	}
	same(t, "lists were written into", h, ahead)
}
