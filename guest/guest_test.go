package guest_test

import (
	"fmt"
	"math"
	"slices"
	"testing"

	"undercroft/api"
	"undercroft/frames"
	"undercroft/guest"
)

// The face of the package, as the chapter has it: another signature does not compile.
var (
	_ func(*frames.Pool) (*guest.Guest, error)      = guest.New
	_ func(*guest.Guest) int                        = (*guest.Guest).Root
	_ func(*guest.Guest, int) error                 = (*guest.Guest).SetRoot
	_ func(*guest.Guest, int) error                 = (*guest.Guest).Forget
	_ func(*guest.Guest, int) error                 = (*guest.Guest).ForgetAll
	_ func(*guest.Guest, int) (byte, error)         = (*guest.Guest).Load
	_ func(*guest.Guest, int, byte) error           = (*guest.Guest).Store
	_ func(*guest.Guest, int) error                 = (*guest.Guest).Plug
	_ func(*guest.Guest, int) error                 = (*guest.Guest).Unplug
	_ func(*guest.Guest, int) error                 = (*guest.Guest).Give
	_ func(*guest.Guest, int) error                 = (*guest.Guest).Back
	_ func(g *guest.Guest, n, frame int) error      = (*guest.Guest).Join
	_ func(*guest.Guest, int) error                 = (*guest.Guest).Seal
	_ func(*guest.Guest, int) (int, error)          = (*guest.Guest).State
	_ func(*guest.Guest, int) (api.Leaf, error)     = (*guest.Guest).Leaf
	_ func(*guest.Guest) []api.Entry                = (*guest.Guest).Cached
	_ func(*guest.Guest) int                        = (*guest.Guest).Walks
	_ func(*guest.Guest, *frames.Pool) *guest.Guest = (*guest.Guest).Copy
)

// noPages, noAddresses: numbers that are none.
var (
	noPages     = []int{-2, api.Pages, api.Pages + 1, math.MaxInt, math.MinInt, math.MinInt32, math.MaxUint32, 1 << 32}
	noAddresses = []int{-1, -api.Page, api.MaxAddr + 1, math.MaxInt, math.MinInt, math.MinInt32, math.MaxUint32, 1 << 32}
)

// says: a bare error of package api, or none at all.
func says(t *testing.T, what string, err error, want api.Errno) {
	t.Helper()
	if want == api.OK {
		if err != nil {
			t.Errorf("%s: %v, wanted no error", what, err)
		}
		return
	}
	if e, ok := err.(api.Errno); !ok || e != want {
		t.Errorf("%s: %v, wanted error %d", what, err, int(want))
	}
}

// on: a pool of so many frames, and a guest on it with the first so many pages plugged.
func on(t *testing.T, size, plugged int) (*frames.Pool, *guest.Guest) {
	t.Helper()
	p, err := frames.New(size)
	says(t, "frames.New", err, api.OK)
	return p, beside(t, p, plugged)
}

// beside: one guest more on a pool.
func beside(t *testing.T, p *frames.Pool, plugged int) *guest.Guest {
	t.Helper()
	g, err := guest.New(p)
	if err != nil || g == nil {
		t.Fatalf("New: %v, %v", g, err)
	}
	for n := range plugged {
		says(t, "Plug", g.Plug(n), api.OK)
	}
	return g
}

// table: a guest of which the page 0 has these bytes, in the frame 0, and the root is 0; nothing else was touched.
func table(t *testing.T, size, plugged int, said ...byte) (*frames.Pool, *guest.Guest) {
	t.Helper()
	p, g := on(t, size, plugged)
	writes(t, g, 0, said...)
	root(t, g, 0)
	return p, g
}

// writes bytes from an address on.
func writes(t *testing.T, g *guest.Guest, addr int, said ...byte) {
	t.Helper()
	for i, v := range said {
		stores(t, g, addr+i, v)
	}
}

func root(t *testing.T, g *guest.Guest, n int) {
	t.Helper()
	says(t, fmt.Sprintf("SetRoot(%d)", n), g.SetRoot(n), api.OK)
	if g.Root() != n {
		t.Errorf("Root: %d, wanted %d", g.Root(), n)
	}
}

// loads, stores: without an error.
func loads(t *testing.T, g *guest.Guest, addr int, want byte) {
	t.Helper()
	if v, err := g.Load(addr); v != want || err != nil {
		t.Errorf("Load(%d): %d, %v; wanted %d", addr, v, err, want)
	}
}

func stores(t *testing.T, g *guest.Guest, addr int, v byte) {
	t.Helper()
	says(t, fmt.Sprintf("Store(%d, %d)", addr, v), g.Store(addr, v), api.OK)
}

// noLoad, noStore: that error alone.
func noLoad(t *testing.T, g *guest.Guest, addr int, want api.Errno) {
	t.Helper()
	v, err := g.Load(addr)
	says(t, fmt.Sprintf("Load(%d)", addr), err, want)
	if v != 0 {
		t.Errorf("Load(%d): %d beside the error", addr, v)
	}
}

func noStore(t *testing.T, g *guest.Guest, addr int, want api.Errno) {
	t.Helper()
	says(t, fmt.Sprintf("Store(%d)", addr), g.Store(addr, 99), want)
}

// neither: both answer that error alone, and change nothing.
func neither(t *testing.T, p *frames.Pool, g *guest.Guest, addr int, want api.Errno) {
	t.Helper()
	ahead := seen(p, g)
	noLoad(t, g, addr, want)
	noStore(t, g, addr, want)
	if got := seen(p, g); got != ahead {
		t.Errorf("%d: an error changed something: %q, wanted %q", addr, got, ahead)
	}
}

// walked so often.
func walked(t *testing.T, g *guest.Guest, want int) {
	t.Helper()
	if got := g.Walks(); got != want {
		t.Errorf("Walks: %d, wanted %d", got, want)
	}
}

// remembers these entries alone, the eldest first.
func remembers(t *testing.T, g *guest.Guest, want ...api.Entry) {
	t.Helper()
	if got := g.Cached(); !slices.Equal(got, want) {
		t.Errorf("Cached: %v, wanted %v", got, want)
	}
}

// is: what State and Leaf tell of a page.
func is(t *testing.T, g *guest.Guest, n, state int, leaf api.Leaf) {
	t.Helper()
	if got, err := g.State(n); got != state || err != nil {
		t.Errorf("State(%d): %d, %v; wanted %d", n, got, err, state)
	}
	if got, err := g.Leaf(n); got != leaf || err != nil {
		t.Errorf("Leaf(%d): %v, %v; wanted %v", n, got, err, leaf)
	}
}

// nowhere, own, sealed: the three kinds of leaves.
var nowhere = api.Leaf{}

func own(frame int) api.Leaf { return api.Leaf{There: true, Write: true, Frame: frame} }

func sealed(frame int) api.Leaf { return api.Leaf{There: true, Frame: frame} }

// readOnly, writable: entries.
func readOnly(root, page, to int, leaf api.Leaf) api.Entry {
	return api.Entry{Root: root, Page: page, To: to, Leaf: leaf}
}

func writable(root, page, to int, leaf api.Leaf) api.Entry {
	return api.Entry{Root: root, Page: page, To: to, May: true, Leaf: leaf}
}

// seen: all that a pool and guests on it tell of themselves.
func seen(p *frames.Pool, guests ...*guest.Guest) string {
	s := pooled(p)
	for _, g := range guests {
		s += fmt.Sprint("; ", g.Root(), g.Walks(), g.Cached())
		for n := range api.Pages {
			state, e := g.State(n)
			leaf, x := g.Leaf(n)
			s += fmt.Sprint(" ", state, e, leaf, x)
		}
	}
	return s
}

// pooled: all that a pool tells of itself.
func pooled(p *frames.Pool) string {
	s := fmt.Sprint(p.Left())
	for f := range p.Size() {
		fr, _ := p.Of(f)
		s += fmt.Sprint(" ", fr.Refs, ":")
		for at := range api.Page {
			if v, err := p.Get(f, at); err == nil {
				s += string([]byte{v})
			}
		}
	}
	return s
}

// D1: a new guest has nothing, and takes nothing of its pool.
func TestNew(t *testing.T) {
	p, g := on(t, 3, 0)
	if g.Root() != -1 || p.Left() != 3 {
		t.Errorf("the root %d, %d frames left", g.Root(), p.Left())
	}
	walked(t, g, 0)
	remembers(t, g)
	for n := range api.Pages {
		is(t, g, n, api.Absent, nowhere)
	}
}

// D1: New of a nil pool says what leaves.New says.
func TestNewOfNoPool(t *testing.T) {
	g, err := guest.New(nil)
	says(t, "New(nil)", err, api.ErrNone)
	if g != nil {
		t.Error("New(nil): a guest beside the error")
	}
}

// D1: each page may have the table, plugged or not, or none; that alone touches and forgets nothing.
func TestSetRoot(t *testing.T) {
	p, g := table(t, 4, 2, 129)
	loads(t, g, 0, 0)
	ahead := pooled(p)
	for n := -1; n < api.Pages; n++ {
		root(t, g, n)
	}
	for _, n := range noPages {
		says(t, fmt.Sprintf("SetRoot(%d)", n), g.SetRoot(n), api.ErrBound)
		if g.Root() != api.Pages-1 {
			t.Errorf("SetRoot(%d): the root is %d", n, g.Root())
		}
	}
	if got := pooled(p); got != ahead {
		t.Errorf("SetRoot changed the pool: %q, wanted %q", got, ahead)
	}
	walked(t, g, 1)
	remembers(t, g, readOnly(0, 0, 1, own(1)))
}

// two tables, in the pages 0 and 1, of which the pages 0 and 1 are remembered: each leads to the page 2.
func two(t *testing.T) (*frames.Pool, *guest.Guest, []api.Entry) {
	t.Helper()
	p, g := on(t, 8, 4)
	writes(t, g, 0, 130, 194)
	writes(t, g, 16, 130, 194)
	var l []api.Entry
	for n := range 2 {
		root(t, g, n)
		loads(t, g, 0, 0)
		loads(t, g, 16, 0)
		l = append(l, readOnly(n, 0, 2, own(2)), writable(n, 1, 2, own(2)))
	}
	remembers(t, g, l...)
	walked(t, g, 4)
	return p, g, l
}

// D1: Forget is of the root and of the page that an address is on, at each of its bytes.
func TestForget(t *testing.T) {
	for at := range api.Page {
		_, g, l := two(t)
		says(t, "Forget", g.Forget(16+at), api.OK)
		remembers(t, g, l[0], l[1], l[2])
		root(t, g, 0)
		says(t, "Forget", g.Forget(at), api.OK)
		remembers(t, g, l[1], l[2])
		says(t, "Forget again", g.Forget(at), api.OK)
		says(t, "Forget of what never was", g.Forget(api.MaxAddr), api.OK)
		remembers(t, g, l[1], l[2])
		walked(t, g, 4)
	}
}

// D1: while tables are off, there is nothing to be forgotten of an address.
func TestForgetWhileOff(t *testing.T) {
	p, g, l := two(t)
	root(t, g, -1)
	ahead := seen(p, g)
	for addr := 0; addr <= api.MaxAddr; addr += api.Page {
		says(t, "Forget", g.Forget(addr), api.OK)
	}
	remembers(t, g, l...)
	if got := seen(p, g); got != ahead {
		t.Errorf("Forget: %q, wanted %q", got, ahead)
	}
}

// D1: ForgetAll is of the root that it is handed, whichever is on.
func TestForgetAll(t *testing.T) {
	for on := -1; on < 3; on++ {
		_, g, l := two(t)
		root(t, g, on)
		for n := 2; n < api.Pages; n++ {
			says(t, "ForgetAll", g.ForgetAll(n), api.OK)
		}
		remembers(t, g, l...)
		says(t, "ForgetAll", g.ForgetAll(0), api.OK)
		remembers(t, g, l[2:]...)
		says(t, "ForgetAll", g.ForgetAll(1), api.OK)
		remembers(t, g)
		walked(t, g, 4)
		if g.Root() != on {
			t.Errorf("ForgetAll: the root is %d, wanted %d", g.Root(), on)
		}
	}
}

// D1, D2: of what is no address, and no root, ErrBound, whatever else is wrong; nothing changes.
func TestBounds(t *testing.T) {
	p, g, _ := two(t)
	for _, n := range []int{-1, 0, api.Pages - 1} {
		root(t, g, n)
		ahead := seen(p, g)
		for _, addr := range noAddresses {
			neither(t, p, g, addr, api.ErrBound)
			says(t, fmt.Sprintf("Forget(%d)", addr), g.Forget(addr), api.ErrBound)
		}
		for _, r := range append(noPages, -1) {
			says(t, fmt.Sprintf("ForgetAll(%d)", r), g.ForgetAll(r), api.ErrBound)
		}
		if got := seen(p, g); got != ahead {
			t.Errorf("what is out of bounds changed something: %q, wanted %q", got, ahead)
		}
	}
}

// D1: each address is a byte of its own: of the page and at the place that the document says.
func TestAddresses(t *testing.T) {
	p, g := on(t, api.Pages, api.Pages)
	for addr := api.MaxAddr; addr >= 0; addr-- {
		stores(t, g, addr, byte(addr*7+1))
	}
	for addr := range api.MaxAddr + 1 {
		want := byte(addr*7 + 1)
		loads(t, g, addr, want)
		leaf, _ := g.Leaf(addr / 16)
		if v, err := p.Get(leaf.Frame, addr%16); v != want || err != nil {
			t.Errorf("the address %d: %d, %v; wanted %d", addr, v, err, want)
		}
	}
	remembers(t, g)
	walked(t, g, 0)
}

// D2: tables being off, a page is touched when it is first loaded or stored, it alone.
func TestOffTouches(t *testing.T) {
	p, g := on(t, 4, 4)
	loads(t, g, 2*16+5, 0)
	is(t, g, 2, api.Plain, own(0))
	stores(t, g, 1*16+5, 7)
	is(t, g, 1, api.Plain, own(1))
	is(t, g, 0, api.Plain, nowhere)
	if p.Left() != 2 {
		t.Errorf("%d frames left, wanted 2", p.Left())
	}
}

// D2: a sealed page is loaded where it is; stored, it may be written again if it is alone, and moves if it isn't.
func TestOffTouchesToWrite(t *testing.T) {
	_, g := on(t, 4, 2)
	stores(t, g, 5, 7)
	stores(t, g, 16+5, 7)
	says(t, "Seal", g.Seal(0), api.OK)
	loads(t, g, 5, 7)
	is(t, g, 0, api.Plain, sealed(0))
	says(t, "Join", g.Join(1, 0), api.OK)
	loads(t, g, 16+5, 7)
	is(t, g, 1, api.Plain, sealed(0))
	stores(t, g, 16+6, 8)
	is(t, g, 1, api.Plain, own(1))
	is(t, g, 0, api.Plain, sealed(0))
	loads(t, g, 16+5, 7)
	loads(t, g, 16+6, 8)
	loads(t, g, 6, 0)
	stores(t, g, 6, 9)
	is(t, g, 0, api.Plain, own(0))
	loads(t, g, 6, 9)
	loads(t, g, 16+6, 8)
}

// D2: tables being off, Touch's errors are told, and nothing changes.
func TestOffErrors(t *testing.T) {
	p, g := on(t, 1, 3)
	says(t, "Give", g.Give(1), api.OK)
	neither(t, p, g, 16, api.ErrGone)
	neither(t, p, g, 3*16, api.ErrNone)
	neither(t, p, g, api.MaxAddr, api.ErrNone)
	loads(t, g, 0, 0)
	neither(t, p, g, 2*16, api.ErrFull)
	neither(t, p, g, 16, api.ErrGone)
	neither(t, p, g, 3*16, api.ErrNone)
	stores(t, g, 0, 5)
	loads(t, g, 0, 5)
}

// D2: a page that moves wants a frame: ErrFull of Store alone.
func TestNoFrameToMove(t *testing.T) {
	p, g := on(t, 2, 3)
	loads(t, g, 0, 0)
	loads(t, g, 16, 0)
	says(t, "Seal", g.Seal(0), api.OK)
	says(t, "Join", g.Join(1, 0), api.OK)
	stores(t, g, 2*16, 1)
	ahead := seen(p, g)
	noStore(t, g, 0, api.ErrFull)
	noStore(t, g, 16, api.ErrFull)
	if got := seen(p, g); got != ahead {
		t.Errorf("ErrFull changed something: %q, wanted %q", got, ahead)
	}
	loads(t, g, 0, 0)
	loads(t, g, 16, 0)
}

// D2: what A2 refuses is told: a page that others joined, and that wasn't sealed, isn't written under them.
func TestHeld(t *testing.T) {
	p, g := on(t, 3, 2)
	loads(t, g, 0, 0)
	loads(t, g, 16, 0)
	says(t, "Join", g.Join(1, 0), api.OK)
	ahead := seen(p, g)
	noStore(t, g, 3, api.ErrHeld)
	if got := seen(p, g); got != ahead {
		t.Errorf("ErrHeld changed something: %q, wanted %q", got, ahead)
	}
	loads(t, g, 16+3, 0)
	stores(t, g, 16+3, 4)
	stores(t, g, 3, 5)
	loads(t, g, 16+3, 4)
}

// D2: the byte is set behind all else, so what was read of the table is remembered although A2 refuses it.
func TestHeldThroughTable(t *testing.T) {
	_, g := on(t, 4, 3)
	writes(t, g, 0, 193)
	loads(t, g, 16, 0)
	loads(t, g, 32, 0)
	says(t, "Join", g.Join(2, 1), api.OK)
	root(t, g, 0)
	for range 2 {
		noStore(t, g, 3, api.ErrHeld)
		remembers(t, g, writable(0, 0, 1, own(1)))
		walked(t, g, 1)
	}
	loads(t, g, 3, 0)
}

// D2: of a table's byte: 131 leads to the page 3, that may not be written; 195 to the page 3, that may; 67 nowhere.
func TestDocumentsBytes(t *testing.T) {
	_, g := table(t, 4, 4, 131, 195, 67)
	stores(t, g, 16+5, 77)
	loads(t, g, 5, 77)
	noStore(t, g, 5, api.ErrFault)
	noLoad(t, g, 2*16+5, api.ErrFault)
	noStore(t, g, 2*16+5, api.ErrFault)
	loads(t, g, 16+5, 77)
	remembers(t, g, writable(0, 1, 3, own(1)), readOnly(0, 0, 3, own(1)))
}

// D2: each byte that a table may have, loaded and stored through.
func TestEachByte(t *testing.T) {
	for said := range 256 {
		to, present, may := said%16, said >= 128, said/64%2 == 1
		for _, store := range []bool{false, true} {
			_, g := on(t, 2, 0)
			says(t, "Plug", g.Plug(0), api.OK)
			if to != 0 {
				says(t, "Plug", g.Plug(to), api.OK)
			}
			stores(t, g, 9, byte(said))
			root(t, g, 0)
			switch addr := 9*16 + 4; {
			case store && (!present || !may):
				noStore(t, g, addr, api.ErrFault)
			case store:
				stores(t, g, addr, 5)
			case !present:
				noLoad(t, g, addr, api.ErrFault)
			default:
				loads(t, g, addr, 0)
			}
			walked(t, g, 1)
			leaf, _ := g.Leaf(to)
			want := []api.Entry{{Root: 0, Page: 9, To: to, May: may, Leaf: leaf}}
			if !present || store && !may {
				want = nil
			}
			remembers(t, g, want...)
			if len(want) > 0 != leaf.There && to != 0 {
				t.Errorf("%d: the page %d: %v", said, to, leaf)
			}
			if store && len(want) > 0 {
				root(t, g, -1)
				loads(t, g, to*16+4, 5)
			}
		}
	}
}

// D2: a page's number is the place of its byte in the table, whichever page has that.
func TestEachPage(t *testing.T) {
	for at := range api.Pages {
		_, g := on(t, api.Pages, api.Pages)
		for page := range api.Pages {
			stores(t, g, at*16+page, byte(192+15-page))
		}
		root(t, g, at)
		for page := range api.Pages {
			// The table's own page would change under this.
			if 15-page != at {
				stores(t, g, page*16+2, byte(page+1))
			}
		}
		walked(t, g, 15)
		root(t, g, -1)
		for page := range api.Pages {
			if 15-page != at {
				loads(t, g, (15-page)*16+2, byte(page+1))
			}
		}
	}
}

// D2: a table that leads to its own page can be written through itself.
func TestTableOfItself(t *testing.T) {
	_, g := table(t, 4, 3, 192, 129)
	stores(t, g, 1, 194)
	stores(t, g, 16+7, 5)
	remembers(t, g, writable(0, 0, 0, own(0)), writable(0, 1, 2, own(1)))
	walked(t, g, 2)
	root(t, g, -1)
	loads(t, g, 2*16+7, 5)
	is(t, g, 1, api.Plain, nowhere)
}

// D2: a table that was changed is read anew only where there is no entry.
func TestReadAnew(t *testing.T) {
	_, g := table(t, 4, 4, 195)
	stores(t, g, 5, 77)
	walked(t, g, 1)
	root(t, g, -1)
	stores(t, g, 0, 129)
	root(t, g, 0)
	loads(t, g, 5, 77)
	stores(t, g, 6, 78)
	remembers(t, g, writable(0, 0, 3, own(1)))
	walked(t, g, 1)
	says(t, "Forget", g.Forget(15), api.OK)
	loads(t, g, 5, 0)
	noStore(t, g, 6, api.ErrFault)
	remembers(t, g, readOnly(0, 0, 1, own(2)))
	walked(t, g, 2)
	root(t, g, -1)
	stores(t, g, 0, 0)
	root(t, g, 0)
	loads(t, g, 5, 0)
	says(t, "ForgetAll", g.ForgetAll(0), api.OK)
	noLoad(t, g, 5, api.ErrFault)
	walked(t, g, 3)
	remembers(t, g)
}

// D2: what another table says of the same page is another thing to remember.
func TestTwoTables(t *testing.T) {
	_, g := on(t, 5, 4)
	writes(t, g, 0, 194)
	writes(t, g, 16, 195)
	for n := range 2 {
		root(t, g, n)
		stores(t, g, 3, byte(5+n))
	}
	for n := range 2 {
		root(t, g, n)
		loads(t, g, 3, byte(5+n))
	}
	walked(t, g, 2)
	remembers(t, g, writable(0, 0, 2, own(2)), writable(1, 0, 3, own(3)))
}

// D2: of the page that has the table, Touch's errors are told: nothing is read, nothing changes.
func TestRootErrors(t *testing.T) {
	p, g := on(t, 1, 3)
	says(t, "Give", g.Give(1), api.OK)
	loads(t, g, 0, 0)
	for n, want := range map[int]api.Errno{1: api.ErrGone, 2: api.ErrFull, 3: api.ErrNone, 15: api.ErrNone} {
		root(t, g, n)
		for page := range api.Pages {
			neither(t, p, g, page*16, want)
		}
	}
	walked(t, g, 0)
	remembers(t, g)
}

// D2, Z1: a table in a page that wasn't touched says noughts: ErrFault; the page stays touched.
func TestRootIsTouched(t *testing.T) {
	for n, call := range []func(*testing.T, *guest.Guest, int, api.Errno){noLoad, noStore} {
		p, g := on(t, 2, 4)
		root(t, g, 3)
		call(t, g, 16, api.ErrFault)
		is(t, g, 3, api.Plain, own(0))
		is(t, g, 1, api.Plain, nowhere)
		walked(t, g, 1)
		remembers(t, g)
		if p.Left() != 1 {
			t.Errorf("%d: %d frames left, wanted 1", n, p.Left())
		}
		call(t, g, 16, api.ErrFault)
		walked(t, g, 2)
	}
}

// D2: the page that has the table is read where it is: it stays sealed, and in one frame with others, also of Store.
func TestRootIsRead(t *testing.T) {
	p, g := on(t, 5, 4)
	writes(t, g, 0, 194)
	writes(t, g, 16, 194)
	says(t, "Seal", g.Seal(0), api.OK)
	says(t, "Join", g.Join(1, 0), api.OK)
	for n := range 2 {
		root(t, g, n)
		stores(t, g, 3, 7)
		is(t, g, n, api.Plain, sealed(0))
	}
	walked(t, g, 2)
	if p.Left() != 3 {
		t.Errorf("%d frames left, wanted 3", p.Left())
	}
	remembers(t, g, writable(0, 0, 2, own(1)), writable(1, 0, 2, own(1)))
}

// D2: Store of what may not be written: ErrFault, ahead of Touch's errors: To isn't touched, nothing is remembered.
func TestFaultOfStore(t *testing.T) {
	for to, state := range map[int]int{1: api.Plain, 2: api.Given, 3: api.Absent} {
		_, g := table(t, 4, 3, byte(128+to))
		says(t, "Give", g.Give(2), api.OK)
		for n := range 2 {
			noStore(t, g, 3, api.ErrFault)
			walked(t, g, n+1)
			remembers(t, g)
			is(t, g, to, state, nowhere)
		}
	}
}

// D2: nor by what is remembered; the table isn't read for that.
func TestFaultOfStoreRemembered(t *testing.T) {
	p, g := table(t, 4, 3, 129)
	loads(t, g, 3, 0)
	says(t, "Seal", g.Seal(1), api.OK)
	ahead := seen(p, g)
	noStore(t, g, 3, api.ErrFault)
	if got := seen(p, g); got != ahead {
		t.Errorf("ErrFault changed something: %q, wanted %q", got, ahead)
	}
	says(t, "Give", g.Give(1), api.OK)
	noStore(t, g, 3, api.ErrFault)
	noLoad(t, g, 3, api.ErrGone)
	walked(t, g, 1)
	remembers(t, g, readOnly(0, 0, 1, nowhere))
}

// D2: of the page that a table leads to, Touch's errors are told, and nothing is remembered; the table was read.
func TestToErrors(t *testing.T) {
	for to, want := range map[int]api.Errno{1: api.ErrGone, 2: api.ErrFull, 3: api.ErrNone, 15: api.ErrNone} {
		_, g := table(t, 1, 3, byte(192+to))
		says(t, "Give", g.Give(1), api.OK)
		noLoad(t, g, 3, want)
		noStore(t, g, 3, want)
		walked(t, g, 2)
		remembers(t, g)
	}
}

// D2: what was refused for want of a frame is read anew, and remembered, when there is one.
func TestFrameComesFree(t *testing.T) {
	p, g := table(t, 2, 2, 193)
	other := beside(t, p, 1)
	loads(t, other, 0, 0)
	noLoad(t, g, 3, api.ErrFull)
	noStore(t, g, 3, api.ErrFull)
	walked(t, g, 2)
	remembers(t, g)
	says(t, "Unplug", other.Unplug(0), api.OK)
	loads(t, g, 3, 0)
	walked(t, g, 3)
	remembers(t, g, writable(0, 0, 1, own(1)))
}

// D2: what is remembered leads on while its table is gone, and not where its page is gone.
func TestRememberedWithoutTable(t *testing.T) {
	_, g := table(t, 4, 3, 193)
	stores(t, g, 3, 7)
	says(t, "Give", g.Give(0), api.OK)
	loads(t, g, 3, 7)
	stores(t, g, 4, 8)
	says(t, "Unplug", g.Unplug(0), api.OK)
	loads(t, g, 4, 8)
	noLoad(t, g, 16, api.ErrNone)
	walked(t, g, 1)
	says(t, "Unplug", g.Unplug(1), api.OK)
	noLoad(t, g, 3, api.ErrNone)
	noStore(t, g, 3, api.ErrNone)
	remembers(t, g, writable(0, 0, 1, nowhere))
	says(t, "Plug", g.Plug(1), api.OK)
	loads(t, g, 3, 0)
	walked(t, g, 1)
}

// D2: the eldest is forgotten for a fifth, however often it was used; it is read anew then.
func TestEldestIsForgotten(t *testing.T) {
	_, g := table(t, 4, 2, 193, 193, 193, 193, 193)
	var l []api.Entry
	for page := range 5 {
		stores(t, g, page*16, byte(page))
		loads(t, g, 0, byte(page))
		l = append(l, writable(0, page, 1, own(1)))
	}
	// The page 0 was read behind the fifth again, and the page 1 went for it.
	walked(t, g, 6)
	remembers(t, g, l[2], l[3], l[4], l[0])
	loads(t, g, 2*16, 4)
	walked(t, g, 6)
	loads(t, g, 16, 4)
	walked(t, g, 7)
	remembers(t, g, l[3], l[4], l[0], l[1])
}

// D2: what is touched through what is remembered is to be written of Store alone.
func TestRememberedMoves(t *testing.T) {
	_, g := table(t, 5, 4, 194, 195)
	stores(t, g, 5, 7)
	stores(t, g, 16+5, 7)
	says(t, "Seal", g.Seal(2), api.OK)
	says(t, "Join", g.Join(3, 1), api.OK)
	loads(t, g, 5, 7)
	loads(t, g, 16+5, 7)
	remembers(t, g, writable(0, 0, 2, sealed(1)), writable(0, 1, 3, sealed(1)))
	stores(t, g, 16+6, 8)
	remembers(t, g, writable(0, 0, 2, sealed(1)), writable(0, 1, 3, own(2)))
	loads(t, g, 6, 0)
	loads(t, g, 16+5, 7)
	loads(t, g, 16+6, 8)
	stores(t, g, 6, 9)
	remembers(t, g, writable(0, 0, 2, own(1)), writable(0, 1, 3, own(2)))
	loads(t, g, 16+6, 8)
	walked(t, g, 2)
}

// D2: what is remembered at first has the leaf that its page has behind being touched.
func TestFirstLeaf(t *testing.T) {
	for n, want := range []api.Leaf{sealed(1), own(1)} {
		_, g := table(t, 5, 3, 194)
		root(t, g, -1)
		loads(t, g, 2*16, 0)
		says(t, "Seal", g.Seal(2), api.OK)
		root(t, g, 0)
		if n == 0 {
			loads(t, g, 5, 0)
		} else {
			stores(t, g, 5, 1)
		}
		remembers(t, g, writable(0, 0, 2, want))
	}
}

// led: a guest with three entries, two of which lead to the page 2, which is in the frame 1, and one to the page 3, in the frame 2.
func led(t *testing.T) (*frames.Pool, *guest.Guest) {
	t.Helper()
	p, g := table(t, 6, 5, 194, 130, 195)
	loads(t, g, 0, 0)
	loads(t, g, 16, 0)
	loads(t, g, 32, 0)
	leads(t, g, own(1), own(2))
	return p, g
}

// leads: what led's guest remembers, the leaves of its pages 2 and 3 being those.
func leads(t *testing.T, g *guest.Guest, second, third api.Leaf) {
	t.Helper()
	remembers(t, g, writable(0, 0, 2, second), readOnly(0, 1, 2, second), writable(0, 2, 3, third))
	if leaf, err := g.Leaf(2); leaf != second || err != nil {
		t.Errorf("Leaf(2): %v, %v; wanted %v", leaf, err, second)
	}
	walked(t, g, 3)
}

// D3: at any time each entry's leaf is its page's: Give, Back, Unplug, Plug.
func TestEntriesFollowStates(t *testing.T) {
	_, g := led(t)
	says(t, "Give", g.Give(2), api.OK)
	leads(t, g, nowhere, own(2))
	says(t, "Back", g.Back(2), api.OK)
	leads(t, g, nowhere, own(2))
	stores(t, g, 0, 1)
	leads(t, g, own(1), own(2))
	loads(t, g, 16, 1)
	says(t, "Unplug", g.Unplug(2), api.OK)
	leads(t, g, nowhere, own(2))
	says(t, "Plug", g.Plug(2), api.OK)
	leads(t, g, nowhere, own(2))
	loads(t, g, 16, 0)
	leads(t, g, own(1), own(2))
}

// D3: so it is of Seal, Join, and of what is stored behind them.
func TestEntriesFollowJoins(t *testing.T) {
	_, g := led(t)
	says(t, "Seal", g.Seal(3), api.OK)
	leads(t, g, own(1), sealed(2))
	says(t, "Join", g.Join(2, 2), api.OK)
	leads(t, g, sealed(2), sealed(2))
	stores(t, g, 5, 1)
	leads(t, g, own(1), sealed(2))
	stores(t, g, 2*16+5, 1)
	leads(t, g, own(1), own(2))
	loads(t, g, 5, 1)
}

// D3: so it is of pages that are touched while tables are off.
func TestEntriesFollowOff(t *testing.T) {
	_, g := led(t)
	says(t, "Seal", g.Seal(2), api.OK)
	says(t, "Join", g.Join(3, 1), api.OK)
	root(t, g, -1)
	loads(t, g, 3*16+5, 0)
	leads(t, g, sealed(1), sealed(1))
	stores(t, g, 3*16+5, 4)
	leads(t, g, sealed(1), own(2))
	says(t, "Give", g.Give(3), api.OK)
	says(t, "Back", g.Back(3), api.OK)
	leads(t, g, sealed(1), nowhere)
	loads(t, g, 3*16+5, 0)
	leads(t, g, sealed(1), own(2))
}

// D3: so it is of a page that is touched because it has the table, although nothing is found in it.
func TestEntriesFollowRoot(t *testing.T) {
	_, g := led(t)
	says(t, "Give", g.Give(3), api.OK)
	says(t, "Back", g.Back(3), api.OK)
	leads(t, g, own(1), nowhere)
	root(t, g, 3)
	noLoad(t, g, 0, api.ErrFault)
	remembers(t, g, writable(0, 0, 2, own(1)), readOnly(0, 1, 2, own(1)), writable(0, 2, 3, own(2)))
	walked(t, g, 4)
}

// D3: what is refused leaves entries as they are.
func TestEntriesStayOfErrors(t *testing.T) {
	p, g := led(t)
	ahead := seen(p, g)
	says(t, "Plug", g.Plug(2), api.ErrHeld)
	says(t, "Back", g.Back(2), api.ErrState)
	says(t, "Join", g.Join(2, 1), api.ErrState)
	says(t, "Join", g.Join(2, 0), api.ErrState)
	says(t, "Join", g.Join(2, 5), api.ErrState)
	says(t, "Unplug", g.Unplug(9), api.ErrNone)
	says(t, "Give", g.Give(9), api.ErrState)
	says(t, "Seal", g.Seal(9), api.ErrState)
	if got := seen(p, g); got != ahead {
		t.Errorf("errors changed something: %q, wanted %q", got, ahead)
	}
}

// D3: the map's errors of numbers that are no page's.
func TestNoPages(t *testing.T) {
	p, g := led(t)
	ahead := seen(p, g)
	for _, n := range append(noPages, -1) {
		for what, call := range map[string]func(int) error{"Plug": g.Plug, "Unplug": g.Unplug, "Give": g.Give, "Back": g.Back, "Seal": g.Seal} {
			says(t, fmt.Sprintf("%s(%d)", what, n), call(n), api.ErrBound)
		}
		says(t, fmt.Sprintf("Join(%d)", n), g.Join(n, 0), api.ErrBound)
		state, err := g.State(n)
		says(t, fmt.Sprintf("State(%d)", n), err, api.ErrBound)
		leaf, other := g.Leaf(n)
		says(t, fmt.Sprintf("Leaf(%d)", n), other, api.ErrBound)
		if state != 0 || leaf != nowhere {
			t.Errorf("%d: %d, %v beside the errors", n, state, leaf)
		}
	}
	for _, f := range append(noPages, -1, api.MaxFrames) {
		says(t, fmt.Sprintf("Join(2, %d)", f), g.Join(2, f), api.ErrState)
	}
	if got := seen(p, g); got != ahead {
		t.Errorf("errors changed something: %q, wanted %q", got, ahead)
	}
}

// D3, Z2: what Cached answers is the caller's.
func TestCachedIsFresh(t *testing.T) {
	_, g := led(t)
	l, other := g.Cached(), g.Cached()
	clear(l)
	_ = append(l[:1], api.Entry{To: 9}, api.Entry{To: 9})
	if len(other) != 3 || other[0] != writable(0, 0, 2, own(1)) {
		t.Errorf("two lists share memory: %v", other)
	}
	says(t, "Seal", g.Seal(2), api.OK)
	if other[0].Leaf != own(1) {
		t.Errorf("a list changed with the guest: %v", other)
	}
	leads(t, g, sealed(1), own(2))
}

// D3: a copy has the same pages, entries, root and walks, and both go on apart.
func TestCopy(t *testing.T) {
	for what, change := range changes() {
		p, g := led(t)
		ahead := seen(p, g)
		q := p.Copy()
		c := g.Copy(q)
		if got := seen(q, c); got != ahead {
			t.Errorf("a copy: %q, wanted %q", got, ahead)
		}
		change(g)
		changed := seen(p, g)
		if changed == ahead {
			t.Errorf("%s changed nothing", what)
		}
		if got := seen(q, c); got != ahead {
			t.Errorf("%s changed the copy: %q, wanted %q", what, got, ahead)
		}
		change(c)
		if got := seen(q, c); got != changed {
			t.Errorf("%s of the copy: %q, wanted %q", what, got, changed)
		}
		stores(t, c, 0, 99)
		root(t, c, 7)
		if got := seen(p, g); got != changed {
			t.Errorf("%s: the copy changed what was copied: %q, wanted %q", what, got, changed)
		}
	}
}

// changes: each way in which led's guest becomes another one, of which the address 0 can still be stored.
func changes() map[string]func(*guest.Guest) {
	return map[string]func(*guest.Guest){
		"Load":      func(g *guest.Guest) { _, _ = g.Load(3 * 16) },
		"Store":     func(g *guest.Guest) { _ = g.Store(1, 7) },
		"SetRoot":   func(g *guest.Guest) { _ = g.SetRoot(-1) },
		"Forget":    func(g *guest.Guest) { _ = g.Forget(16) },
		"ForgetAll": func(g *guest.Guest) { _ = g.ForgetAll(0) },
		"Plug":      func(g *guest.Guest) { _ = g.Plug(9) },
		"Unplug":    func(g *guest.Guest) { _ = g.Unplug(3) },
		"Give":      func(g *guest.Guest) { _ = g.Give(3) },
		"Join":      func(g *guest.Guest) { _ = g.Join(3, 1); _ = g.Seal(2) },
		"Seal":      func(g *guest.Guest) { _ = g.Seal(2) },
		"Back":      func(g *guest.Guest) { _ = g.Give(4); _ = g.Back(4); _, _ = g.Load(3 * 16) },
	}
}

// Z2: guests on one pool share frames, and nothing else: each has a root, a cache and pages of its own.
func TestGuestsAreApart(t *testing.T) {
	p, a := on(t, 6, 3)
	b := beside(t, p, 2)
	writes(t, a, 0, 194)
	writes(t, b, 0, 193)
	root(t, a, 0)
	remembers(t, b)
	root(t, b, 0)
	stores(t, a, 5, 7)
	stores(t, b, 5, 7)
	remembers(t, a, writable(0, 0, 2, own(2)))
	remembers(t, b, writable(0, 0, 1, own(3)))
	says(t, "Seal", a.Seal(2), api.OK)
	says(t, "Join", b.Join(1, 2), api.OK)
	remembers(t, a, writable(0, 0, 2, sealed(2)))
	remembers(t, b, writable(0, 0, 1, sealed(2)))
	stores(t, b, 6, 8)
	remembers(t, b, writable(0, 0, 1, own(3)))
	remembers(t, a, writable(0, 0, 2, sealed(2)))
	loads(t, a, 6, 0)
	says(t, "Forget", a.Forget(0), api.OK)
	remembers(t, b, writable(0, 0, 1, own(3)))
	walked(t, a, 1)
	walked(t, b, 1)
}

// The document's session, as far as one guest goes.
func TestSession(t *testing.T) {
	_, g := on(t, 10, 8)
	says(t, "Give", g.Give(7), api.OK)
	says(t, "Give", g.Give(6), api.OK)
	writes(t, g, 0, 195, 194, 130)
	root(t, g, 0)
	loads(t, g, 5, 0)
	stores(t, g, 5, 77)
	root(t, g, -1)
	loads(t, g, 53, 77)
	root(t, g, 0)
	noStore(t, g, 33, api.ErrFault)
	stores(t, g, 17, 5)
	loads(t, g, 33, 5)
	root(t, g, -1)
	stores(t, g, 0, 193)
	root(t, g, 0)
	loads(t, g, 5, 77)
	says(t, "Forget", g.Forget(5), api.OK)
	loads(t, g, 5, 0)
	root(t, g, -1)
	says(t, "Back", g.Back(6), api.OK)
	loads(t, g, 96, 0)
	noLoad(t, g, 113, api.ErrGone)
	noLoad(t, g, 256, api.ErrBound)
}
