package host_test

import (
	"fmt"
	"slices"
	"testing"

	"undercroft/api"
	"undercroft/host"
)

// ownMemory of a guest: its pages as bytes, its table, and what is remembered of it; no frames at all.
type ownMemory struct {
	state  [api.Pages]int
	bytes  [api.Pages][api.Page]byte
	memory []known
	root   int
}

// page of an address, as far as there is one.
func (o *ownMemory) page(n int) error {
	return map[int]error{api.Absent: api.ErrNone, api.Given: api.ErrGone}[o.state[n]]
}

// turn pages into a state: whatever was in them is no more.
func (o *ownMemory) turn(first, many, state int) {
	for page := first; page < first+many; page++ {
		o.state[page], o.bytes[page] = state, [api.Page]byte{}
	}
}

// lead: the page that an address leads to.
func (o *ownMemory) lead(page int, store bool) (int, error) {
	if o.root < 0 {
		return page, o.page(page)
	}
	at := slices.IndexFunc(o.memory, func(k known) bool { return k.root == o.root && k.page == page })
	k := known{root: o.root, page: page}
	if at >= 0 {
		k = o.memory[at]
	} else {
		if err := o.page(o.root); err != nil {
			return 0, err
		}
		k.said = o.bytes[o.root][page]
	}
	if k.said < 128 || store && k.said < 192 {
		return 0, api.ErrFault
	}
	to := int(k.said % 16)
	err := o.page(to)
	if at < 0 && err == nil {
		o.memory = append(o.memory, k)
		o.memory = o.memory[max(0, len(o.memory)-4):]
	}
	return to, err
}

func (o *ownMemory) load(addr int) (byte, error) {
	to, err := o.lead(addr/16, false)
	if err != nil {
		return 0, err
	}
	return o.bytes[to][addr%16], nil
}

func (o *ownMemory) store(addr int, v byte) error {
	to, err := o.lead(addr/16, true)
	if err != nil {
		return err
	}
	o.bytes[to][addr%16] = v
	return nil
}

// act: a call that was drawn.
type act struct {
	what        string
	n, x, block int
	v           byte
}

func (a act) String() string {
	return fmt.Sprintf("%s(%d; %d, %d, %d)", a.what, a.n, a.x, a.block, a.v)
}

// draw a call of one of so many guests: of the first few pages, so that they meet often.
func draw(d *die, guests int) act {
	a := act{n: d.n(guests), x: d.n(6), block: d.n(3), v: d.said()}
	switch c := d.n(30); {
	case c < 8:
		a.what, a.x = "Load", 16*a.x+d.n(6)
	case c < 17:
		a.what, a.x = "Store", 16*a.x+d.n(6)
	case c < 20:
		a.what, a.x = "SetRoot", a.x-3
		a.x = max(a.x, -1)
	case c == 20:
		a.what, a.x = "Forget", 16*a.x
	case c == 21:
		a.what = "ForgetAll"
	case c < 24:
		a.what = "Plug"
	case c == 24:
		a.what = "Unplug"
	case c == 25:
		a.what = "Give"
	case c == 26:
		a.what = "Back"
	case c == 27:
		a.what = "ScanAll"
	default:
		a.what = "Scan"
	}
	return a
}

// on: a host does it, and tells what its guest is told.
func (a act) on(h *host.Host) string {
	switch a.what {
	case "Load":
		v, err := h.Load(a.n, a.x)
		return fmt.Sprint(v, err)
	case "Store":
		return fmt.Sprint(h.Store(a.n, a.x, a.v))
	case "SetRoot":
		return fmt.Sprint(h.SetRoot(a.n, a.x))
	case "Forget":
		return fmt.Sprint(h.Forget(a.n, a.x))
	case "ForgetAll":
		return fmt.Sprint(h.ForgetAll(a.n, a.x))
	case "Plug":
		return fmt.Sprint(h.Plug(a.n, a.block))
	case "Unplug":
		return fmt.Sprint(h.Unplug(a.n, a.block))
	case "Give":
		return fmt.Sprint(h.Give(a.n, a.x))
	case "Back":
		return fmt.Sprint(h.Back(a.n, a.x))
	case "ScanAll":
		_ = h.ScanAll()
	default:
		_, _ = h.Scan(a.n, a.x)
	}
	return ""
}

// in: a memory of its own does it, and tells the same; of what hangs on what was promised to others it is told what happened.
func (a act) in(o *ownMemory, told string) string {
	done := told == fmt.Sprint(error(nil))
	switch a.what {
	case "Load":
		v, err := o.load(a.x)
		return fmt.Sprint(v, err)
	case "Store":
		return fmt.Sprint(o.store(a.x, a.v))
	case "SetRoot":
		o.root = a.x
	case "Forget":
		o.memory = slices.DeleteFunc(o.memory, func(k known) bool { return k.root == o.root && k.page == a.x/16 })
	case "ForgetAll":
		o.memory = slices.DeleteFunc(o.memory, func(k known) bool { return k.root == a.x })
	case "Plug":
		if done {
			o.turn(4*a.block, 4, api.Plain)
		}
	case "Unplug":
		if done {
			o.turn(4*a.block, 4, api.Absent)
		}
	case "Give":
		if done {
			o.turn(a.x, 1, api.Given)
		}
	case "Back":
		if done {
			o.turn(a.x, 1, api.Plain)
		}
	}
	return told
}

// tight: a host that has promised all that it can, and how many frames and guests it has; all its pages are touched.
func tight(t *testing.T, d *die) (h *host.Host, size, many int) {
	t.Helper()
	size, many = 4*(1+d.n(5)), 1+d.n(api.MaxGuests)
	if d.n(4) == 0 {
		size += d.n(4)
	}
	h = of(t, size)
	for range many {
		_, _ = h.Add()
	}
	for i := range min(size/api.Block, 4*many) {
		n, block := i%many, i/many
		plugs(t, h, n, block)
		for page := range api.Block {
			loads(t, h, n, 16*(4*block+page), 0)
		}
	}
	return h, size, many
}

// memories: what each guest of a host has to begin with.
func memories(h *host.Host) (l []*ownMemory) {
	for _, n := range h.Guests() {
		o := &ownMemory{root: -1}
		for page := range api.Pages {
			o.state[page], _ = h.State(n, page)
		}
		l = append(l, o)
	}
	return l
}

// short: is a frame wanting, where all plain pages of a host (of a copy) are written apart from each other?
func short(h *host.Host) string {
	c := h.Copy()
	for _, n := range c.Guests() {
		_ = c.SetRoot(n, -1)
		for page := range api.Pages {
			if state, _ := c.State(n, page); state != api.Plain {
				continue
			}
			if err := c.Store(n, 16*page, byte(16*n+page)); err != nil {
				return fmt.Sprintf("the page %d of %d: %v, while %d are promised", page, n, err, c.Promised())
			}
		}
	}
	return ""
}

// W1, E5: each guest is told what a memory of its own would tell it, whatever is done and scanned; none is refused for want of a frame.
func TestAsItsOwnMemory(t *testing.T) {
	d, joined, full := die(21), 0, 0
	for range 150 {
		h, size, many := tight(t, &d)
		own := memories(h)
		for range 250 {
			a := draw(&d, many)
			left := h.Left()
			got := a.on(h)
			if want := a.in(own[a.n], got); got != want {
				t.Fatalf("%v: %s, wanted %s", a, got, want)
			}
			if a.what == "ScanAll" {
				joined += h.Left() - left
			}
			if h.Promised() == size && h.Left() == 0 {
				full++
			}
			if wrong := short(h); wrong != "" {
				t.Fatalf("behind %v: %s", a, wrong)
			}
		}
	}
	if joined < 500 || full < 500 {
		t.Errorf("%d frames were saved, %d times none was left: that says little", joined, full)
	}
}

// elsewhere: does the call belong to what others load, store and remember, or is it a scan?
func (a act) elsewhere(n int) bool {
	switch a.what {
	case "Plug", "Unplug", "Give", "Back":
		return false
	case "Scan", "ScanAll":
		return true
	}
	return a.n != n
}

// knows: what a guest's host tells of it, beside its frames.
func knows(h *host.Host, n int) string {
	s := fmt.Sprint(h.Promised())
	l, _ := h.Cached(n)
	for _, e := range l {
		s += fmt.Sprint(" ", e.Root, e.Page, e.To, e.May, e.Leaf.There)
	}
	for page := range api.Pages {
		state, _ := h.State(n, page)
		leaf, _ := h.Leaf(n, page)
		s += fmt.Sprint(" ", state, leaf.There)
	}
	return s
}

// W2, E5: without what other guests load, store and remember, and without all scans, a guest is told the same.
func TestOthersAreNotSeen(t *testing.T) {
	d, skipped, done := die(33), 0, 0
	for range 150 {
		h, _, many := tight(t, &d)
		quiet := make([]*host.Host, many)
		for n := range quiet {
			quiet[n] = h.Copy()
		}
		for range 200 {
			a := draw(&d, many)
			got := a.on(h)
			for n, q := range quiet {
				if a.elsewhere(n) {
					skipped++
					continue
				}
				done++
				if want := a.on(q); got != want {
					t.Fatalf("%v: %s, without others %s", a, got, want)
				}
				if got, want := knows(h, n), knows(q, n); got != want {
					t.Fatalf("%v: of %d: %s, without others %s", a, n, got, want)
				}
			}
		}
	}
	if skipped < 10000 || done < 10000 {
		t.Errorf("%d calls less, %d done: that says little", skipped, done)
	}
}

// sound: is W3 broken, and how?
func sound(h *host.Host, size int) string {
	refs := make([]int, size)
	plain := 0
	for n := range api.MaxGuests {
		for page := range api.Pages {
			state, _ := h.State(n, page)
			leaf, _ := h.Leaf(n, page)
			if state == api.Plain {
				plain++
			} else if leaf != nowhere {
				return fmt.Sprintf("the page %d of %d, that isn't plain, is %v", page, n, leaf)
			}
			if leaf.There {
				refs[leaf.Frame]++
			}
			if fr, _ := h.Frame(leaf.Frame); leaf.Write && fr.Refs != 1 {
				return fmt.Sprintf("the page %d of %d may be written in %v", page, n, fr)
			}
		}
	}
	if plain != h.Promised() || plain > size {
		return fmt.Sprintf("%d promised, %d are plain, there are %d frames", h.Promised(), plain, size)
	}
	left := 0
	for f := range refs {
		if refs[f] == 0 {
			left++
		}
		if fr, err := h.Frame(f); fr.Refs != refs[f] || fr.Class != min(refs[f], api.Shared) || err != nil {
			return fmt.Sprintf("the frame %d is %v, %v; %d pages are in it", f, fr, err, refs[f])
		}
	}
	if left != h.Left() {
		return fmt.Sprintf("%d are left, it tells %d", left, h.Left())
	}
	return ""
}

// W3: a frame has just the pages that are in it; one that may be written is alone; no more is promised than there are frames.
func TestFramesAreSound(t *testing.T) {
	d, shared := die(8), 0
	for range 150 {
		h, size, many := tight(t, &d)
		for range 200 {
			a := draw(&d, many)
			if d.n(60) == 0 {
				_ = h.Remove(a.n)
				_, _ = h.Add()
			}
			_ = a.on(h)
			if wrong := sound(h, size); wrong != "" {
				t.Fatalf("behind %v: %s", a, wrong)
			}
			for f := range size {
				if fr, _ := h.Frame(f); fr.Class == api.Shared {
					shared++
				}
			}
		}
	}
	if shared < 5000 {
		t.Errorf("only %d frames were shared: that says little", shared)
	}
}

// twins: two pages with the same bytes in different frames, if there are any.
func twins(h *host.Host) string {
	at := map[[api.Page]byte]int{}
	for _, n := range h.Guests() {
		for page := range api.Pages {
			leaf, _ := h.Leaf(n, page)
			if !leaf.There {
				continue
			}
			l := bytes(h, n, page)
			if f, ok := at[l]; ok && f != leaf.Frame {
				return fmt.Sprintf("%v is in the frames %d and %d", l, f, leaf.Frame)
			}
			at[l] = leaf.Frame
		}
	}
	return ""
}

// W4: behind a scan of all no two pages with the same bytes are in different frames; each one that joined was told.
func TestScanAllLeavesNoTwins(t *testing.T) {
	d, joined := die(77), 0
	for range 150 {
		h, _, many := tight(t, &d)
		for range 8 {
			for range 20 {
				_ = draw(&d, many).on(h)
			}
			had := twins(h) != ""
			n := h.ScanAll()
			joined += n
			if wrong := twins(h); wrong != "" {
				t.Fatal(wrong)
			}
			if had != (n > 0) || h.ScanAll() != 0 {
				t.Fatalf("ScanAll: %d joined; were there any: %v", n, had)
			}
		}
	}
	if joined < 500 {
		t.Errorf("only %d pages joined others: that says little", joined)
	}
}
