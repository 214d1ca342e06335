package host_test

import (
	"testing"

	"undercroft/api"
	"undercroft/host"
)

// marked: a host on which each guest has a block, and each of its pages, in this order, the byte that is handed in at its start; 0: it was never touched.
func marked(t *testing.T, size int, marks ...[]byte) *host.Host {
	t.Helper()
	h := of(t, size)
	for n, l := range marks {
		adds(t, h, n)
		plugs(t, h, n, 0)
		for page, v := range l {
			if v > 0 {
				stores(t, h, n, page*api.Page, v)
			}
		}
	}
	return h
}

// E4: a page joins the first one ahead with the same bytes, of its own guest or of a lower one; both are sealed.
func TestScan(t *testing.T) {
	h := marked(t, 12, []byte{5, 6}, []byte{7, 5, 5})
	scans(t, h, 1, 1, true)
	is(t, h, 1, 1, api.Plain, sealed(0))
	is(t, h, 0, 0, api.Plain, sealed(0))
	is(t, h, 0, 1, api.Plain, own(1))
	is(t, h, 1, 0, api.Plain, own(2))
	is(t, h, 1, 2, api.Plain, own(4))
	frame(t, h, 0, 2)
	frame(t, h, 3, 0)
	counts(t, h, 8, 8)
	ahead := seen(h)
	scans(t, h, 1, 1, false)
	same(t, "a page that joined already", h, ahead)
	scans(t, h, 1, 2, true)
	frame(t, h, 0, 3)
	is(t, h, 1, 2, api.Plain, sealed(0))
	counts(t, h, 8, 9)
}

// E4: the guest's own pages are ahead by their numbers alone.
func TestScanOwn(t *testing.T) {
	h := marked(t, 8, []byte{5, 5, 0, 5})
	scans(t, h, 0, 0, false)
	is(t, h, 0, 0, api.Plain, own(0))
	scans(t, h, 0, 3, true)
	is(t, h, 0, 3, api.Plain, sealed(0))
	is(t, h, 0, 0, api.Plain, sealed(0))
	is(t, h, 0, 1, api.Plain, own(1))
	scans(t, h, 0, 1, true)
	frame(t, h, 0, 3)
}

// E4: pages behind are not looked at: neither the guest's own ones nor those of higher guests, at whatever page.
func TestScanBehind(t *testing.T) {
	h := marked(t, 12, []byte{0, 0, 0, 5}, []byte{5, 0, 5}, []byte{5})
	ahead := seen(h)
	scans(t, h, 0, 3, false)
	same(t, "Scan of the first", h, ahead)
	scans(t, h, 2, 0, true)
	is(t, h, 2, 0, api.Plain, sealed(0))
	is(t, h, 1, 0, api.Plain, own(1))
	scans(t, h, 1, 2, true)
	is(t, h, 1, 2, api.Plain, sealed(0))
	is(t, h, 1, 0, api.Plain, own(1))
}

// E4: all of a lower guest's pages are ahead of a higher one's first.
func TestScanLowerGuest(t *testing.T) {
	h := of(t, 40)
	for n := range 3 {
		adds(t, h, n)
		for _, block := range []int{0, 3} {
			plugs(t, h, n, block)
		}
	}
	stores(t, h, 1, 15*16, 9)
	stores(t, h, 2, 0, 9)
	scans(t, h, 2, 0, true)
	is(t, h, 2, 0, api.Plain, sealed(0))
	stores(t, h, 0, 15*16, 9)
	frame(t, h, 1, 1)
	scans(t, h, 1, 15, true)
	is(t, h, 1, 15, api.Plain, sealed(1))
	is(t, h, 2, 0, api.Plain, sealed(0))
	scans(t, h, 2, 0, true)
	frame(t, h, 1, 3)
	frame(t, h, 0, 0)
}

// E4: a guest that was removed is not looked at, one that came in its place is.
func TestScanRemoved(t *testing.T) {
	h := marked(t, 12, []byte{5}, []byte{5}, []byte{5})
	says(t, "Remove", h.Remove(0), api.OK)
	scans(t, h, 2, 0, true)
	is(t, h, 2, 0, api.Plain, sealed(1))
	is(t, h, 1, 0, api.Plain, sealed(1))
	adds(t, h, 0)
	plugs(t, h, 0, 0)
	stores(t, h, 0, 3*16, 5)
	scans(t, h, 1, 0, true)
	is(t, h, 1, 0, api.Plain, sealed(0))
	is(t, h, 2, 0, api.Plain, sealed(1))
}

// E4: a page that is in no frame joins nothing, and nothing joins it: absent, given, or plain and never touched.
func TestScanNowhere(t *testing.T) {
	h := marked(t, 12, []byte{0, 3}, []byte{0, 7, 3})
	loads(t, h, 1, 0, 0)
	gives(t, h, 1, 2)
	ahead := seen(h)
	for n := range 2 {
		for page := range api.Pages {
			scans(t, h, n, page, false)
		}
	}
	same(t, "Scan", h, ahead)
	scansAll(t, h, 0)
	same(t, "ScanAll", h, ahead)
}

// E4: pages of noughts that were touched have the same bytes as well.
func TestScanNoughts(t *testing.T) {
	h := marked(t, 8, nil, nil)
	loads(t, h, 0, 16, 0)
	stores(t, h, 1, 32, 0)
	scans(t, h, 1, 2, true)
	is(t, h, 1, 2, api.Plain, sealed(0))
}

// E4: each byte of a page counts.
func TestScanBytes(t *testing.T) {
	h := marked(t, 8, []byte{5}, []byte{5})
	for at := range api.Page {
		stores(t, h, 1, at, 77)
		ahead := seen(h)
		scans(t, h, 1, 0, false)
		same(t, "Scan of other bytes", h, ahead)
		v := byte(0)
		if at == 0 {
			v = 5
		}
		stores(t, h, 1, at, v)
	}
	scans(t, h, 1, 0, true)
}

// E4: all pages that are in that frame are sealed, whichever guest's.
func TestScanSeals(t *testing.T) {
	h := marked(t, 16, []byte{5, 5}, []byte{5, 5}, []byte{0, 5})
	scans(t, h, 2, 1, true)
	scans(t, h, 1, 1, true)
	for _, at := range [][2]int{{0, 0}, {1, 1}, {2, 1}} {
		is(t, h, at[0], at[1], api.Plain, sealed(0))
	}
	stores(t, h, 0, 0, 6)
	is(t, h, 0, 0, api.Plain, own(3))
	// Of the three pages in the frame 0 two went, so the last one may write there again, until it joins another one.
	stores(t, h, 1, 16, 8)
	stores(t, h, 2, 16, 5)
	is(t, h, 2, 1, api.Plain, own(0))
	stores(t, h, 0, 0, 5)
	scansAll(t, h, 3)
	for _, at := range [][2]int{{0, 0}, {0, 1}, {1, 0}, {2, 1}} {
		is(t, h, at[0], at[1], api.Plain, sealed(3))
	}
	is(t, h, 1, 1, api.Plain, own(4))
	frame(t, h, 3, 4)
}

// E4: a page alone in a frame in which it was sealed, and that has been written since, is sealed anew.
func TestScanSealsAnew(t *testing.T) {
	h := marked(t, 12, []byte{5, 5}, []byte{5})
	scans(t, h, 0, 1, true)
	gives(t, h, 0, 1)
	is(t, h, 0, 0, api.Plain, sealed(0))
	stores(t, h, 0, 0, 5)
	is(t, h, 0, 0, api.Plain, own(0))
	scans(t, h, 1, 0, true)
	is(t, h, 0, 0, api.Plain, sealed(0))
	is(t, h, 1, 0, api.Plain, sealed(0))
}

// E4: the first one with the same bytes counts, if it is in the page's own frame as well: then nothing is joined.
func TestScanFirstIsOwnFrame(t *testing.T) {
	h := marked(t, 12, []byte{5, 6, 5}, []byte{5})
	scans(t, h, 1, 0, true)
	ahead := seen(h)
	scans(t, h, 1, 0, false)
	same(t, "Scan, the first one being in the same frame", h, ahead)
	is(t, h, 0, 2, api.Plain, own(2))
	scans(t, h, 0, 2, true)
}

// E4: a page leaves the frame that it shares with others behind, and they follow when they are scanned.
func TestScanLeavesShared(t *testing.T) {
	h := marked(t, 12, []byte{6}, []byte{5}, []byte{5, 5})
	scans(t, h, 2, 0, true)
	scans(t, h, 2, 1, true)
	frame(t, h, 1, 3)
	stores(t, h, 0, 0, 5)
	scans(t, h, 2, 0, true)
	frame(t, h, 0, 2)
	frame(t, h, 1, 2)
	is(t, h, 2, 0, api.Plain, sealed(0))
	is(t, h, 2, 1, api.Plain, sealed(1))
	scansAll(t, h, 2)
	frame(t, h, 0, 4)
	frame(t, h, 1, 0)
}

// E4: what is remembered of a page points to where it is, behind a scan, of all guests that are in the frame.
func TestScanPointsEntries(t *testing.T) {
	h := with(t, 12, 1, 1)
	for n := range 2 {
		stores(t, h, n, 0, byte(192+1+n))
		roots(t, h, n, 0)
		stores(t, h, n, 5, 77)
	}
	entry := func(n int, leaf api.Leaf) api.Entry { return api.Entry{To: n + 1, May: true, Leaf: leaf} }
	remembers(t, h, 0, entry(0, own(1)))
	remembers(t, h, 1, entry(1, own(3)))
	scans(t, h, 1, 2, true)
	remembers(t, h, 0, entry(0, sealed(1)))
	remembers(t, h, 1, entry(1, sealed(1)))
	stores(t, h, 0, 5, 78)
	remembers(t, h, 0, entry(0, own(3)))
	loads(t, h, 1, 5, 77)
	stores(t, h, 1, 6, 1)
	remembers(t, h, 1, entry(1, own(1)))
}

// E4: ScanAll scans by guests and numbers, and tells how many pages joined.
func TestScanAll(t *testing.T) {
	h := marked(t, 16, []byte{5, 6, 5, 7}, []byte{7, 5, 8, 9}, []byte{9, 6, 5, 10}, []byte{1, 1, 1, 1})
	counts(t, h, 16, 0)
	scansAll(t, h, 9)
	counts(t, h, 16, 9)
	// 5, 6, 7 of the guest 0; 8, 9 of the guest 1; 10 and 1.
	for f, refs := range map[int]int{0: 4, 1: 2, 3: 2, 6: 1, 7: 2, 11: 1, 12: 4, 2: 0, 4: 0, 15: 0} {
		frame(t, h, f, refs)
	}
	ahead := seen(h)
	scansAll(t, h, 0)
	same(t, "ScanAll again", h, ahead)
}

// E4: the last page of the last guest is scanned as well, and sealed where others join it, or it others.
func TestScanAllLast(t *testing.T) {
	h := with(t, 8, 0, 0, 0, 0)
	plugs(t, h, 3, 3)
	stores(t, h, 3, 14*16, 5)
	stores(t, h, 3, 15*16, 5)
	scansAll(t, h, 1)
	is(t, h, 3, 14, api.Plain, sealed(0))
	is(t, h, 3, 15, api.Plain, sealed(0))
	frame(t, h, 0, 2)
}

// E4: a host that was copied, and its copy, go on apart.
func TestCopy(t *testing.T) {
	for what, change := range changes() {
		h := copied(t)
		ahead := seen(h)
		c := h.Copy()
		same(t, "a copy", c, ahead)
		change(h)
		changed := seen(h)
		if changed == ahead {
			t.Errorf("%s changed nothing", what)
		}
		same(t, what+" changed the copy", c, ahead)
		change(c)
		same(t, what+" of the copy", c, changed)
		stores(t, c, 1, 5, 200)
		gives(t, c, 1, 2)
		says(t, "Remove", c.Remove(1), api.OK)
		same(t, what+": the copy changed what was copied", h, changed)
	}
}

// copied: a host with something of all kinds; 0 and 1 are its guests.
func copied(t *testing.T) *host.Host {
	t.Helper()
	h := with(t, 24, 2, 1)
	for n := range 2 {
		stores(t, h, n, 0, 193)
		stores(t, h, n, 33, 9)
		roots(t, h, n, 0)
		stores(t, h, n, 5, 7)
	}
	gives(t, h, 0, 7)
	scans(t, h, 1, 1, true)
	return h
}

// changes: each way in which copied's host becomes another one.
func changes() map[string]func(*host.Host) {
	return map[string]func(*host.Host){
		"Add":       func(h *host.Host) { _, _ = h.Add() },
		"Remove":    func(h *host.Host) { _ = h.Remove(0) },
		"Plug":      func(h *host.Host) { _ = h.Plug(0, 2) },
		"Unplug":    func(h *host.Host) { _ = h.Unplug(0, 1) },
		"Give":      func(h *host.Host) { _ = h.Give(0, 2) },
		"Back":      func(h *host.Host) { _ = h.Back(0, 7) },
		"Load":      func(h *host.Host) { _ = h.SetRoot(0, -1); _, _ = h.Load(0, 3*16) },
		"Store":     func(h *host.Host) { _ = h.Store(0, 5, 8) },
		"SetRoot":   func(h *host.Host) { _ = h.SetRoot(0, 2) },
		"Forget":    func(h *host.Host) { _ = h.Forget(0, 5) },
		"ForgetAll": func(h *host.Host) { _ = h.ForgetAll(0, 0) },
		"Scan":      func(h *host.Host) { _, _ = h.Scan(1, 2) },
		"ScanAll":   func(h *host.Host) { _ = h.ScanAll() },
	}
}

// E5: all that is promised can be had: each page is written, while all were shared, in all orders.
func TestNoWantOfFrames(t *testing.T) {
	for first := range 16 {
		h := marked(t, 16, nil, nil, nil, nil)
		for turn := range 3 {
			for i := range 16 {
				n, page := (i+first)%16/4, (i+first)%4
				loads(t, h, n, 16*page+1, 0)
				stores(t, h, n, 16*page, byte(1+turn))
			}
			counts(t, h, 16, 0)
			scansAll(t, h, 15)
			counts(t, h, 16, 15)
		}
	}
}

// E5: what is given back is noughts, and stays its guest's alone: what others have from the frame it had is not seen.
func TestGivenFramesAreNotSeen(t *testing.T) {
	h := with(t, 4, 1, 0)
	for page := range api.Block {
		stores(t, h, 0, 16*page, byte(100+page))
		gives(t, h, 0, page)
	}
	plugs(t, h, 1, 0)
	for page := range api.Block {
		loads(t, h, 1, 16*page, 0)
		stores(t, h, 1, 16*page, 50)
	}
	unplugs(t, h, 1, 0)
	for page := range api.Block {
		backs(t, h, 0, page)
		loads(t, h, 0, 16*page, 0)
	}
}

// shared: two guests of which the page 0 is in one frame.
func shared(t *testing.T) *host.Host {
	t.Helper()
	h := marked(t, 8, []byte{5}, []byte{5})
	scans(t, h, 1, 0, true)
	return h
}

// E5: whatever one guest does with a page that is shared, the other one reads what it wrote itself, and may write.
func TestSharedIsNotSeen(t *testing.T) {
	acts := map[string]func(*host.Host, int){
		"Store":  func(h *host.Host, n int) { _ = h.Store(n, 0, 99) },
		"Give":   func(h *host.Host, n int) { _ = h.Give(n, 0) },
		"Unplug": func(h *host.Host, n int) { _ = h.Unplug(n, 0) },
		"Remove": func(h *host.Host, n int) { _ = h.Remove(n) },
	}
	for what, act := range acts {
		for n := range 2 {
			h := shared(t)
			act(h, n)
			other := 1 - n
			loads(t, h, other, 0, 5)
			is(t, h, other, 0, api.Plain, sealed(0))
			frame(t, h, 0, 1)
			stores(t, h, other, 1, 6)
			loads(t, h, other, 0, 5)
			loads(t, h, other, 1, 6)
			is(t, h, other, 0, api.Plain, own(0))
			if what == "Store" {
				loads(t, h, n, 0, 99)
				loads(t, h, n, 1, 0)
			}
		}
	}
}

// The document's session.
func TestSession(t *testing.T) {
	h := of(t, 10)
	adds(t, h, 0)
	plugs(t, h, 0, 0)
	plugs(t, h, 0, 1)
	adds(t, h, 1)
	says(t, "Plug", h.Plug(1, 0), api.ErrCommit)
	gives(t, h, 0, 7)
	gives(t, h, 0, 6)
	plugs(t, h, 1, 0)
	counts(t, h, 10, 10)
	for addr, v := range []byte{195, 194, 130} {
		stores(t, h, 0, addr, v)
	}
	tables(t, h)
	stores(t, h, 1, 5, 77)
	counts(t, h, 10, 5)
	is(t, h, 1, 0, api.Plain, own(4))
	scansAll(t, h, 1)
	is(t, h, 1, 0, api.Plain, sealed(1))
	is(t, h, 0, 3, api.Plain, sealed(1))
	frame(t, h, 1, 2)
	counts(t, h, 10, 6)
	stores(t, h, 1, 5, 78)
	loads(t, h, 0, 53, 77)
	is(t, h, 0, 3, api.Plain, sealed(1))
	is(t, h, 1, 0, api.Plain, own(4))
	stores(t, h, 0, 53, 79)
	is(t, h, 0, 3, api.Plain, own(1))
	loads(t, h, 1, 37, 0)
	unplugs(t, h, 1, 0)
	backs(t, h, 0, 6)
	loads(t, h, 0, 96, 0)
	_, err := h.Load(0, 113)
	says(t, "Load", err, api.ErrGone)
	says(t, "Remove", h.Remove(1), api.OK)
	guests(t, h, 0)
	_, err = h.Load(0, 256)
	says(t, "Load", err, api.ErrBound)
}

// tables: what the session's guest 0 does with its tables.
func tables(t *testing.T, h *host.Host) {
	t.Helper()
	roots(t, h, 0, 0)
	loads(t, h, 0, 5, 0)
	stores(t, h, 0, 5, 77)
	roots(t, h, 0, -1)
	loads(t, h, 0, 53, 77)
	roots(t, h, 0, 0)
	says(t, "Store", h.Store(0, 33, 1), api.ErrFault)
	stores(t, h, 0, 17, 5)
	loads(t, h, 0, 33, 5)
	roots(t, h, 0, -1)
	stores(t, h, 0, 0, 193)
	roots(t, h, 0, 0)
	loads(t, h, 0, 5, 77)
	says(t, "Forget", h.Forget(0, 5), api.OK)
	loads(t, h, 0, 5, 0)
	roots(t, h, 0, -1)
}
