package guest_test

import (
	"fmt"
	"slices"
	"testing"

	"undercroft/api"
	"undercroft/frames"
	"undercroft/guest"
	"undercroft/leaves"
)

// die: numbers that look drawn, the same each time.
type die uint64

func (d *die) n(most int) int {
	*d = *d*2862933555777941757 + 3037000493
	return int(uint64(*d>>33) % uint64(most))
}

// known: what a model remembers of a table: its byte.
type known struct {
	root, page int
	said       byte
}

// model of a guest, in other means than the program's: what is remembered is the table's byte, and leaves are looked up when they are told.
type model struct {
	pool   *frames.Pool
	pages  *leaves.Map
	memory []known
	root   int
	walks  int
}

func newModel(p *frames.Pool) *model {
	pages, _ := leaves.New(p)
	return &model{pool: p, pages: pages, root: -1}
}

func (m *model) copy(p *frames.Pool) *model {
	return &model{p, m.pages.Copy(p), slices.Clone(m.memory), m.root, m.walks}
}

// cached: as a guest tells it.
func (m *model) cached() []api.Entry {
	l := []api.Entry{}
	for _, k := range m.memory {
		leaf, _ := m.pages.Leaf(int(k.said % 16))
		l = append(l, api.Entry{Root: k.root, Page: k.page, To: int(k.said % 16), May: k.said/64%2 == 1, Leaf: leaf})
	}
	return l
}

func (m *model) forget(goes func(known) bool) { m.memory = slices.DeleteFunc(m.memory, goes) }

func (m *model) setRoot(n int) error {
	if n < -1 || n > 15 {
		return api.ErrBound
	}
	m.root = n
	return nil
}

func (m *model) forgetOne(addr int) error {
	if addr < 0 || addr > 255 {
		return api.ErrBound
	}
	m.forget(func(k known) bool { return k.root == m.root && k.page == addr/16 })
	return nil
}

func (m *model) forgetAll(root int) error {
	if root < 0 || root > 15 {
		return api.ErrBound
	}
	m.forget(func(k known) bool { return k.root == root })
	return nil
}

// said: the table's byte of a page, remembered or read.
func (m *model) said(page int) (said byte, read bool, err error) {
	for _, k := range m.memory {
		if k.root == m.root && k.page == page {
			return k.said, false, nil
		}
	}
	frame, _, err := m.pages.Touch(m.root, false)
	if err != nil {
		return 0, true, err
	}
	m.walks++
	said, err = m.pool.Get(frame, page)
	return said, true, err
}

// access: a load, or a store of what is handed in.
func (m *model) access(addr int, store *byte) (byte, error) {
	if addr < 0 || addr > 255 {
		return 0, api.ErrBound
	}
	to, page := addr/16, addr/16
	if m.root >= 0 {
		said, read, err := m.said(page)
		if err != nil {
			return 0, err
		}
		if said < 128 || store != nil && said < 192 {
			return 0, api.ErrFault
		}
		to = int(said % 16)
		if _, _, err := m.pages.Touch(to, store != nil); err != nil {
			return 0, err
		}
		if read {
			m.memory = append(m.memory, known{m.root, page, said})
			m.memory = m.memory[max(0, len(m.memory)-4):]
		}
	}
	frame, _, err := m.pages.Touch(to, store != nil)
	if err != nil {
		return 0, err
	}
	if store != nil {
		return 0, m.pool.Set(frame, addr%16, *store)
	}
	return m.pool.Get(frame, addr%16)
}

// seen: as seen tells it of a guest.
func (m *model) seen() string {
	s := fmt.Sprint("; ", m.root, m.walks, m.cached())
	for n := range api.Pages {
		state, e := m.pages.State(n)
		leaf, x := m.pages.Leaf(n)
		s += fmt.Sprint(" ", state, e, leaf, x)
	}
	return s
}

// bench: two guests on a pool, and their models on another one.
type bench struct {
	p, q   *frames.Pool
	guests [2]*guest.Guest
	models [2]*model
}

func newBench(size int) bench {
	p, _ := frames.New(size)
	q, _ := frames.New(size)
	b := bench{p: p, q: q}
	for who := range b.guests {
		b.guests[who], _ = guest.New(p)
		b.models[who] = newModel(q)
	}
	return b
}

func (b bench) copy() bench {
	p, q := b.p.Copy(), b.q.Copy()
	return bench{p, q, [2]*guest.Guest{b.guests[0].Copy(p), b.guests[1].Copy(p)}, [2]*model{b.models[0].copy(q), b.models[1].copy(q)}}
}

// differs: what the guests tell, and what the models do, if that isn't the same.
func (b bench) differs() string {
	got := seen(b.p, b.guests[0], b.guests[1])
	want := pooled(b.q) + b.models[0].seen() + b.models[1].seen()
	if got == want {
		return ""
	}
	return fmt.Sprintf("%q, wanted %q", got, want)
}

// drawn: a number below most, now and then one beyond.
func (d *die) drawn(most int) int {
	if d.n(40) == 0 {
		return []int{-1, -2, api.Pages, api.MaxAddr, api.MaxAddr + 1}[d.n(5)]
	}
	return d.n(most)
}

// step: one drawn call of a guest, and of its model: what both answer.
func (b bench) step(d *die) (what, got, want string) {
	who := d.n(2)
	g, m := b.guests[who], b.models[who]
	n, addr := d.drawn(5), d.drawn(5)*api.Page+d.n(5)
	switch d.n(5) {
	case 0:
		v, e := g.Load(addr)
		w, x := m.access(addr, nil)
		return fmt.Sprint("Load ", who, addr), fmt.Sprint(v, e), fmt.Sprint(w, x)
	case 1, 2:
		v := byte([]int{0, 128 + d.n(5), 192 + d.n(5), 255 - d.n(256)}[d.n(4)])
		_, x := m.access(addr, &v)
		return fmt.Sprint("Store ", who, addr, v), fmt.Sprint(g.Store(addr, v)), fmt.Sprint(x)
	case 3:
		return b.steer(d, who, n, addr)
	default:
		return b.shift(d, who, n)
	}
}

// steer: a drawn call that changes no page.
func (b bench) steer(d *die, who, n, addr int) (what, got, want string) {
	g, m := b.guests[who], b.models[who]
	switch d.n(5) {
	case 0, 1, 2:
		n -= d.n(2)
		return fmt.Sprint("SetRoot ", who, n), fmt.Sprint(g.SetRoot(n)), fmt.Sprint(m.setRoot(n))
	case 3:
		return fmt.Sprint("Forget ", who, addr), fmt.Sprint(g.Forget(addr)), fmt.Sprint(m.forgetOne(addr))
	default:
		return fmt.Sprint("ForgetAll ", who, n), fmt.Sprint(g.ForgetAll(n)), fmt.Sprint(m.forgetAll(n))
	}
}

// shift: a drawn call that changes a page.
func (b bench) shift(d *die, who, n int) (what, got, want string) {
	g, m := b.guests[who], b.models[who].pages
	f := d.drawn(b.p.Size())
	switch d.n(9) {
	case 0, 1, 2:
		return fmt.Sprint("Plug ", who, n), fmt.Sprint(g.Plug(n)), fmt.Sprint(m.Plug(n))
	case 3:
		return fmt.Sprint("Unplug ", who, n), fmt.Sprint(g.Unplug(n)), fmt.Sprint(m.Unplug(n))
	case 4:
		return fmt.Sprint("Give ", who, n), fmt.Sprint(g.Give(n)), fmt.Sprint(m.Give(n))
	case 5:
		return fmt.Sprint("Back ", who, n), fmt.Sprint(g.Back(n)), fmt.Sprint(m.Back(n))
	case 6:
		return fmt.Sprint("Seal ", who, n), fmt.Sprint(g.Seal(n)), fmt.Sprint(m.Seal(n))
	default:
		return fmt.Sprint("Join ", who, n, f), fmt.Sprint(g.Join(n, f)), fmt.Sprint(m.Join(n, f))
	}
}

// D1 to D3: drawn calls in a row answer what the models answer, and leave what they have; guests that were copied stay as they were.
func TestAgainstModel(t *testing.T) {
	d := die(5)
	for range 150 {
		b := newBench(1 + d.n(10))
		left := b.copy()
		for range 200 {
			what, got, want := b.step(&d)
			if diff := b.differs(); got != want || diff != "" {
				t.Fatalf("%s: %s, wanted %s; %s", what, got, want, diff)
			}
			if d.n(30) == 0 {
				left = b
				b = b.copy()
			}
		}
		if diff := left.differs(); diff != "" {
			t.Fatalf("guests that were copied became %s", diff)
		}
	}
}

// ownMemory of a guest: the first few of its pages as bytes, its table, and what is remembered of it; no frames at all.
type ownMemory struct {
	plain  [few]bool
	bytes  [few][api.Page]byte
	memory []known
	root   int
}

// few pages: all that are plugged where sharing is drawn.
const few = 5

// said: what the table, or what is remembered of it, says of a page.
func (o *ownMemory) said(page int) (k known, read bool, err error) {
	for _, k := range o.memory {
		if k.root == o.root && k.page == page {
			return k, false, nil
		}
	}
	if !o.plain[o.root] {
		return known{}, true, api.ErrNone
	}
	return known{o.root, page, o.bytes[o.root][page]}, true, nil
}

// lead: the page that an address leads to.
func (o *ownMemory) lead(page int, store bool) (int, error) {
	if o.root < 0 {
		return page, nil
	}
	k, read, err := o.said(page)
	if err != nil {
		return 0, err
	}
	if k.said < 128 || store && k.said < 192 {
		return 0, api.ErrFault
	}
	to := int(k.said % 16)
	if read && to < few && o.plain[to] {
		o.memory = append(o.memory, k)
		o.memory = o.memory[max(0, len(o.memory)-4):]
	}
	return to, nil
}

// access: a load, or a store of what is handed in.
func (o *ownMemory) access(addr int, store *byte) (byte, error) {
	to, err := o.lead(addr/16, store != nil)
	if err != nil {
		return 0, err
	}
	if to >= few || !o.plain[to] {
		return 0, api.ErrNone
	}
	if store != nil {
		o.bytes[to][addr%16] = *store
		return 0, nil
	}
	return o.bytes[to][addr%16], nil
}

func (o *ownMemory) forget(addr int) {
	o.memory = slices.DeleteFunc(o.memory, func(k known) bool { return k.root == o.root && k.page == addr/16 })
}

// share: pages of the guests that have the same bytes go into one frame, sealed: how many did.
func share(p *frames.Pool, guests ...*guest.Guest) int {
	joined := 0
	for _, g := range guests {
		for n := range few {
			_ = g.Seal(n)
			leaf, _ := g.Leaf(n)
			for f := range leaf.Frame {
				if p.Same(f, leaf.Frame) && g.Join(n, f) == nil {
					joined++
					break
				}
			}
		}
	}
	return joined
}

// guided: a drawn call of a guest and of a memory of its own that is neither a load nor a store.
func guided(d *die, g *guest.Guest, o *ownMemory, n, addr int) {
	switch d.n(4) {
	case 0:
		if g.Plug(n) == nil {
			o.plain[n], o.bytes[n] = true, [api.Page]byte{}
		}
	case 1:
		if d.n(3) == 0 && g.Unplug(n) == nil {
			o.plain[n] = false
		}
	case 2:
		_ = g.SetRoot(n - 1)
		o.root = n - 1
	default:
		_ = g.Forget(addr)
		o.forget(addr)
	}
}

// D2, D3: whatever is shared between guests, each is told what a memory of its own would tell it.
func TestSharingIsNotSeen(t *testing.T) {
	d, joined := die(9), 0
	for range 200 {
		p, a := on(t, 2*few, few)
		guests := [2]*guest.Guest{a, beside(t, p, few)}
		var memories [2]ownMemory
		for who := range memories {
			memories[who] = ownMemory{root: -1, plain: [few]bool{true, true, true, true, true}}
		}
		for range 250 {
			who, n, addr := d.n(2), d.n(few), 16*d.n(few)+d.n(few)
			g, o := guests[who], &memories[who]
			switch c := d.n(20); {
			case c < 4:
				guided(&d, g, o, n, addr)
			case c < 8:
				joined += share(p, guests[:]...)
			case c < 14:
				v := byte([]int{0, 128 + d.n(6), 192 + d.n(6), d.n(2)}[d.n(4)])
				_, want := o.access(addr, &v)
				if err := g.Store(addr, v); err != want {
					t.Fatalf("Store(%d, %d): %v, wanted %v", addr, v, err, want)
				}
			default:
				want, x := o.access(addr, nil)
				if v, err := g.Load(addr); v != want || err != x {
					t.Fatalf("Load(%d): %d, %v; wanted %d, %v", addr, v, err, want, x)
				}
			}
		}
	}
	if joined < 1000 {
		t.Errorf("only %d pages joined others: that says little", joined)
	}
}
