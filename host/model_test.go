package host_test

import (
	"fmt"
	"slices"
	"testing"

	"undercroft/api"
	"undercroft/host"
)

// die: numbers that look drawn, the same each time.
type die uint64

func (d *die) n(most int) int {
	*d = *d*2862933555777941757 + 3037000493
	return int(uint64(*d>>33) % uint64(most))
}

// drawn: a number below most, now and then one that may be beyond.
func (d *die) drawn(most int) int {
	if d.n(40) == 0 {
		return []int{-1, -2, 3, 4, api.Pages, api.MaxAddr, api.MaxAddr + 1}[d.n(7)]
	}
	return d.n(most)
}

// said: a byte that may well be a table's.
func (d *die) said() byte {
	return byte([]int{0, 128 + d.n(6), 192 + d.n(6), d.n(3)}[d.n(4)])
}

// known: what a model remembers of a table: its byte.
type known struct {
	root, page int
	said       byte
}

// sheet: a page in a model; box: what is in its frame.
type sheet struct {
	state int
	box   *[api.Page]byte
	write bool
}

// person: a guest in a model.
type person struct {
	sheets [api.Pages]sheet
	memory []known
	root   int
}

// model of a host, in other means than the program's: pages of one frame have one box, and are counted when that is asked.
type model struct {
	boxes   []*[api.Page]byte // by frames; nil: free
	persons [api.MaxGuests]*person
}

func (m *model) copy() *model {
	c := &model{boxes: make([]*[api.Page]byte, len(m.boxes))}
	twin := map[*[api.Page]byte]*[api.Page]byte{}
	for f, b := range m.boxes {
		if b != nil {
			other := *b
			c.boxes[f], twin[b] = &other, &other
		}
	}
	for n, p := range m.persons {
		if p == nil {
			continue
		}
		other := *p
		other.memory = slices.Clone(p.memory)
		for i := range other.sheets {
			other.sheets[i].box = twin[p.sheets[i].box]
		}
		c.persons[n] = &other
	}
	return c
}

// all sheets in order, of guests that are there.
func (m *model) all() (l []*sheet) {
	for _, p := range m.persons {
		if p != nil {
			for i := range p.sheets {
				l = append(l, &p.sheets[i])
			}
		}
	}
	return l
}

// inside: how many pages are in the frame of a box.
func (m *model) inside(b *[api.Page]byte) (refs int) {
	for _, s := range m.all() {
		if b != nil && s.box == b {
			refs++
		}
	}
	return refs
}

func (m *model) promised() (plain int) {
	for _, s := range m.all() {
		if s.state == api.Plain {
			plain++
		}
	}
	return plain
}

func (m *model) leave(s *sheet, state int) {
	if m.inside(s.box) == 1 {
		m.boxes[slices.Index(m.boxes, s.box)] = nil
	}
	*s = sheet{state: state}
}

// person of a number.
func (m *model) person(n int) (*person, error) {
	switch n {
	case 0, 1, 2, 3:
		if m.persons[n] == nil {
			return nil, api.ErrNone
		}
		return m.persons[n], nil
	}
	return nil, api.ErrBound
}

// sheet of a guest.
func (m *model) sheet(n, page int) (*sheet, error) {
	p, err := m.person(n)
	if err != nil {
		return nil, err
	}
	if page < 0 || page > 15 {
		return nil, api.ErrBound
	}
	return &p.sheets[page], nil
}

func (m *model) add() (int, error) {
	n := slices.Index(m.persons[:], nil)
	if n < 0 {
		return 0, api.ErrHeld
	}
	m.persons[n] = &person{root: -1}
	return n, nil
}

func (m *model) remove(n int) error {
	p, err := m.person(n)
	if err != nil {
		return err
	}
	for i := range p.sheets {
		m.leave(&p.sheets[i], api.Absent)
	}
	m.persons[n] = nil
	return nil
}

// block: plugged, or unplugged.
func (m *model) block(n, block int, plug bool) error {
	p, err := m.person(n)
	if err != nil {
		return err
	}
	if block < 0 || block > 3 {
		return api.ErrBound
	}
	l := p.sheets[4*block:][:4]
	switch absent := l[0].state == api.Absent; {
	case plug && !absent:
		return api.ErrHeld
	case plug && m.promised() > len(m.boxes)-4:
		return api.ErrCommit
	case !plug && absent:
		return api.ErrNone
	}
	for i := range l {
		if plug {
			l[i].state = api.Plain
		} else {
			m.leave(&l[i], api.Absent)
		}
	}
	return nil
}

func (m *model) give(n, page int) error {
	s, err := m.sheet(n, page)
	if err != nil {
		return err
	}
	if s.state != api.Plain {
		return api.ErrState
	}
	m.leave(s, api.Given)
	return nil
}

func (m *model) back(n, page int) error {
	s, err := m.sheet(n, page)
	if err != nil {
		return err
	}
	if s.state != api.Given {
		return api.ErrState
	}
	if m.promised() == len(m.boxes) {
		return api.ErrCommit
	}
	s.state = api.Plain
	return nil
}

// touch a page: a box of its own, if it has none, or has to have one.
func (m *model) touch(s *sheet, write bool) error {
	switch {
	case s.state == api.Absent:
		return api.ErrNone
	case s.state == api.Given:
		return api.ErrGone
	case s.box != nil && (!write || m.inside(s.box) == 1):
		s.write = s.write || write
		return nil
	}
	f := slices.Index(m.boxes, nil)
	if f < 0 {
		return api.ErrFull
	}
	b := &[api.Page]byte{}
	if s.box != nil {
		*b = *s.box
	}
	m.leave(s, api.Plain)
	m.boxes[f], s.box, s.write = b, b, true
	return nil
}

// said: the table's byte of a page, remembered or read.
func (m *model) said(p *person, page int) (said byte, read bool, err error) {
	for _, k := range p.memory {
		if k.root == p.root && k.page == page {
			return k.said, false, nil
		}
	}
	table := &p.sheets[p.root]
	if err := m.touch(table, false); err != nil {
		return 0, true, err
	}
	return table.box[page], true, nil
}

// access: a load, or a store of what is handed in.
func (m *model) access(n, addr int, store *byte) (byte, error) {
	p, err := m.person(n)
	if err != nil {
		return 0, err
	}
	if addr < 0 || addr > 255 {
		return 0, api.ErrBound
	}
	to, said, read := addr/16, byte(192+addr/16), false
	if p.root >= 0 {
		if said, read, err = m.said(p, to); err != nil {
			return 0, err
		}
		to = int(said % 16)
	}
	if said < 128 || store != nil && said < 192 {
		return 0, api.ErrFault
	}
	s := &p.sheets[to]
	if err := m.touch(s, store != nil); err != nil {
		return 0, err
	}
	if read {
		p.memory = append(p.memory, known{p.root, addr / 16, said})
		p.memory = p.memory[max(0, len(p.memory)-4):]
	}
	if store != nil {
		s.box[addr%16] = *store
		return 0, nil
	}
	return s.box[addr%16], nil
}

// steer: another root; what is remembered goes; lowest is that of what may be named.
func (m *model) steer(n, x, lowest, most int, by func(*person)) error {
	p, err := m.person(n)
	if err != nil {
		return err
	}
	if x < lowest || x > most {
		return api.ErrBound
	}
	by(p)
	return nil
}

func (m *model) setRoot(n, page int) error {
	return m.steer(n, page, -1, 15, func(p *person) { p.root = page })
}

func (m *model) forget(n, addr int) error {
	return m.steer(n, addr, 0, 255, func(p *person) {
		p.memory = slices.DeleteFunc(p.memory, func(k known) bool { return k.root == p.root && k.page == addr/16 })
	})
}

func (m *model) forgetAll(n, root int) error {
	return m.steer(n, root, 0, 15, func(p *person) {
		p.memory = slices.DeleteFunc(p.memory, func(k known) bool { return k.root == root })
	})
}

func (m *model) scan(n, page int) (bool, error) {
	s, err := m.sheet(n, page)
	if err != nil || s.box == nil {
		return false, err
	}
	for _, o := range m.all() {
		switch {
		case o == s || o.box == s.box:
			return false, nil
		case o.box == nil || *o.box != *s.box:
			continue
		}
		b := o.box
		m.leave(s, api.Plain)
		s.box = b
		for _, o := range m.all() {
			if o.box == b {
				o.write = false
			}
		}
		return true, nil
	}
	return false, nil
}

func (m *model) scanAll() (joined int) {
	for n := range api.MaxGuests {
		for page := range api.Pages {
			if did, _ := m.scan(n, page); did {
				joined++
			}
		}
	}
	return joined
}

func (m *model) leaf(s *sheet) api.Leaf {
	if s.box == nil {
		return api.Leaf{}
	}
	return api.Leaf{There: true, Write: s.write, Frame: slices.Index(m.boxes, s.box)}
}

// told: all that a model tells of itself.
func (m *model) told() string {
	var numbers []int
	left := 0
	s := ""
	for _, b := range m.boxes {
		refs := m.inside(b)
		s += fmt.Sprint(" ", []string{"free", "guest", "shared"}[min(refs, 2)], refs)
		if refs == 0 {
			left++
		}
	}
	for n, p := range m.persons {
		if p == nil {
			continue
		}
		numbers = append(numbers, n)
		s += ";"
		for _, k := range p.memory {
			s += fmt.Sprint(" ", k.root, k.page, int(k.said%16), k.said >= 192, m.leaf(&p.sheets[k.said%16]))
		}
		for i := range p.sheets {
			s += fmt.Sprint(" ", p.sheets[i].state, m.leaf(&p.sheets[i]))
			if p.sheets[i].box != nil {
				s += fmt.Sprint(*p.sheets[i].box)
			}
		}
	}
	return fmt.Sprint(numbers, m.promised(), left, s)
}

// told: the same of a host of so many frames; bytes are read of a copy of which the tables are off.
func told(h *host.Host, size int) string {
	s := ""
	for f := range size {
		fr, _ := h.Frame(f)
		s += fmt.Sprint(" ", []string{"free", "guest", "shared"}[fr.Class], fr.Refs)
	}
	for _, n := range h.Guests() {
		s += ";"
		l, _ := h.Cached(n)
		for _, e := range l {
			s += fmt.Sprint(" ", e.Root, e.Page, e.To, e.May, e.Leaf)
		}
		for page := range api.Pages {
			state, _ := h.State(n, page)
			leaf, _ := h.Leaf(n, page)
			s += fmt.Sprint(" ", state, leaf)
			if leaf.There {
				s += fmt.Sprint(bytes(h, n, page))
			}
		}
	}
	return fmt.Sprint(h.Guests(), h.Promised(), h.Left(), s)
}

// bytes of a guest's page, as a copy tells them.
func bytes(h *host.Host, n, page int) (l [api.Page]byte) {
	c := h.Copy()
	_ = c.SetRoot(n, -1)
	for at := range l {
		l[at], _ = c.Load(n, page*api.Page+at)
	}
	return l
}

// step: one drawn call of a host, and of its model: what both answer.
func step(d *die, h *host.Host, m *model) (what, got, want string) {
	n, page, addr, block := d.drawn(3), d.drawn(6), d.drawn(6)*api.Page+d.n(6), d.drawn(3)
	switch c := d.n(24); {
	case c < 5:
		v, e := h.Load(n, addr)
		w, x := m.access(n, addr, nil)
		return fmt.Sprint("Load ", n, addr), fmt.Sprint(v, e), fmt.Sprint(w, x)
	case c < 11:
		v := d.said()
		_, x := m.access(n, addr, &v)
		return fmt.Sprint("Store ", n, addr, v), fmt.Sprint(h.Store(n, addr, v)), fmt.Sprint(x)
	case c < 14:
		return fmt.Sprint("Plug ", n, block), fmt.Sprint(h.Plug(n, block)), fmt.Sprint(m.block(n, block, true))
	case c == 14:
		return fmt.Sprint("Unplug ", n, block), fmt.Sprint(h.Unplug(n, block)), fmt.Sprint(m.block(n, block, false))
	case c == 15:
		return fmt.Sprint("Give ", n, page), fmt.Sprint(h.Give(n, page)), fmt.Sprint(m.give(n, page))
	case c == 16:
		return fmt.Sprint("Back ", n, page), fmt.Sprint(h.Back(n, page)), fmt.Sprint(m.back(n, page))
	case c < 19:
		return fmt.Sprint("SetRoot ", n, page-2), fmt.Sprint(h.SetRoot(n, page-2)), fmt.Sprint(m.setRoot(n, page-2))
	case c == 19:
		return stepForget(d, h, m, n, page, addr)
	case c == 20:
		return stepMembers(d, h, m, n)
	case c == 21:
		return "ScanAll", fmt.Sprint(h.ScanAll()), fmt.Sprint(m.scanAll())
	default:
		v, e := h.Scan(n, page)
		w, x := m.scan(n, page)
		return fmt.Sprint("Scan ", n, page), fmt.Sprint(v, e), fmt.Sprint(w, x)
	}
}

// stepForget: a drawn call that forgets.
func stepForget(d *die, h *host.Host, m *model, n, page, addr int) (what, got, want string) {
	if d.n(2) == 0 {
		return fmt.Sprint("Forget ", n, addr), fmt.Sprint(h.Forget(n, addr)), fmt.Sprint(m.forget(n, addr))
	}
	return fmt.Sprint("ForgetAll ", n, page), fmt.Sprint(h.ForgetAll(n, page)), fmt.Sprint(m.forgetAll(n, page))
}

// stepMembers: a drawn call by which guests come and go.
func stepMembers(d *die, h *host.Host, m *model, n int) (what, got, want string) {
	if d.n(4) == 0 {
		return fmt.Sprint("Remove ", n), fmt.Sprint(h.Remove(n)), fmt.Sprint(m.remove(n))
	}
	v, e := h.Add()
	w, x := m.add()
	return "Add", fmt.Sprint(v, e), fmt.Sprint(w, x)
}

// E1 to E4: drawn calls in a row answer what a model answers, and leave what it has; a host that was copied stays as it was.
func TestAgainstModel(t *testing.T) {
	d := die(14)
	for range 60 {
		size := 4 + d.n(24)
		h, m := of(t, size), &model{boxes: make([]*[api.Page]byte, size)}
		for range d.n(4) {
			_, _ = h.Add()
			_, _ = m.add()
		}
		left, old := h.Copy(), m.copy()
		for range 150 {
			what, got, want := step(&d, h, m)
			if got != want {
				t.Fatalf("%s: %s, wanted %s", what, got, want)
			}
			if got, want := told(h, size), m.told(); got != want {
				t.Fatalf("behind %s: %s, wanted %s", what, got, want)
			}
			if d.n(30) == 0 {
				left, old = h, m
				h, m = h.Copy(), m.copy()
			}
		}
		if got, want := told(left, size), old.told(); got != want {
			t.Fatalf("a host that was copied became %s, wanted %s", got, want)
		}
	}
}
