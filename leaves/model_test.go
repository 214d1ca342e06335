package leaves_test

import (
	"fmt"
	"maps"
	"strings"
	"testing"

	"undercroft/api"
	"undercroft/frames"
	"undercroft/leaves"
)

// die: numbers that look drawn, the same each time.
type die uint64

func (d *die) n(most int) int {
	*d = *d*2862933555777941757 + 3037000493
	return int(uint64(*d>>33) % uint64(most))
}

// key of a page: which map's, which one.
type key struct{ who, n int }

// model of maps on one pool, in other means than the program's: frames aren't counted, but the pages that are in them looked for.
type model struct {
	size  int
	state map[key]int
	frame map[key]int // of the pages that are in one
	write map[key]bool
	bytes map[int]string
}

func newModel(size int) *model {
	return &model{size: size, state: map[key]int{}, frame: map[key]int{}, write: map[key]bool{}, bytes: map[int]string{}}
}

func (m *model) copy() *model {
	return &model{m.size, maps.Clone(m.state), maps.Clone(m.frame), maps.Clone(m.write), maps.Clone(m.bytes)}
}

// in a frame: how many pages.
func (m *model) in(f int) int {
	pages := 0
	for _, g := range m.frame {
		if g == f {
			pages++
		}
	}
	return pages
}

func (m *model) turn(k key, to int, wrong api.Errno, from ...int) error {
	if k.n < 0 || k.n >= api.Pages {
		return api.ErrBound
	}
	for _, s := range from {
		if m.state[k] == s {
			m.state[k] = to
			delete(m.frame, k)
			delete(m.write, k)
			return nil
		}
	}
	return wrong
}

func (m *model) touch(k key, write bool) (int, bool, error) {
	f, there := m.frame[k]
	switch {
	case k.n < 0 || k.n >= api.Pages:
		return 0, false, api.ErrBound
	case m.state[k] == api.Absent:
		return 0, false, api.ErrNone
	case m.state[k] == api.Given:
		return 0, false, api.ErrGone
	case there && (!write || m.write[k]):
		return f, false, nil
	case there && m.in(f) == 1:
		m.write[k] = true
		return f, false, nil
	}
	for g := range m.size {
		if m.in(g) > 0 {
			continue
		}
		m.bytes[g] = strings.Repeat("\x00", api.Page)
		if there {
			m.bytes[g] = m.bytes[f]
		}
		m.frame[k], m.write[k] = g, true
		return g, there, nil
	}
	return 0, false, api.ErrFull
}

func (m *model) join(k key, f int) error {
	if k.n < 0 || k.n >= api.Pages {
		return api.ErrBound
	}
	own, there := m.frame[k]
	if !there || own == f || m.in(f) == 0 || m.bytes[own] != m.bytes[f] {
		return api.ErrState
	}
	m.frame[k], m.write[k] = f, false
	return nil
}

func (m *model) seal(k key) error {
	if k.n < 0 || k.n >= api.Pages {
		return api.ErrBound
	}
	if _, there := m.frame[k]; !there {
		return api.ErrState
	}
	m.write[k] = false
	return nil
}

func (m *model) set(f, at int, v byte) error {
	switch m.in(f) {
	case 0:
		return api.ErrNone
	case 1:
		m.bytes[f] = m.bytes[f][:at] + string([]byte{v}) + m.bytes[f][at+1:]
		return nil
	}
	return api.ErrHeld
}

// seen: as the pool and the maps tell it.
func (m *model) seen() string {
	s, left := "", 0
	for f := range m.size {
		if m.in(f) == 0 {
			left++
			s += " 0:"
			continue
		}
		s += fmt.Sprint(" ", m.in(f), ":", m.bytes[f])
	}
	for who := range 2 {
		s += ";"
		for n := range api.Pages {
			k := key{who, n}
			f, there := m.frame[k]
			s += fmt.Sprint(" ", m.state[k], nil, api.Leaf{There: there, Write: m.write[k], Frame: f}, nil)
		}
	}
	return fmt.Sprint(left) + s
}

// bench: two maps on a pool, and their model.
type bench struct {
	p     *frames.Pool
	maps  [2]*leaves.Map
	model *model
}

func (b bench) seen() string { return seen(b.p, b.maps[0], b.maps[1]) }

func (b bench) copy() bench {
	p := b.p.Copy()
	return bench{p, [2]*leaves.Map{b.maps[0].Copy(p), b.maps[1].Copy(p)}, b.model.copy()}
}

// step: one drawn call of a map, and of the model: what both answer.
func (b bench) step(d *die) (what, got, want string) {
	k := key{d.n(2), d.n(5) - d.n(9)/8}
	if d.n(8) == 0 {
		k.n = api.Pages - d.n(2)
	}
	m, f, v := b.maps[k.who], d.n(b.model.size+2)-1, byte(d.n(2))
	switch d.n(12) {
	case 0, 1:
		return fmt.Sprint("Plug ", k), fmt.Sprint(m.Plug(k.n)), fmt.Sprint(b.model.turn(k, api.Plain, api.ErrHeld, api.Absent))
	case 2:
		return fmt.Sprint("Unplug ", k), fmt.Sprint(m.Unplug(k.n)), fmt.Sprint(b.model.turn(k, api.Absent, api.ErrNone, api.Plain, api.Given))
	case 3:
		return fmt.Sprint("Give ", k), fmt.Sprint(m.Give(k.n)), fmt.Sprint(b.model.turn(k, api.Given, api.ErrState, api.Plain))
	case 4:
		return fmt.Sprint("Back ", k), fmt.Sprint(m.Back(k.n)), fmt.Sprint(b.model.turn(k, api.Plain, api.ErrState, api.Given))
	case 5, 6, 7:
		write := d.n(2) == 0
		g, moved, e := m.Touch(k.n, write)
		h, x, y := b.model.touch(k, write)
		return fmt.Sprint("Touch ", k, write), fmt.Sprint(g, moved, e), fmt.Sprint(h, x, y)
	case 8, 9:
		return fmt.Sprint("Join ", k, f), fmt.Sprint(m.Join(k.n, f)), fmt.Sprint(b.model.join(k, f))
	case 10:
		return fmt.Sprint("Seal ", k), fmt.Sprint(m.Seal(k.n)), fmt.Sprint(b.model.seal(k))
	default:
		return fmt.Sprint("Set ", f, v), fmt.Sprint(b.p.Set(f, 0, v)), fmt.Sprint(b.model.set(f, 0, v))
	}
}

// B1 to B3: drawn calls in a row answer what the model answers, and leave what it has; a bench that was copied stays as it was.
func TestAgainstModel(t *testing.T) {
	d := die(3)
	for range 150 {
		size := 1 + d.n(6)
		p, a := on(t, size, 0)
		b := bench{p, [2]*leaves.Map{a, beside(t, p, 0)}, newModel(size)}
		left := b.copy()
		for range 120 {
			what, got, want := b.step(&d)
			if got != want || b.seen() != b.model.seen() {
				t.Fatalf("%s: %s, wanted %s; %q, wanted %q", what, got, want, b.seen(), b.model.seen())
			}
			if d.n(20) == 0 {
				left = b
				b = b.copy()
			}
		}
		if left.seen() != left.model.seen() {
			t.Fatalf("maps that were copied became %q, wanted %q", left.seen(), left.model.seen())
		}
	}
}
