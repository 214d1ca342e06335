package frames_test

import (
	"fmt"
	"testing"

	"undercroft/api"
	"undercroft/frames"
)

// die: numbers that look drawn, the same each time.
type die uint64

func (d *die) n(most int) int {
	*d = *d*2862933555777941757 + 3037000493
	return int(uint64(*d>>33) % uint64(most))
}

// model of a pool, in other means than the program's: the bytes of the frames that are not free, and the pages in them.
type model struct {
	size  int
	bytes map[int]string
	refs  map[int]int
}

func newModel(n int) *model {
	return &model{size: n, bytes: map[int]string{}, refs: map[int]int{}}
}

func (m *model) copy() *model {
	c := newModel(m.size)
	for f := range m.bytes {
		c.bytes[f], c.refs[f] = m.bytes[f], m.refs[f]
	}
	return c
}

func (m *model) take() (int, error) {
	for f := range m.size {
		if _, ok := m.bytes[f]; !ok {
			m.bytes[f], m.refs[f] = string(make([]byte, api.Page)), 1
			return f, nil
		}
	}
	return 0, api.ErrFull
}

func (m *model) count(f, by int) error {
	if m.refs[f] == 0 {
		return api.ErrNone
	}
	m.refs[f] += by
	if m.refs[f] == 0 {
		delete(m.refs, f)
		delete(m.bytes, f)
	}
	return nil
}

func (m *model) get(f, at int) (byte, error) {
	if at < 0 || at >= api.Page {
		return 0, api.ErrBound
	}
	if m.refs[f] == 0 {
		return 0, api.ErrNone
	}
	return m.bytes[f][at], nil
}

func (m *model) set(f, at int, v byte) error {
	if _, err := m.get(f, at); err != nil {
		return err
	}
	if m.refs[f] > 1 {
		return api.ErrHeld
	}
	m.bytes[f] = m.bytes[f][:at] + string([]byte{v}) + m.bytes[f][at+1:]
	return nil
}

func (m *model) fill(f, from int) error {
	if m.refs[f] == 0 || m.refs[from] == 0 {
		return api.ErrNone
	}
	if m.refs[f] > 1 {
		return api.ErrHeld
	}
	m.bytes[f] = m.bytes[from]
	return nil
}

func (m *model) same(f, g int) bool {
	return m.refs[f] > 0 && m.refs[g] > 0 && m.bytes[f] == m.bytes[g]
}

func (m *model) seen() string {
	s := fmt.Sprint(m.size, m.size-len(m.refs))
	for f := range m.size {
		s += fmt.Sprint(" ", api.Frame{Class: min(m.refs[f], 2), Refs: m.refs[f]})
		for at := range api.Page {
			v, _ := m.get(f, at)
			s += fmt.Sprint(",", v)
		}
	}
	return s
}

// step: one drawn call of the pool, and of the model: what both answer.
func step(d *die, p *frames.Pool, m *model) (what, got, want string) {
	f, g, at, v := d.n(m.size+2)-1, d.n(m.size+2)-1, d.n(api.Page+2)-1, byte(d.n(3))
	switch d.n(8) {
	case 0, 1:
		a, e := p.Take()
		b, x := m.take()
		return "Take", fmt.Sprint(a, e), fmt.Sprint(b, x)
	case 2:
		return fmt.Sprint("Share ", f), fmt.Sprint(p.Share(f)), fmt.Sprint(m.count(f, 1))
	case 3:
		return fmt.Sprint("Drop ", f), fmt.Sprint(p.Drop(f)), fmt.Sprint(m.count(f, -1))
	case 4:
		return fmt.Sprint("Set ", f, at, v), fmt.Sprint(p.Set(f, at, v)), fmt.Sprint(m.set(f, at, v))
	case 5:
		a, e := p.Get(f, at)
		b, x := m.get(f, at)
		return fmt.Sprint("Get ", f, at), fmt.Sprint(a, e), fmt.Sprint(b, x)
	case 6:
		return fmt.Sprint("Fill ", f, g), fmt.Sprint(p.Fill(f, g)), fmt.Sprint(m.fill(f, g))
	default:
		return fmt.Sprint("Same ", f, g), fmt.Sprint(p.Same(f, g)), fmt.Sprint(m.same(f, g))
	}
}

// A1, A2: drawn calls in a row answer what the model answers, and leave what it has; a copy that was left behind stays as it was.
func TestAgainstModel(t *testing.T) {
	d := die(7)
	for range 200 {
		n := 1 + d.n(6)
		p, m := pool(t, n, 0), newModel(n)
		left, leftModel := p.Copy(), m.copy()
		for range 120 {
			what, got, want := step(&d, p, m)
			if got != want || seen(p) != m.seen() {
				t.Fatalf("%s: %s, wanted %s; %s, wanted %s", what, got, want, seen(p), m.seen())
			}
			if d.n(20) == 0 {
				left, leftModel = p, m
				p, m = p.Copy(), m.copy()
			}
		}
		if seen(left) != leftModel.seen() {
			t.Fatalf("a pool that was copied became %s, wanted %s", seen(left), leftModel.seen())
		}
	}
}
