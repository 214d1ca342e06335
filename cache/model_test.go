package cache_test

import (
	"fmt"
	"maps"
	"slices"
	"testing"

	"undercroft/api"
	"undercroft/cache"
)

// die: numbers that look drawn, the same each time.
type die uint64

func (d *die) n(most int) int {
	*d = *d*2862933555777941757 + 3037000493
	return int(uint64(*d>>33) % uint64(most))
}

// key of an entry.
type key struct{ root, page int }

// model of a cache, in other means than the program's: entries by their keys, each with the number of the Put that laid it.
type model struct {
	puts    int
	when    map[key]int
	entries map[key]api.Entry
}

func newModel() *model {
	return &model{when: map[key]int{}, entries: map[key]api.Entry{}}
}

func (m *model) copy() *model {
	return &model{m.puts, maps.Clone(m.when), maps.Clone(m.entries)}
}

// keys, the eldest first.
func (m *model) keys() []key {
	return slices.SortedFunc(maps.Keys(m.when), func(a, b key) int { return m.when[a] - m.when[b] })
}

func (m *model) drop(k key) bool {
	_, was := m.when[k]
	delete(m.when, k)
	delete(m.entries, k)
	return was
}

func (m *model) put(e api.Entry) {
	k := key{e.Root, e.Page}
	m.puts++
	m.when[k], m.entries[k] = m.puts, e
	if len(m.when) > api.Cached {
		m.drop(m.keys()[0])
	}
}

func (m *model) forget(root int) int {
	gone := 0
	for _, k := range m.keys() {
		if k.root == root && m.drop(k) {
			gone++
		}
	}
	return gone
}

func (m *model) point(to int, l api.Leaf) int {
	pointed := 0
	for _, k := range m.keys() {
		if e := m.entries[k]; e.To == to {
			e.Leaf = l
			m.entries[k] = e
			pointed++
		}
	}
	return pointed
}

// seen: as seen tells it of a cache.
func (m *model) seen() string {
	s := ""
	for at, k := range m.keys() {
		s += fmt.Sprint(" ", at, m.entries[k])
	}
	return s
}

// seen: all that a cache tells of itself.
func seen(c *cache.Cache) string {
	s := ""
	for at, e := range c.All() {
		s += fmt.Sprint(" ", at, e)
	}
	return s
}

// step: one drawn call of the cache, and of the model: what both answer.
func step(d *die, c *cache.Cache, m *model) (what, got, want string) {
	k, to := key{d.n(4) - 1, d.n(4) - 1}, d.n(4)-1
	l := api.Leaf{There: d.n(2) == 0, Write: d.n(2) == 0, Frame: d.n(3)}
	switch d.n(10) {
	case 0, 1, 2, 3, 4:
		e := api.Entry{Root: k.root, Page: k.page, To: to, May: d.n(2) == 0, Leaf: l}
		c.Put(e)
		m.put(e)
		return fmt.Sprint("Put ", e), "", ""
	case 5, 6:
		e, ok := c.Find(k.root, k.page)
		_, is := m.when[k]
		return fmt.Sprint("Find ", k), fmt.Sprint(e, ok), fmt.Sprint(m.entries[k], is)
	case 7:
		return fmt.Sprint("Drop ", k), fmt.Sprint(c.Drop(k.root, k.page)), fmt.Sprint(m.drop(k))
	case 8:
		return fmt.Sprint("Forget ", k.root), fmt.Sprint(c.Forget(k.root)), fmt.Sprint(m.forget(k.root))
	default:
		return fmt.Sprint("Point ", to, l), fmt.Sprint(c.Point(to, l)), fmt.Sprint(m.point(to, l))
	}
}

// C1: drawn calls in a row answer what the model answers, and leave what it has; a cache that was copied stays as it was.
func TestAgainstModel(t *testing.T) {
	d := die(11)
	for range 200 {
		c, m := &cache.Cache{}, newModel()
		left, leftModel := c.Copy(), m.copy()
		for range 120 {
			what, got, want := step(&d, c, m)
			if got != want || seen(c) != m.seen() {
				t.Fatalf("%s: %s, wanted %s; %s, wanted %s", what, got, want, seen(c), m.seen())
			}
			if d.n(20) == 0 {
				left, leftModel = c, m
				c, m = c.Copy(), m.copy()
			}
		}
		if seen(left) != leftModel.seen() {
			t.Fatalf("a cache that was copied became %s, wanted %s", seen(left), leftModel.seen())
		}
	}
}
