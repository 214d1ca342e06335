package cache_test

import (
	"fmt"
	"math"
	"slices"
	"testing"

	"undercroft/api"
	"undercroft/cache"
)

// The face of the package, as the chapter has it: another signature does not compile.
var (
	_ func(c *cache.Cache, root, page int) (api.Entry, bool) = (*cache.Cache).Find
	_ func(*cache.Cache, api.Entry)                          = (*cache.Cache).Put
	_ func(c *cache.Cache, root, page int) bool              = (*cache.Cache).Drop
	_ func(*cache.Cache, int) int                            = (*cache.Cache).Forget
	_ func(*cache.Cache, int, api.Leaf) int                  = (*cache.Cache).Point
	_ func(*cache.Cache) func(func(int, api.Entry) bool)     = (*cache.Cache).All
	_ func(*cache.Cache) *cache.Cache                        = (*cache.Cache).Copy
)

// far: numbers that no root and no page has; a cache takes them as any other.
var far = []int{-1, api.Pages, math.MaxInt, math.MinInt, math.MinInt32, math.MaxUint32, 1 << 32}

// entry of a root and a page, that leads to a page.
func entry(root, page, to int) api.Entry { return api.Entry{Root: root, Page: page, To: to} }

// leaf: one in that frame, that may be written there.
func leaf(frame int) api.Leaf { return api.Leaf{There: true, Write: true, Frame: frame} }

// with: a cache into which these were put.
func with(l ...api.Entry) *cache.Cache {
	c := &cache.Cache{}
	for _, e := range l {
		c.Put(e)
	}
	return c
}

// three entries of two roots, two of which lead to one page.
func three() []api.Entry {
	return []api.Entry{
		{Root: 1, Page: 2, To: 3, May: true, Leaf: leaf(4)},
		{Root: 2, Page: 2, To: 5},
		{Root: 1, Page: 3, To: 3, Leaf: leaf(6)},
	}
}

// list of what a cache has, each at its place.
func list(t *testing.T, c *cache.Cache) []api.Entry {
	t.Helper()
	var l []api.Entry
	for at, e := range c.All() {
		if at != len(l) {
			t.Errorf("All: the place %d, wanted %d", at, len(l))
		}
		l = append(l, e)
	}
	return l
}

// has: these entries alone, the eldest first; and Find finds each.
func has(t *testing.T, c *cache.Cache, want ...api.Entry) {
	t.Helper()
	if got := list(t, c); !slices.Equal(got, want) {
		t.Errorf("has %v, wanted %v", got, want)
	}
	for _, e := range want {
		if got, ok := c.Find(e.Root, e.Page); got != e || !ok {
			t.Errorf("Find(%d, %d): %v, %v; wanted %v", e.Root, e.Page, got, ok, e)
		}
	}
}

// lacks: there is no entry of that root and page.
func lacks(t *testing.T, c *cache.Cache, root, page int) {
	t.Helper()
	if e, ok := c.Find(root, page); e != (api.Entry{}) || ok {
		t.Errorf("Find(%d, %d): %v, %v; wanted none", root, page, e, ok)
	}
}

// C1: a cache's zero value has none, not even the entry that is its own zero value.
func TestZeroValue(t *testing.T) {
	var c cache.Cache
	has(t, &c)
	has(t, c.Copy())
	for _, n := range append(far, 0, 1) {
		lacks(t, &c, n, n)
		lacks(t, &c, 0, n)
		if c.Drop(0, n) || c.Drop(n, 0) || c.Forget(n) != 0 || c.Point(n, leaf(1)) != 0 {
			t.Errorf("%d: an empty cache has one", n)
		}
	}
	has(t, &c)
	c.Put(api.Entry{})
	has(t, &c, api.Entry{})
}

// C1: Put lays behind all, as it is handed in; Find tells of both numbers, and changes nothing.
func TestPutAndFind(t *testing.T) {
	l := three()
	c := with(l...)
	has(t, c, l...)
	lacks(t, c, 2, 3)
	lacks(t, c, 3, 1)
	lacks(t, c, 2, 1)
	lacks(t, c, 0, 0)
	has(t, c, l...)
}

// C1: of more than Cached the eldest goes, however often it was found.
func TestEldestGoes(t *testing.T) {
	c := &cache.Cache{}
	var all []api.Entry
	for n := range 3 * api.Cached {
		e := entry(n%2, n, n)
		c.Put(e)
		all = append(all, e)
		first := max(0, len(all)-api.Cached)
		has(t, c, all[first:]...)
		if first > 0 {
			lacks(t, c, all[first-1].Root, all[first-1].Page)
		}
		c.Find(all[first].Root, all[first].Page)
	}
}

// C1: of the same root and page there is one alone, the last, behind all; none else goes for it.
func TestPutAgain(t *testing.T) {
	for full := 1; full <= api.Cached; full++ {
		for again := range full {
			c := &cache.Cache{}
			var want []api.Entry
			for n := range full {
				c.Put(entry(n, 7, 1))
				if n != again {
					want = append(want, entry(n, 7, 1))
				}
			}
			e := api.Entry{Root: again, Page: 7, To: 2, May: true, Leaf: leaf(3)}
			c.Put(e)
			has(t, c, append(want, e)...)
		}
	}
}

// C1: what leads to the same page, of another root or page, is another entry.
func TestOneOfEach(t *testing.T) {
	l := []api.Entry{entry(1, 1, 5), entry(1, 2, 5), entry(2, 1, 5), entry(2, 2, 5)}
	has(t, with(l...), l...)
}

// C1: the eldest is the one that was put first of those that are left.
func TestEldestBehindDrop(t *testing.T) {
	l := []api.Entry{entry(0, 0, 1), entry(0, 1, 1), entry(0, 2, 1), entry(0, 3, 1), entry(0, 4, 1), entry(0, 5, 1)}
	c := with(l[:4]...)
	if !c.Drop(0, 0) || !c.Drop(0, 2) {
		t.Error("Drop: there was none")
	}
	c.Put(l[4])
	c.Put(l[5])
	has(t, c, l[1], l[3], l[4], l[5])
	c.Put(l[0])
	has(t, c, l[3], l[4], l[5], l[0])
}

// C1: Drop takes one entry away, once; the others stay in their order.
func TestDrop(t *testing.T) {
	for gone := range api.Cached {
		l := []api.Entry{entry(1, 1, 0), entry(1, 2, 0), entry(2, 1, 0), entry(2, 2, 0)}
		c := with(l...)
		for _, n := range append(far, 0, 3) {
			if c.Drop(n, 1) || c.Drop(1, n) {
				t.Errorf("Drop of %d: there was one", n)
			}
		}
		has(t, c, l...)
		e := l[gone]
		if !c.Drop(e.Root, e.Page) || c.Drop(e.Root, e.Page) {
			t.Errorf("Drop(%d, %d): wanted true, then false", e.Root, e.Page)
		}
		lacks(t, c, e.Root, e.Page)
		has(t, c, slices.Delete(l, gone, gone+1)...)
	}
}

// C1: Forget takes all of a root away, wherever they are, and tells how many.
func TestForget(t *testing.T) {
	l := []api.Entry{entry(1, 1, 2), entry(2, 1, 1), entry(1, 2, 2), entry(3, 1, 1)}
	c := with(l...)
	for _, n := range append(far, 0, 4) {
		if got := c.Forget(n); got != 0 {
			t.Errorf("Forget(%d): %d, wanted 0", n, got)
		}
	}
	has(t, c, l...)
	for _, want := range []int{2, 0} {
		if got := c.Forget(1); got != want {
			t.Errorf("Forget(1): %d, wanted %d", got, want)
		}
		has(t, c, l[1], l[3])
	}
	c = with(entry(5, 0, 1), entry(5, 1, 1), entry(5, 2, 1), entry(5, 3, 1))
	if got := c.Forget(5); got != api.Cached {
		t.Errorf("Forget(5): %d, wanted %d", got, api.Cached)
	}
	has(t, c)
}

// C1: Point changes the leaf of all that lead to a page, and nothing else; it tells how many there are, changed or not.
func TestPoint(t *testing.T) {
	l := three()
	c := with(l...)
	for _, n := range append(far, 0, 1, 2, 4) {
		if got := c.Point(n, leaf(9)); got != 0 {
			t.Errorf("Point(%d): %d, wanted 0", n, got)
		}
	}
	has(t, c, l...)
	for _, to := range []api.Leaf{leaf(9), leaf(9), {There: true, Frame: -1}, {}} {
		if got := c.Point(3, to); got != 2 {
			t.Errorf("Point(3, %v): %d, wanted 2", to, got)
		}
		l[0].Leaf, l[2].Leaf = to, to
		has(t, c, l...)
	}
}

// C1: what has gone is not pointed any more, nor counted.
func TestPointBehindDrop(t *testing.T) {
	c := with(entry(1, 1, 2), entry(1, 2, 2), entry(2, 1, 2))
	if c.Drop(2, 1); c.Point(2, leaf(3)) != 2 {
		t.Error("Point behind Drop: wanted 2")
	}
	if c.Forget(1); c.Point(2, leaf(3)) != 0 {
		t.Error("Point behind Forget: wanted 0")
	}
	c.Put(entry(2, 1, 2))
	has(t, c, entry(2, 1, 2))
}

// C1, Z1: any numbers are an entry's.
func TestFarNumbers(t *testing.T) {
	for _, n := range far {
		e := api.Entry{Root: n, Page: n, To: n, May: true, Leaf: api.Leaf{Write: true, Frame: n}}
		c := with(e, entry(0, n, 0), entry(n, 0, 0))
		has(t, c, e, entry(0, n, 0), entry(n, 0, 0))
		if c.Point(n, leaf(n)) != 1 || !c.Drop(0, n) || c.Forget(n) != 2 {
			t.Errorf("%d: not pointed, dropped and forgotten", n)
		}
		has(t, c)
	}
}

// C1: All may be left at each place, and is gone through from the eldest on each time.
func TestAllIsLeft(t *testing.T) {
	l := three()
	all := with(l...).All()
	for stop := range l {
		var got []api.Entry
		for at, e := range all {
			got = append(got, e)
			if at == stop {
				break
			}
		}
		if !slices.Equal(got, l[:stop+1]) {
			t.Errorf("left at %d: %v, wanted %v", stop, got, l[:stop+1])
		}
	}
	pairs := 0
	for i := range all {
		for range all {
			pairs++
		}
		if pairs != (i+1)*len(l) {
			t.Errorf("behind %d goes within: %d, wanted %d", i+1, pairs, (i+1)*len(l))
		}
	}
}

// changes: each way in which a cache becomes another one.
func changes() map[string]func(*cache.Cache) {
	return map[string]func(*cache.Cache){
		"Put":       func(c *cache.Cache) { c.Put(entry(8, 8, 8)) },
		"Put again": func(c *cache.Cache) { c.Put(entry(1, 2, 8)) },
		"Put many":  func(c *cache.Cache) { c.Put(entry(8, 8, 8)); c.Put(entry(8, 9, 8)); c.Put(entry(9, 9, 8)) },
		"Drop":      func(c *cache.Cache) { c.Drop(1, 2) },
		"Forget":    func(c *cache.Cache) { c.Forget(1) },
		"Point":     func(c *cache.Cache) { c.Point(3, leaf(8)) },
	}
}

// C1: All goes over what there was when it was called, whatever comes behind that, or while it is gone through.
func TestAllAsItWas(t *testing.T) {
	for what, change := range changes() {
		l := three()
		c := with(l...)
		all := c.All()
		change(c)
		for _, when := range []string{"behind ", "within "} {
			var got []api.Entry
			for _, e := range all {
				got = append(got, e)
				change(c)
			}
			if !slices.Equal(got, l) {
				t.Errorf("All %s%s: %v, wanted %v", when, what, got, l)
			}
			c = with(l...)
			all = c.All()
		}
	}
	var c cache.Cache
	none := c.All()
	c.Put(entry(1, 1, 1))
	for at, e := range none {
		t.Errorf("All of an empty cache: %d, %v", at, e)
	}
}

// C1: a copy has the same entries, and both go on apart.
func TestCopy(t *testing.T) {
	for what, change := range changes() {
		l := three()
		c := with(l...)
		d := c.Copy()
		has(t, d, l...)
		change(c)
		has(t, d, l...)
		ahead := list(t, c)
		change(d)
		if got := list(t, d); !slices.Equal(got, ahead) {
			t.Errorf("%s of a copy: %v, wanted %v", what, got, ahead)
		}
		e := d.Copy()
		d.Put(entry(7, 7, 7))
		has(t, c, ahead...)
		has(t, e, ahead...)
	}
}

// Z2: two caches of the same calls tell the same, whatever is done to others between.
func TestCachesAreApart(t *testing.T) {
	a, b := &cache.Cache{}, &cache.Cache{}
	for n := range 6 {
		a.Put(entry(1, n, n))
		b.Put(entry(2, n, n))
		b.Forget(1)
	}
	a.Forget(2)
	if got, want := fmt.Sprint(list(t, a)), fmt.Sprint([]api.Entry{entry(1, 2, 2), entry(1, 3, 3), entry(1, 4, 4), entry(1, 5, 5)}); got != want {
		t.Errorf("%s, wanted %s", got, want)
	}
}
