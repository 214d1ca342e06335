package console_test

import (
	"cmp"
	"fmt"
	"regexp"
	"strings"
	"testing"

	"undercroft/api"
	"undercroft/console"
	"undercroft/host"
)

// die: numbers that look drawn, the same each time.
type die uint64

func (d *die) n(most int) int {
	*d = *d*2862933555777941757 + 3037000493
	return int(uint64(*d>>33) % uint64(most))
}

// row of the chapter's table: the shape of its lines, and what is answered.
type row struct {
	shape  *regexp.Regexp
	answer func(h *host.Host, a, b, c int) (string, error)
}

// ok: what is answered of a call that tells an error alone.
func ok(err error) (string, error) { return "ok", err }

// pair: a call of two numbers that tells an error alone.
func pair(by func(*host.Host, int, int) error) func(h *host.Host, a, b, c int) (string, error) {
	return func(h *host.Host, a, b, _ int) (string, error) { return ok(by(h, a, b)) }
}

// plain: a call of no numbers that tells something.
func plain(by func(*host.Host) any) func(h *host.Host, a, b, c int) (string, error) {
	return func(h *host.Host, _, _, _ int) (string, error) { return fmt.Sprint(by(h)), nil }
}

// rows: the chapter's table, in other means than the program's: shapes of whole lines, and calls.
func rows() (l []row) {
	of := func(shape string, answer func(h *host.Host, a, b, c int) (string, error)) {
		shape = strings.ReplaceAll(shape, "N", "(0|-1|[1-9][0-9]{0,4})")
		l = append(l, row{regexp.MustCompile(`\A` + shape + `\z`), answer})
	}
	of("add", func(h *host.Host, _, _, _ int) (string, error) { n, err := h.Add(); return fmt.Sprint(n), err })
	of("remove N", func(h *host.Host, a, _, _ int) (string, error) { return ok(h.Remove(a)) })
	of("plug N N", pair((*host.Host).Plug))
	of("unplug N N", pair((*host.Host).Unplug))
	of("give N N", pair((*host.Host).Give))
	of("back N N", pair((*host.Host).Back))
	of("root N N", pair((*host.Host).SetRoot))
	of("forget N N", pair((*host.Host).Forget))
	of("drop N N", pair((*host.Host).ForgetAll))
	of("load N N", func(h *host.Host, a, b, _ int) (string, error) { v, err := h.Load(a, b); return fmt.Sprint(v), err })
	of("store N N N", func(h *host.Host, a, b, c int) (string, error) {
		if c != int(byte(c)) {
			return "", api.ErrBound
		}
		return ok(h.Store(a, b, byte(c)))
	})
	of("scan N N", func(h *host.Host, a, b, _ int) (string, error) { v, err := h.Scan(a, b); return fmt.Sprint(v), err })
	of("scanall", plain(func(h *host.Host) any { return h.ScanAll() }))
	of("left", plain(func(h *host.Host) any { return h.Left() }))
	of("promised", plain(func(h *host.Host) any { return h.Promised() }))
	of("guests", plain(func(h *host.Host) any {
		s := strings.Trim(fmt.Sprint(h.Guests()), "[]")
		return cmp.Or(s, "-")
	}))
	of("frame N", func(h *host.Host, a, _, _ int) (string, error) {
		f, err := h.Frame(a)
		return strings.Trim(fmt.Sprint(f), "{}"), err
	})
	of("page N N", page)
	return l
}

// page: the last row.
func page(h *host.Host, a, b, _ int) (string, error) {
	state, err := h.State(a, b)
	leaf, _ := h.Leaf(a, b)
	frame, _ := h.Frame(leaf.Frame)
	where := map[api.Leaf]string{{}: "nowhere", {There: true, Write: true}: "own", {There: true}: "sealed"}
	words := fmt.Sprint(state, " ", where[api.Leaf{There: leaf.There, Write: leaf.Write}])
	if leaf.There {
		words = fmt.Sprint(words, " ", frame.Refs)
	}
	return words, err
}

// answer: what the rows answer to a line.
func answer(l []row, h *host.Host, line string) string {
	if len(line) > 200 {
		return "error 9"
	}
	for _, r := range l {
		m := r.shape.FindStringSubmatch(line)
		if m == nil {
			continue
		}
		var n [3]int
		for i, word := range m[1:] {
			_, _ = fmt.Sscan(word, &n[i])
		}
		s, err := r.answer(h, n[0], n[1], n[2])
		if err != nil {
			return strings.TrimPrefix(err.Error(), "undercroft: ")
		}
		return s
	}
	return "error 9"
}

// line: a drawn one, that may well be answered without an error.
func (d *die) line() string {
	n, page, addr, block := d.n(5)/2, d.n(5), 16*d.n(5)+d.n(4), d.n(3)
	if d.n(20) == 0 {
		n, page, addr, block = d.n(6)-1, d.n(20)-1, d.n(300)-1, d.n(6)-1
	}
	switch c := d.n(26); {
	case c < 4:
		return fmt.Sprint("load ", n, " ", addr)
	case c < 9:
		return fmt.Sprint("store ", n, " ", addr, " ", []int{0, 128 + d.n(6), 192 + d.n(6), d.n(2), d.n(300) - 1}[d.n(5)])
	case c < 11:
		return fmt.Sprint("plug ", n, " ", block)
	case c < 13:
		return fmt.Sprint([]string{"give ", "back "}[c-11], n, " ", page)
	case c == 13:
		return fmt.Sprint([]string{"unplug ", "back ", "back "}[d.n(3)], n, " ", block)
	case c < 16:
		return fmt.Sprint("root ", n, " ", page-1)
	case c == 16:
		return fmt.Sprint([]string{"forget ", "drop "}[d.n(2)], n, " ", []int{addr, page}[d.n(2)])
	case c < 20:
		return fmt.Sprint("scan ", n, " ", page)
	case c == 20:
		return fmt.Sprint("frame ", d.n(12))
	case c == 21:
		return []string{"add", "add", "add", fmt.Sprint("remove ", n)}[d.n(4)]
	case c < 24:
		return fmt.Sprint("page ", n, " ", page)
	default:
		return []string{"scanall", "left", "promised", "guests"}[d.n(4)]
	}
}

// spoilt: a line with bytes that were changed, laid in or taken out.
func (d *die) spoilt(line string) string {
	b := []byte(line)
	for range 1 + d.n(3) {
		at := d.n(len(b) + 1)
		sign := " 019-adlx\t\xff"[d.n(11)]
		switch end := min(at+1, len(b)); d.n(3) {
		case 0:
			b = append(b[:at:at], append([]byte{sign}, b[at:]...)...)
		case 1:
			b = append(b[:at:at], b[end:]...)
		default:
			b = append(append(b[:at:at], sign), b[end:]...)
		}
	}
	return string(b)
}

// F1, F2: drawn sessions answer what the chapter's table answers, line by line.
func TestAgainstModel(t *testing.T) {
	d := die(17)
	l := rows()
	told := map[string]int{}
	for range 800 {
		frames := 4 + d.n(24)
		h, _ := host.New(frames)
		lines := []string{"add", "plug 0 0", "add", "plug 1 0", "plug 0 1"}
		if d.n(4) == 0 {
			lines = nil
		}
		for len(lines) < 80+d.n(41) {
			line := d.line()
			if d.n(8) == 0 {
				line = d.spoilt(line)
			}
			lines = append(lines, line)
		}
		for i, got := range run(t, frames, lines) {
			want := answer(l, h, lines[i])
			told[strings.TrimLeft(want, "0123456789 ")]++
			if got != want {
				t.Fatalf("%d frames, line %d of %q: %s, wanted %s", frames, i, lines[:i+1], got, want)
			}
		}
	}
	// No frame is ever wanting, so error 3 is never told.
	for _, s := range []string{"", "ok", "true", "false", "-", "nowhere", "own 1", "sealed 2", "error 1", "error 2", "error 4", "error 5", "error 6", "error 7", "error 8", "error 9"} {
		if told[s] < 10 {
			t.Errorf("%q was told %d times: these sessions try too little", s, told[s])
		}
	}
	if told["error 3"] > 0 {
		t.Error("a frame was wanting")
	}
}

// Z1: no line panics, whatever its bytes, and each is answered.
func FuzzLine(f *testing.F) {
	for _, line := range append([]string{"", " ", "\xff", "load 0 0 ", "store 0 0 256"}, all...) {
		f.Add(10, line)
	}
	l := rows()
	f.Fuzz(func(t *testing.T, frames int, line string) {
		lines := append(append([]string{}, base...), line, "left")
		answers, err := console.Run(frames, lines)
		if frames < 1 || frames > 64 {
			if err != api.ErrBound || answers != nil {
				t.Fatalf("%d frames: %q, %v", frames, answers, err)
			}
			return
		}
		h, _ := host.New(frames)
		for i := range lines {
			if want := answer(l, h, lines[i]); answers[i] != want {
				t.Fatalf("%d frames, %q: %s, wanted %s", frames, lines[i], answers[i], want)
			}
		}
	})
}
