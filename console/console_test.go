package console_test

import (
	"math"
	"slices"
	"strings"
	"testing"

	"undercroft/api"
	"undercroft/console"
)

// The face of the package, as the chapter has it: another signature does not compile.
var _ func(frames int, lines []string) ([]string, error) = console.Run

// says: a bare error of package api, or none at all.
func says(t *testing.T, what string, err error, want api.Errno) {
	t.Helper()
	if want == api.OK {
		if err != nil {
			t.Errorf("%s: %v, wanted no error", what, err)
		}
		return
	}
	if e, ok := err.(api.Errno); !ok || e != want {
		t.Errorf("%s: %v, wanted error %d", what, err, int(want))
	}
}

// run: the answers of a session that is not refused.
func run(t *testing.T, frames int, lines []string) []string {
	t.Helper()
	answers, err := console.Run(frames, lines)
	says(t, "Run", err, api.OK)
	if len(answers) != len(lines) {
		t.Fatalf("%d answers to %d lines", len(answers), len(lines))
	}
	return answers
}

// tells: a session, written as the document writes one: a line, an arrow, its answer.
func tells(t *testing.T, frames int, session string) {
	t.Helper()
	var lines, wants []string
	for _, s := range strings.Split(strings.Trim(session, "\n"), "\n") {
		line, want, ok := strings.Cut(strings.TrimLeft(s, "\t"), " => ")
		if !ok {
			t.Fatalf("%q has no answer", s)
		}
		lines, wants = append(lines, line), append(wants, want)
	}
	for i, got := range run(t, frames, lines) {
		if got != wants[i] {
			t.Errorf("line %d: %s => %s, wanted %s", i, lines[i], got, wants[i])
		}
	}
}

// refused: no answers at all, and that error.
func refused(t *testing.T, what string, frames int, lines []string, want api.Errno) {
	t.Helper()
	answers, err := console.Run(frames, lines)
	says(t, what, err, want)
	if len(answers) != 0 {
		t.Errorf("%s: %d answers beside the error", what, len(answers))
	}
}

// F1, F2: the document's session.
func TestDocument(t *testing.T) {
	tells(t, 10, `
		add => 0
		plug 0 0 => ok
		plug 0 1 => ok
		add => 1
		plug 1 0 => error 7
		give 0 7 => ok
		give 0 6 => ok
		plug 1 0 => ok
		promised => 10
		store 0 0 195 => ok
		store 0 1 194 => ok
		store 0 2 130 => ok
		root 0 0 => ok
		load 0 5 => 0
		store 0 5 77 => ok
		root 0 -1 => ok
		load 0 53 => 77
		root 0 0 => ok
		store 0 33 1 => error 5
		store 0 17 5 => ok
		load 0 33 => 5
		root 0 -1 => ok
		store 0 0 193 => ok
		root 0 0 => ok
		load 0 5 => 77
		forget 0 5 => ok
		load 0 5 => 0
		root 0 -1 => ok
		store 1 5 77 => ok
		left => 5
		page 1 0 => 1 own 1
		scanall => 1
		page 1 0 => 1 sealed 2
		page 0 3 => 1 sealed 2
		left => 6
		store 1 5 78 => ok
		load 0 53 => 77
		page 0 3 => 1 sealed 1
		page 1 0 => 1 own 1
		store 0 53 79 => ok
		page 0 3 => 1 own 1
		load 1 37 => 0
		unplug 1 0 => ok
		back 0 6 => ok
		load 0 96 => 0
		load 0 113 => error 6
		remove 1 => ok
		guests => 0
		load 0 256 => error 1
		fly => error 9`)
}

// F1: a number of frames is New's to judge: it is told ahead of the lines' number.
func TestFrames(t *testing.T) {
	many := make([]string, api.MaxLines+1)
	for _, frames := range []int{0, -1, 65, 66, math.MaxInt, math.MinInt, math.MaxUint32, 1 << 32, 1<<32 + 1} {
		refused(t, "Run", frames, nil, api.ErrBound)
		refused(t, "Run of a line", frames, []string{"left"}, api.ErrBound)
		refused(t, "Run of too many lines", frames, many, api.ErrBound)
	}
	tells(t, 1, "left => 1")
	tells(t, 64, "left => 64")
	tells(t, 64, "frame 63 => 0 0")
}

// F1: up to MaxLines lines, each of which is answered, a bad one too.
func TestLines(t *testing.T) {
	for _, n := range []int{0, 1, 2, api.MaxLines - 1, api.MaxLines} {
		answers := run(t, 4, slices.Repeat([]string{"left"}, n))
		for i, got := range answers {
			if got != "4" {
				t.Errorf("line %d of %d: %s", i, n, got)
			}
		}
		for i, got := range run(t, 4, make([]string, n)) {
			if got != "error 9" {
				t.Errorf("empty line %d of %d: %s", i, n, got)
			}
		}
	}
	for _, n := range []int{api.MaxLines + 1, api.MaxLines + 2, 2 * api.MaxLines, 1 << 16} {
		refused(t, "Run of too many lines", 4, slices.Repeat([]string{"left"}, n), api.ErrBound)
		refused(t, "Run of too many empty lines", 4, make([]string, n), api.ErrBound)
	}
	if answers := run(t, 4, nil); len(answers) != 0 {
		t.Errorf("answers to no lines: %q", answers)
	}
}

// F1: guests come, are told, and go.
func TestMembers(t *testing.T) {
	tells(t, 8, `
		guests => -
		add => 0
		guests => 0
		add => 1
		add => 2
		add => 3
		guests => 0 1 2 3
		add => error 4
		remove 1 => ok
		guests => 0 2 3
		remove 1 => error 2
		remove 0 => ok
		guests => 2 3
		add => 0
		remove 4 => error 1
		remove -1 => error 1
		remove 99999 => error 1
		remove 3 => ok
		remove 2 => ok
		remove 0 => ok
		guests => -
		add => 0`)
}

// F1: blocks are plugged and unplugged, pages given and taken back; what is promised is told.
func TestPages(t *testing.T) {
	tells(t, 9, `
		plug 0 0 => error 2
		unplug 0 0 => error 2
		give 0 0 => error 2
		back 0 0 => error 2
		promised => 0
		add => 0
		add => 1
		unplug 0 3 => error 2
		plug 0 3 => ok
		plug 0 3 => error 4
		promised => 4
		plug 1 0 => ok
		promised => 8
		plug 1 1 => error 7
		give 1 3 => ok
		give 1 3 => error 8
		give 1 4 => error 8
		promised => 7
		back 1 2 => error 8
		back 1 3 => ok
		back 1 3 => error 8
		plug 0 4 => error 1
		plug 0 -1 => error 1
		unplug 0 4 => error 1
		unplug 0 -1 => error 1
		give 0 16 => error 1
		give 0 -1 => error 1
		back 0 16 => error 1
		back 0 -1 => error 1
		plug 4 0 => error 1
		plug 2 9 => error 2
		unplug 0 3 => ok
		promised => 4
		remove 1 => ok
		promised => 0`)
}

// F1, F2: a page may be wanted back while as many are promised as there are frames: it is refused.
func TestBackBeyond(t *testing.T) {
	tells(t, 7, `
		add => 0
		plug 0 0 => ok
		give 0 0 => ok
		plug 0 1 => ok
		promised => 7
		back 0 0 => error 7
		back 0 1 => error 8
		give 0 7 => ok
		back 0 0 => ok
		promised => 7`)
}

// F1: bytes are loaded and stored, through no table.
func TestBytes(t *testing.T) {
	tells(t, 16, `
		add => 0
		load 0 0 => error 2
		store 0 0 1 => error 2
		plug 0 0 => ok
		plug 0 3 => ok
		load 0 0 => 0
		store 0 0 255 => ok
		load 0 0 => 255
		store 0 255 7 => ok
		load 0 255 => 7
		store 0 255 0 => ok
		load 0 255 => 0
		load 0 256 => error 1
		store 0 256 1 => error 1
		load 0 -1 => error 1
		store 0 -1 1 => error 1
		load 0 99999 => error 1
		give 0 0 => ok
		load 0 0 => error 6
		store 0 15 1 => error 6
		back 0 0 => ok
		load 0 0 => 0
		load 1 0 => error 2
		load 4 0 => error 1
		load -1 0 => error 1
		store 1 0 0 => error 2
		store 4 0 0 => error 1`)
}

// F1: a value that no byte has is told ahead of all else, and nothing is stored or touched.
func TestValues(t *testing.T) {
	tells(t, 8, `
		store 0 0 256 => error 1
		store 0 0 255 => error 2
		add => 0
		plug 0 0 => ok
		store 0 0 256 => error 1
		store 0 0 -1 => error 1
		store 0 0 99999 => error 1
		store 0 0 300 => error 1
		page 0 0 => 1 nowhere
		left => 8
		store 0 0 9 => ok
		store 0 0 512 => error 1
		load 0 0 => 9
		give 0 0 => ok
		store 0 0 256 => error 1
		store 0 64 256 => error 1
		store 0 0 255 => error 6
		store 0 64 255 => error 2`)
}

// F1: tables are read, and what is remembered of them forgotten: of an address by forget, of a table by drop.
func TestTables(t *testing.T) {
	tells(t, 8, `
		root 0 0 => error 2
		forget 0 0 => error 2
		drop 0 0 => error 2
		add => 0
		plug 0 0 => ok
		plug 0 1 => ok
		store 0 4 198 => ok
		store 0 5 199 => ok
		store 0 96 60 => ok
		store 0 112 70 => ok
		root 0 0 => ok
		load 0 64 => 60
		load 0 80 => 70
		load 0 0 => error 5
		root 0 -1 => ok
		store 0 4 71 => ok
		store 0 5 134 => ok
		root 0 0 => ok
		load 0 64 => 60
		load 0 80 => 70
		forget 0 79 => ok
		load 0 64 => error 5
		load 0 80 => 70
		drop 0 1 => ok
		load 0 80 => 70
		drop 0 0 => ok
		load 0 80 => 60
		store 0 80 1 => error 5
		root 0 16 => error 1
		root 0 -1 => ok
		root 0 15 => ok
		load 0 0 => error 2
		forget 0 256 => error 1
		forget 0 255 => ok
		forget 0 -1 => error 1
		drop 0 16 => error 1
		drop 0 15 => ok
		drop 0 -1 => error 1
		root 1 0 => error 2
		root 4 0 => error 1
		forget 4 0 => error 1
		drop 4 0 => error 1`)
}

// F1: a page is scanned, or all; where it is told of a page and of a frame.
func TestScans(t *testing.T) {
	tells(t, 12, `
		scanall => 0
		scan 0 0 => error 2
		page 0 0 => error 2
		add => 0
		add => 1
		plug 0 0 => ok
		plug 1 0 => ok
		page 0 0 => 1 nowhere
		page 0 4 => 0 nowhere
		frame 0 => 0 0
		scan 1 0 => false
		store 0 0 7 => ok
		store 1 16 7 => ok
		page 0 0 => 1 own 1
		frame 0 => 1 1
		frame 1 => 1 1
		scan 0 0 => false
		scan 1 1 => true
		scan 1 1 => false
		page 0 0 => 1 sealed 2
		page 1 1 => 1 sealed 2
		frame 0 => 2 2
		frame 1 => 0 0
		left => 11
		load 0 16 => 0
		load 0 32 => 0
		load 1 0 => 0
		load 1 48 => 0
		left => 7
		scanall => 3
		scanall => 0
		left => 10
		page 1 3 => 1 sealed 4
		page 0 1 => 1 sealed 4
		frame 1 => 2 4
		give 1 3 => ok
		page 1 3 => 2 nowhere
		frame 1 => 2 3
		store 1 16 8 => ok
		page 1 1 => 1 own 1
		page 0 0 => 1 sealed 1
		frame 0 => 1 1
		load 0 0 => 7
		page 0 0 => 1 sealed 1
		store 0 0 9 => ok
		page 0 0 => 1 own 1`)
}

// F1, F2: what is scanned, or asked for, and isn't there.
func TestNowhere(t *testing.T) {
	tells(t, 12, `
		add => 0
		scan 0 16 => error 1
		scan 0 -1 => error 1
		scan 1 0 => error 2
		scan 4 0 => error 1
		scan 0 15 => false
		page 0 16 => error 1
		page 0 -1 => error 1
		page 1 16 => error 2
		page 4 0 => error 1
		page -1 0 => error 1
		page 0 15 => 0 nowhere
		frame 11 => 0 0
		frame 12 => error 1
		frame 64 => error 1
		frame -1 => error 1
		frame 99999 => error 1`)
}

// all: each command, with numbers that it has.
var all = []string{
	"add", "remove 0", "plug 0 1", "unplug 0 0", "give 0 0", "back 0 1", "load 0 0", "store 0 0 1", "root 0 0", "forget 0 0",
	"drop 0 0", "scan 0 0", "scanall", "left", "promised", "guests", "frame 0", "page 0 0",
}

// base: a session whose guest 0 has pages, one of them given away, so that no command of all is refused.
var base = []string{"add", "plug 0 0", "give 0 1"}

// ask: what is answered to a line behind the base.
func ask(t *testing.T, line string) string {
	t.Helper()
	return run(t, 20, append(slices.Clone(base), line))[len(base)]
}

// F2: a command that isn't written as it should be is none.
func TestWriting(t *testing.T) {
	for _, line := range all {
		if got := ask(t, line); strings.HasPrefix(got, "error") {
			t.Errorf("%q: %s", line, got)
		}
		words := strings.Split(line, " ")
		bad := []string{
			" " + line, line + " ", line + "\n", line + "\t", "\t" + line, line + "\x00", line + "\r", line + ".", "\ufeff" + line,
			line + " 0", line + " -1", line + " x", line + "  0", line + " " + line,
			strings.ToUpper(line), strings.ToUpper(line[:1]) + line[1:], line[1:], "x" + line, words[0] + "s" + line[len(words[0]):],
		}
		if len(words) > 1 {
			bad = append(bad,
				strings.Replace(line, " ", "  ", 1), strings.Replace(line, " ", "\t", 1), strings.Replace(line, " ", "\u00a0", 1),
				strings.Replace(line, " ", "", 1), strings.Replace(line, " ", ",", 1), strings.Join(words[:len(words)-1], " "),
				words[0], words[0]+" ", strings.Join(words[1:], " ")+" "+words[0])
		}
		for _, b := range bad {
			if got := ask(t, b); got != "error 9" {
				t.Errorf("%q: %s", b, got)
			}
		}
	}
	for _, line := range []string{"", " ", "  ", "fly", "0", "-1", "ok", "error 9", "load", "cached 0", "copy", "state 0 0", "leaf 0 0", "\xff", "é"} {
		if got := ask(t, line); got != "error 9" {
			t.Errorf("%q: %s", line, got)
		}
	}
}

// F1, F2: what a number is, at each place where one stands.
func TestNumbers(t *testing.T) {
	good := []string{"-1", "0", "1", "9", "10", "99", "100", "999", "1000", "10000", "65536", "99999"}
	bad := []string{
		"", "-", "--1", "-0", "-2", "-10", "-01", "+1", "+0", "00", "01", "007", "00000", "000001", "100000", "999999", "4294967296",
		"18446744073709551616", "1_0", "0x1", "0b1", "1e1", "1.0", "1.", "a", "x1", "1x", "1-", "\u0661", "\uff11", "1\x00", "\xff",
		"/", ":", "1/", "1:", strings.Repeat("0", 150), strings.Repeat("1", 150),
	}
	for _, line := range all {
		words := strings.Split(line, " ")
		for at := 1; at < len(words); at++ {
			l := slices.Clone(words)
			for _, l[at] = range good {
				if got := ask(t, strings.Join(l, " ")); got == "error 9" {
					t.Errorf("%q: %s", l, got)
				}
			}
			for _, l[at] = range bad {
				if got := ask(t, strings.Join(l, " ")); got != "error 9" {
					t.Errorf("%q: %s", l, got)
				}
			}
		}
	}
}

// F1: each digit counts for what it is.
func TestDigits(t *testing.T) {
	lines, want := []string{"add", "plug 0 0", "plug 0 1", "plug 0 2", "plug 0 3"}, []string{"0", "ok", "ok", "ok", "ok"}
	for _, v := range []string{"0", "1", "2", "3", "4", "5", "6", "7", "8", "9", "10", "98", "123", "209", "254", "255"} {
		for _, addr := range []string{"9", "86", "247", "130", "5"} {
			lines = append(lines, "store 0 "+addr+" "+v, "load 0 "+addr)
			want = append(want, "ok", v)
		}
		if got := run(t, 16, lines); !slices.Equal(got, want) {
			t.Errorf("%q: %q", lines, got)
		}
		lines, want = lines[:5], want[:5]
	}
}

// F2: a line of more than MaxLine bytes, and one that is just not so long.
func TestLongLines(t *testing.T) {
	for _, n := range []int{api.MaxLine - 1, api.MaxLine, api.MaxLine + 1, 10 * api.MaxLine, 1 << 20} {
		for _, unit := range []string{"x", " ", "0", "left ", "\x00", "é"} {
			long := strings.Repeat(unit, n)[:n]
			for _, line := range []string{long, "left" + long[4:], "load 0 0" + long[8:], long[4:] + "left", "load 0 " + long[7:]} {
				if got := ask(t, line); got != "error 9" {
					t.Errorf("%d bytes, %.20q ..: %s", len(line), line, got)
				}
			}
		}
	}
}

// F2: a line that is refused changes nothing, and those behind it are answered.
func TestRefusedLines(t *testing.T) {
	tells(t, 8, `
		fly => error 9
		add => 0
		add 1 => error 9
		plug 0 0 0 => error 9
		guests => 0
		promised => 0
		plug 0 0 => ok
		store 0 3 9 8 => error 9
		store 0 03 9 => error 9
		left => 8
		store 0 3 9 => ok
		remove 00 => error 9
		unplug 0 0  => error 9
		give 0 100000 => error 9
		load 0 3 => 9`)
}

// Z2: lines are left as they are; what is answered is the caller's, and hangs on the lines alone.
func TestApart(t *testing.T) {
	lines := append(slices.Clone(base), all...)
	kept := slices.Clone(lines)
	first := run(t, 20, lines[:len(lines):len(lines)])
	want := slices.Clone(first)
	if !slices.Equal(lines, kept) {
		t.Errorf("lines became %q", lines)
	}
	for i := range first {
		first[i] = "written"
	}
	// What stands behind the lines that are handed in is none of them.
	short := run(t, 20, lines[:5])
	second := run(t, 20, lines)
	if !slices.Equal(second, want) || !slices.Equal(short, want[:5]) {
		t.Errorf("once more: %q, %q, wanted %q", short, second, want)
	}
	if !slices.Equal(lines, kept) {
		t.Errorf("lines became %q", lines)
	}
}
