// Package frames: what the host's memory is.
package frames

import (
	"slices"

	"undercroft/api"
)

// frame: its bytes, and how many pages are in it (none: it is free).
type frame struct {
	refs  int
	bytes [api.Page]byte
}

// Pool of frames.
type Pool struct{ frames []frame }

// New pool.
func New(n int) (*Pool, error) {
	if n < 1 || n > api.MaxFrames {
		return nil, api.ErrBound
	}
	return &Pool{frames: make([]frame, n)}, nil
}

// Size: how many frames.
func (p *Pool) Size() int { return len(p.frames) }

// Take the lowest free frame: noughts.
func (p *Pool) Take() (int, error) {
	for f := range p.frames {
		fr := &p.frames[f]
		if fr.refs == 0 {
			// Drop leaves the bytes of the last page behind.
			clear(fr.bytes[:])
			fr.refs = 1
			return f, nil
		}
	}
	return 0, api.ErrFull
}

// Share a frame: one page more is in it.
func (p *Pool) Share(f int) error {
	fr := p.used(f)
	if fr == nil {
		return api.ErrNone
	}
	fr.refs++
	return nil
}

// Drop a frame: one page less.
func (p *Pool) Drop(f int) error {
	fr := p.used(f)
	if fr == nil {
		return api.ErrNone
	}
	fr.refs--
	return nil
}

// Of a frame: what it is.
func (p *Pool) Of(f int) (api.Frame, error) {
	if !p.has(f) {
		return api.Frame{}, api.ErrBound
	}
	refs := p.frames[f].refs
	return api.Frame{Class: class(refs), Refs: refs}, nil
}

// Left: how many are free.
func (p *Pool) Left() int {
	left := 0
	for f := range p.frames {
		if p.frames[f].refs == 0 {
			left++
		}
	}
	return left
}

// Get a byte.
func (p *Pool) Get(f, at int) (byte, error) {
	if !inPage(at) {
		return 0, api.ErrBound
	}
	fr := p.used(f)
	if fr == nil {
		return 0, api.ErrNone
	}
	return fr.bytes[at], nil
}

// Set a byte of a frame that one page alone is in.
func (p *Pool) Set(f, at int, v byte) error {
	if !inPage(at) {
		return api.ErrBound
	}
	fr, err := p.alone(f)
	if err != nil {
		return err
	}
	fr.bytes[at] = v
	return nil
}

// Fill a frame that one page alone is in with what another one has.
func (p *Pool) Fill(f, from int) error {
	// The source is asked first: ErrNone of either goes ahead of ErrHeld.
	source := p.used(from)
	if source == nil {
		return api.ErrNone
	}
	fr, err := p.alone(f)
	if err != nil {
		return err
	}
	fr.bytes = source.bytes
	return nil
}

// Same: have two frames the same bytes?
func (p *Pool) Same(f, g int) bool {
	a, b := p.used(f), p.used(g)
	return a != nil && b != nil && a.bytes == b.bytes
}

// Sum of a frame's bytes, to look for like ones.
func (p *Pool) Sum(f int) (uint32, error) {
	const start, factor uint32 = 2166136261, 16777619
	fr := p.used(f)
	if fr == nil {
		return 0, api.ErrNone
	}
	h := start
	for _, b := range fr.bytes {
		h = (h ^ uint32(b)) * factor
	}
	return h, nil
}

// Copy of a pool.
func (p *Pool) Copy() *Pool { return &Pool{frames: slices.Clone(p.frames)} }

// has: is it a frame's number?
func (p *Pool) has(f int) bool { return f >= 0 && f < len(p.frames) }

// used: the frame, or nil if it is no frame, or free.
func (p *Pool) used(f int) *frame {
	if !p.has(f) || p.frames[f].refs == 0 {
		return nil
	}
	return &p.frames[f]
}

// alone: the frame, if one page alone is in it: a change of its bytes is seen by all that are in it.
func (p *Pool) alone(f int) (*frame, error) {
	fr := p.used(f)
	if fr == nil {
		return nil, api.ErrNone
	}
	if fr.refs > 1 {
		return nil, api.ErrHeld
	}
	return fr, nil
}

// inPage: is it a byte's place?
func inPage(at int) bool { return at >= 0 && at < api.Page }

// class of a frame with so many pages.
func class(refs int) int {
	switch refs {
	case 0:
		return api.Free
	case 1:
		return api.Guest
	default:
		return api.Shared
	}
}
