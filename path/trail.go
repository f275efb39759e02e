package path

import "foliant/api"

// trail has segments, and where they lead. It keeps the two points, lest it look for them in a long list again and again.
type trail struct {
	segs []api.Seg
	// start is where the last move leads to, and here the current point.
	start, here api.Point
}

// empty reports whether there are no segments.
func (t *trail) empty() bool { return len(t.segs) == 0 }

// add appends segments.
func (t *trail) add(l ...api.Seg) {
	for _, s := range l {
		switch s.Kind {
		case api.SegMove:
			t.start, t.here = s.R, s.R
		case api.SegClose:
			t.here = t.start
		default:
			t.here = s.R
		}
	}
	t.segs = append(t.segs, l...)
}
