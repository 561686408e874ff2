package air

import (
	"assayer/api"
	"assayer/octet"
)

const (
	// wide is how many bytes there are of a number.
	wide = 8
	// longest is of how many bytes a rule may be that is read.
	longest = 4096
)

// reader takes fields off the front of a text. Behind a field that isn't there, or is too great, it is bad, and what it reads means nothing.
type reader struct {
	rest string
	bad  bool
}

// air reads all fields; what is read may be one that may not be.
func (r *reader) air() api.Air {
	var a api.Air
	a.Cols = r.number(api.MaxCols)
	a.Log = r.number(api.MaxLog)
	steps := r.number(api.MaxCols)
	rules := r.number(api.MaxRules)
	bounds := r.number(api.MaxBounds)
	a.Steps = several(steps, r.text)
	a.Rules = several(rules, r.text)
	a.Bounds = several(bounds, r.bound)
	return a
}

// several is what n reads give, in order.
func several[V any](n int, read func() V) []V {
	var l []V
	for range n {
		l = append(l, read())
	}
	return l
}

// number reads one of at most most.
func (r *reader) number(most int) int {
	n, ok := octet.Number(r.rest)
	// The number is held against its bound ahead of all else: as an int, a great one would be below 0.
	if !ok || n > uint64(most) {
		r.bad = true
		return 0
	}
	r.rest = r.rest[wide:]
	return int(n)
}

// text reads how many bytes there are, and they.
func (r *reader) text() string {
	n := r.number(longest)
	if n > len(r.rest) {
		r.bad = true
		return ""
	}
	s := r.rest[:n]
	r.rest = r.rest[n:]
	return s
}

// bound reads a column, then a row; one beyond the last that there may be is of the form too.
func (r *reader) bound() api.Bound {
	col := r.number(api.MaxCols)
	row := r.number(1 << api.MaxLog)
	return api.Bound{Col: col, Row: row}
}
