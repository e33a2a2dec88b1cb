package judge

import (
	"paternoster/api"
	"paternoster/duplex"
)

// Watch is a duplex, and a judge.
type Watch struct {
	d *duplex.Duplex
	j *Judge
}

// Over makes a duplex that is watched.
func Over(a, b api.Conf) (*Watch, api.Errno) {
	d, e := duplex.New(a, b)
	if e != api.OK {
		return nil, e
	}
	return &Watch{d: d, j: New(a, b)}, api.OK
}

// Do does an act, and hears of it.
func (w *Watch) Do(a api.Act) (api.Told, bool) {
	if w == nil {
		return api.Told{E: api.ErrNil}, false
	}
	h := api.Heard{A: a, T: w.d.Do(a)}
	for side := range 2 {
		h.M[side] = w.d.Moves(side)
		h.Closed[side] = w.d.Conn(side).Status().Closed
	}
	return h.T, w.j.Hear(h)
}

// Duplex tells the duplex.
func (w *Watch) Duplex() *duplex.Duplex {
	if w == nil {
		return nil
	}
	return w.d
}

// Judge tells the judge.
func (w *Watch) Judge() *Judge {
	if w == nil {
		return nil
	}
	return w.j
}
