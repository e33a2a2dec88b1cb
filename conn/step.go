package conn

import (
	"paternoster/api"
	"paternoster/beat"
	"paternoster/fault"
	"paternoster/frame"
	"paternoster/pick"
)

// Step does what is to be done; what is sent.
func (x *Conn) Step() string {
	switch x.begin() {
	case api.ErrNil:
		return ""
	case api.ErrClosed:
		return x.part()
	}
	l := x.timers()
	if x.closed() {
		return x.part()
	}
	for x.queue.Len() > 0 {
		f, _ := x.queue.Next()
		l = append(l, f)
	}
	l = append(l, x.grants()...)
	l = append(l, x.data()...)
	if x.drain.Step(x.streams.Len()) {
		x.close()
	}
	s, _ := frame.All(l...)
	return s
}

// part tells the farewell, once.
func (x *Conn) part() string {
	s := x.farewell
	x.farewell = ""
	return s
}

// timers lets the timers go on: it may fail, or send a ping.
func (x *Conn) timers() []api.Frame {
	what, data := x.beat.Step(x.clock)
	if what == beat.Lost {
		x.fail(fault.Fault{What: api.VLost})
		return nil
	}
	if x.stall.Step(x.clock, x.blocked()) {
		x.fail(fault.Fault{What: api.VStall})
		return nil
	}
	if what == beat.Ping {
		return []api.Frame{{Type: api.FPing, Data: data}}
	}
	return nil
}

// blocked tells whether some stream has something to send, and may not.
func (x *Conn) blocked() bool {
	for i := range x.streams.Len() {
		id, s, _ := x.streams.At(i)
		if s.MaySend() && s.Tx().Stuck(x.credit.Free(id)) {
			return true
		}
	}
	return false
}

// granter makes the function that grants what is due on a stream, of 0 on the connection; how much, and the type of the frame that says so.
func (x *Conn) granter() func(id int) (int, int) {
	return func(id int) (int, int) {
		s := x.Stream(id)
		switch {
		case id == 0:
			return x.recv.Grant(), api.FWindow
		case s == nil || !s.MayRecv():
			return 0, api.FWindow
		case s.Kind() == api.KItems:
			return s.Rx().Grant(), api.FRequest
		}
		return s.Rx().Grant(), api.FWindow
	}
}

// grants tells the frames that grant what is due: of the connection first, then of streams, rising.
func (x *Conn) grants() []api.Frame {
	grant := x.granter()
	var l []api.Frame
	for _, id := range append([]int{0}, x.streams.IDs()...) {
		if n, kind := grant(id); n > 0 {
			l = append(l, api.Frame{Type: kind, Stream: id, N: n})
		}
	}
	return l
}

// turns tells whose turn it may be, in the tree's order.
func (x *Conn) turns() []api.Turn {
	var l []api.Turn
	for _, id := range x.tree.Order() {
		s := x.Stream(id)
		ready := s.MaySend() && s.Tx().Ready(x.credit.Free(id))
		l = append(l, api.Turn{ID: id, Weight: x.tree.Weight(id), Ready: ready})
	}
	return l
}

// data tells the frames of data that are sent.
func (x *Conn) data() []api.Frame {
	var l []api.Frame
	for range api.Burst {
		id, is := x.pick.Next(x.turns()...)
		if !is {
			return l
		}
		s := x.Stream(id)
		f, is := s.Take(x.credit.Free(id))
		if !is {
			return l
		}
		if f.Type == api.FData {
			x.credit.Spend(id, len(f.Data))
		}
		l = append(l, f)
		x.note(api.MSent, id, size(f), f.Data, f.End)
		x.pick.Charge(id, pick.Cost(len(f.Data)))
		x.tidy(s)
	}
	return l
}
