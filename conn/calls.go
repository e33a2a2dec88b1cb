package conn

import (
	"paternoster/api"
	"paternoster/life"
	"paternoster/stream"
)

// Events by which streams are killed.
const (
	sendReset = life.SendReset
	recvReset = life.RecvReset
)

// maxWeight is the greatest weight of a Dep.
const maxWeight = 256

// mayDepend tells whether a Dep may be.
func mayDepend(d api.Dep) bool {
	return d.On >= 0 && d.On <= api.MaxID && d.Weight >= 1 && d.Weight <= maxWeight
}

// begin begins a call: nothing has happened in it yet. ErrNil, ErrClosed.
func (x *Conn) begin() api.Errno {
	if x == nil {
		return api.ErrNil
	}
	x.moves = nil
	if x.closed() {
		return api.ErrClosed
	}
	return api.OK
}

// find begins a call of a stream.
func (x *Conn) find(id int) (*stream.Stream, api.Errno) {
	if e := x.begin(); e != api.OK {
		return nil, e
	}
	s := x.Stream(id)
	switch {
	case s != nil:
		return s, api.OK
	case x.ids.Past(id):
		return nil, api.ErrClosed
	}
	return nil, api.ErrNone
}

// mayOpen tells why no stream of a kind may be opened; OK, if one may.
func (x *Conn) mayOpen(kind, strategy int, d api.Dep) api.Errno {
	own, _ := x.own()
	switch {
	case kind != api.KBytes && kind != api.KItems:
		return api.ErrKind
	case strategy < api.OnError || strategy > api.KeepLatest:
		return api.ErrArg
	case !x.drain.MayOpen():
		return api.ErrRefused
	case x.ids.Next() > api.MaxID || own >= x.peer.Streams || own >= api.MaxStreams:
		return api.ErrLimit
	case !mayDepend(d):
		return api.ErrArg
	case d.On == x.ids.Next():
		return api.ErrCycle
	case x.queue.Room() == 0:
		return api.ErrFull
	}
	return api.OK
}

// Open opens a stream.
func (x *Conn) Open(kind, strategy int, d api.Dep) (int, api.Errno) {
	if e := x.begin(); e != api.OK {
		return 0, e
	}
	if e := x.mayOpen(kind, strategy, d); e != api.OK {
		return 0, e
	}
	id, e := x.ids.Use()
	if e != api.OK {
		return 0, e
	}
	x.queue.Push(api.Frame{Type: api.FOpen, Stream: id, Kind: kind, Dep: d})
	x.add(id, kind, strategy, true, d)
	return id, api.OK
}

// Offer offers data on a stream.
func (x *Conn) Offer(id int, data string) (int, api.Errno) {
	s, e := x.find(id)
	if e != api.OK {
		return 0, e
	}
	return s.Offer(data)
}

// Finish says that nothing follows on a stream.
func (x *Conn) Finish(id int) api.Errno {
	s, e := x.find(id)
	if e != api.OK {
		return e
	}
	return s.Finish()
}

// Read reads bytes of a stream; whether that was the end.
func (x *Conn) Read(id, n int) (string, bool, api.Errno) {
	s, e := x.find(id)
	if e != api.OK {
		return "", false, e
	}
	data, e := s.Rx().Read(n)
	if e != api.OK {
		return "", false, e
	}
	x.recv.Use(len(data))
	end := s.Rx().Done()
	x.tidy(s)
	return data, end, api.OK
}

// Item takes an item of a stream; whether there is one, and whether that was the end.
func (x *Conn) Item(id int) (string, bool, bool, api.Errno) {
	s, e := x.find(id)
	if e != api.OK {
		return "", false, false, e
	}
	item, is, e := s.Rx().Item()
	if e != api.OK {
		return "", false, false, e
	}
	end := s.Rx().Done()
	x.tidy(s)
	return item, is, end, api.OK
}

// Ask asks for items.
func (x *Conn) Ask(id, n int) api.Errno {
	s, e := x.find(id)
	if e != api.OK {
		return e
	}
	return s.Rx().Ask(n)
}

// Move lets a stream hang elsewhere, on both sides.
func (x *Conn) Move(id int, d api.Dep) api.Errno {
	_, e := x.find(id)
	switch {
	case e != api.OK:
		return e
	case !mayDepend(d):
		return api.ErrArg
	case d.On == id:
		return api.ErrCycle
	case x.queue.Room() == 0:
		return api.ErrFull
	}
	x.queue.Push(api.Frame{Type: api.FPriority, Stream: id, Dep: d})
	return x.tree.Move(id, d)
}

// Reset ends a stream.
func (x *Conn) Reset(id, code int) api.Errno {
	s, e := x.find(id)
	switch {
	case e != api.OK:
		return e
	case code < 0 || code > api.MaxID:
		return api.ErrArg
	case x.queue.Room() == 0:
		return api.ErrFull
	}
	x.queue.Push(api.Frame{Type: api.FReset, Stream: id, Code: code})
	x.kill(s, sendReset, code)
	return api.OK
}

// Goaway says that no more streams are taken.
func (x *Conn) Goaway() api.Errno {
	if e := x.begin(); e != api.OK {
		return e
	}
	if _, sent := x.drain.Sent(); sent {
		return api.ErrState
	}
	if x.queue.Room() == 0 {
		return api.ErrFull
	}
	x.queue.Push(api.Frame{Type: api.FGoaway, Last: x.ids.Last(), Code: api.NoError})
	return x.drain.Send(x.ids.Last())
}

// Settings sends other settings.
func (x *Conn) Settings(s api.Settings) api.Errno {
	if e := x.begin(); e != api.OK {
		return e
	}
	if x.queue.Room() == 0 {
		return api.ErrFull
	}
	return x.send(s)
}
