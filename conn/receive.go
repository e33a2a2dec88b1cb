package conn

import (
	"paternoster/api"
	"paternoster/fault"
	"paternoster/params"
	"paternoster/stream"
)

// Receive takes bytes that came.
func (x *Conn) Receive(s string) api.Errno {
	if e := x.begin(); e != api.OK {
		return e
	}
	l, code := x.split.Feed(s)
	for _, f := range l {
		if x.closed() {
			return api.OK
		}
		x.beat.Heard(x.clock)
		x.take(f)
	}
	if code != api.NoError && !x.closed() {
		x.fail(fault.Fault{What: api.VFrame, Own: code})
	}
	return api.OK
}

// take takes a frame that came.
func (x *Conn) take(f api.Frame) {
	switch f.Type {
	case api.FSettings:
		x.takeSettings(f)
	case api.FAck:
		x.takeAck()
	case api.FPing:
		x.answer(api.Frame{Type: api.FPong, Data: f.Data})
	case api.FPong:
		x.beat.Pong(x.clock, f.Data)
	case api.FGoaway:
		x.takeGoaway(f)
	case api.FOpen:
		x.takeOpen(f)
	default:
		if f.Type == api.FWindow && f.Stream == 0 {
			x.takeWindow(f)
			return
		}
		x.takeOfStream(f)
	}
}

// takeSettings takes the other side's settings.
func (x *Conn) takeSettings(f api.Frame) {
	to, code := params.Apply(x.peer, f.Params...)
	if code != api.NoError {
		x.fail(fault.Fault{What: api.VSettings})
		return
	}
	if x.credit.Resize(x.peer.Window, to.Window) != api.OK {
		x.fail(fault.Fault{What: api.VResize})
		return
	}
	x.peer = to
	x.answer(api.Frame{Type: api.FAck})
}

// takeAck takes what the other side acknowledges.
func (x *Conn) takeAck() {
	_, holds, code := x.shake.Ack()
	if code != api.NoError {
		x.fail(fault.Fault{What: api.VAck})
		return
	}
	for i := range x.streams.Len() {
		_, s, _ := x.streams.At(i)
		s.Rx().Resize(holds)
	}
}

// takeGoaway takes a goaway.
func (x *Conn) takeGoaway(f api.Frame) {
	x.drain.Got(f.Last, f.Code)
	if x.closed() {
		x.close()
		return
	}
	for _, id := range x.streams.IDs() {
		if s := x.Stream(id); s.Own() && x.drain.Refused(id) {
			x.kill(s, recvReset, api.Refused)
		}
	}
}

// takeOpen takes a stream that the other side opens.
func (x *Conn) takeOpen(f api.Frame) {
	_, others := x.own()
	switch {
	case x.ids.Peer(f.Stream) != api.NoError:
		x.wrong(fault.Fault{What: api.VOpenID})
	case f.On == f.Stream:
		x.wrong(fault.Fault{What: api.VSelf})
	case !x.drain.Takes(f.Stream):
		x.wrong(fault.Fault{What: api.VLate, Stream: f.Stream})
	case others >= x.shake.Holds().Streams:
		x.wrong(fault.Fault{What: api.VBusy, Stream: f.Stream})
	default:
		x.add(f.Stream, f.Kind, x.conf.Strategy, false, f.Dep)
		x.note(api.MOpened, f.Stream, f.Kind, "", false)
	}
}

// takeWindow takes credit of the connection.
func (x *Conn) takeWindow(f api.Frame) {
	switch {
	case f.N == 0:
		x.wrong(fault.Fault{What: api.VNoughtC})
	case x.credit.Grow(0, f.N) != api.OK:
		x.wrong(fault.Fault{What: api.VOverC})
	default:
		x.stall.Credit(x.clock)
	}
}

// takeOfStream takes a frame of a stream.
func (x *Conn) takeOfStream(f api.Frame) {
	if !x.ids.Past(f.Stream) {
		x.wrong(fault.Fault{What: api.VIdle})
		return
	}
	s := x.Stream(f.Stream)
	switch f.Type {
	case api.FData, api.FItem:
		x.takeData(f, s)
		return
	case api.FPriority:
		if f.On == f.Stream {
			x.wrong(fault.Fault{What: api.VSelf})
			return
		}
	}
	if s == nil {
		return
	}
	switch f.Type {
	case api.FPriority:
		x.tree.Move(f.Stream, f.Dep)
	case api.FReset:
		x.kill(s, recvReset, f.Code)
	case api.FWindow, api.FRequest:
		x.takeCredit(f, s)
	}
}

// takeData takes data; s is nil, if the stream is not there any more.
func (x *Conn) takeData(f api.Frame, s *stream.Stream) {
	n := 0
	if f.Type == api.FData {
		n = len(f.Data)
	}
	if x.recv.Got(n) != api.OK {
		x.wrong(fault.Fault{What: api.VConn})
		return
	}
	if s == nil {
		x.recv.Use(n)
		return
	}
	wrong, right := s.Come(f)
	if !right {
		x.recv.Use(n)
		x.wrong(fault.Fault{What: wrong, Stream: f.Stream})
		return
	}
	x.note(api.MCame, f.Stream, size(f), f.Data, f.End)
	x.tidy(s)
}

// size tells how many bytes a frame of data has; of items whether it has one.
func size(f api.Frame) int {
	switch {
	case f.Type == api.FData:
		return len(f.Data)
	case f.End && f.Data == "":
		return 0
	}
	return 1
}

// takeCredit takes credit, or a demand, of a stream that is there.
func (x *Conn) takeCredit(f api.Frame, s *stream.Stream) {
	kind := api.KBytes
	if f.Type == api.FRequest {
		kind = api.KItems
	}
	switch {
	case s.Kind() != kind:
		x.wrong(fault.Fault{What: api.VKind, Stream: f.Stream})
		return
	case f.N == 0:
		x.wrong(fault.Fault{What: api.VNought, Stream: f.Stream})
		return
	case kind == api.KItems:
		s.Tx().Want(f.N)
	case x.credit.Grow(f.Stream, f.N) != api.OK:
		x.wrong(fault.Fault{What: api.VOver, Stream: f.Stream})
		return
	}
	x.stall.Credit(x.clock)
}
