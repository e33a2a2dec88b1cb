package conn

import (
	"paternoster/api"
	"paternoster/credit"
	"paternoster/outq"
	"paternoster/pace"
	"paternoster/shake"
	"paternoster/stream"
)

// Tick lets time go on.
func (x *Conn) Tick() int {
	if x == nil {
		return 0
	}
	x.clock++
	return x.clock
}

// Moves tells what happened in the last call.
func (x *Conn) Moves() []api.Move {
	if x == nil {
		return nil
	}
	return append([]api.Move(nil), x.moves...)
}

// Status tells how it stands.
func (x *Conn) Status() api.Status {
	if x == nil {
		return api.Status{}
	}
	st := api.Status{Streams: x.streams.Len(), Clock: x.clock}
	st.Own, _ = x.own()
	st.Closed, st.Code = x.drain.Over()
	for i := range x.streams.Len() {
		_, s, _ := x.streams.At(i)
		st.Waiting += s.Tx().Told().Waiting()
		st.Kept += s.Rx().Kept()
	}
	return st
}

// Stream tells a stream.
func (x *Conn) Stream(id int) *stream.Stream {
	if x == nil {
		return nil
	}
	s, _ := x.streams.Get(id)
	return s
}

// IDs tells all streams.
func (x *Conn) IDs() []int {
	if x == nil {
		return nil
	}
	return x.streams.IDs()
}

// Credit tells who may send how much.
func (x *Conn) Credit() *credit.Ledger {
	if x == nil {
		return nil
	}
	return x.credit
}

// Recv tells what the connection has got.
func (x *Conn) Recv() *pace.Pace {
	if x == nil {
		return nil
	}
	return x.recv
}

// Shake tells the settings.
func (x *Conn) Shake() *shake.Shake {
	if x == nil {
		return nil
	}
	return x.shake
}

// Queue tells what waits to be sent.
func (x *Conn) Queue() *outq.Queue {
	if x == nil {
		return nil
	}
	return x.queue
}
