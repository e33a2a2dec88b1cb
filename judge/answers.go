package judge

import (
	"slices"

	"paternoster/api"
)

// answer tells whether an act of a side can be answered so, and notes what it does.
func (j *Judge) answer(a api.Act, t api.Told) bool {
	if j.closed[a.Side] {
		return late(a, t)
	}
	switch a.Kind {
	case api.XStep, api.XDeliver, api.XTick, api.XInject:
		return j.machine(a, t)
	}
	return j.should(a)(t)
}

// late tells whether an act of a side that is closed can be answered so.
func late(a api.Act, t api.Told) bool {
	switch a.Kind {
	case api.XStep, api.XInject:
		return true
	case api.XTick:
		return t.E == api.OK
	case api.XDeliver:
		return t.E == api.ErrClosed
	}
	return t == api.Told{E: api.ErrClosed}
}

// machine tells whether a step, a delivery, a tick, or bytes from elsewhere can be answered so.
func (j *Judge) machine(a api.Act, t api.Told) bool {
	switch {
	case t.E != api.OK && t.E != api.ErrFull:
		return false
	case a.Kind == api.XInject && t.E == api.OK:
		j.harmed[a.Side] = true
	case a.Kind == api.XStep && t.E == api.ErrFull:
		// What was lost does not come: what comes to the other side then is not what was sent.
		j.harmed[1-a.Side] = true
	}
	return true
}

// should makes the function that tells whether an answer is what an act of a side should answer.
func (j *Judge) should(a api.Act) func(t api.Told) bool {
	switch a.Kind {
	case api.XOpen:
		return func(t api.Told) bool { return j.opens(a, t) }
	case api.XGoaway:
		return among(api.OK, api.ErrState, api.ErrFull)
	case api.XSettings:
		return among(api.OK, api.ErrRange, api.ErrLimit, api.ErrFull)
	}
	s := j.seats[a.Side][a.ID]
	switch {
	case s == nil && j.had(a.Side, a.ID):
		return among(api.ErrClosed)
	case s == nil && a.ID >= 1 && a.ID <= api.MaxID && a.ID%2 == a.Side:
		// A number of the other side's may have been passed over.
		return among(api.ErrClosed, api.ErrNone)
	case s == nil:
		return among(api.ErrNone)
	}
	return j.seated(a, s)
}

// among makes the function that tells whether an answer is one of some errors, and nothing else.
func among(l ...api.Errno) func(t api.Told) bool {
	return func(t api.Told) bool {
		return t == api.Told{E: t.E} && slices.Contains(l, t.E)
	}
}

// exactly makes the function that tells whether an answer is that one.
func exactly(want api.Told) func(t api.Told) bool {
	return func(t api.Told) bool { return t == want }
}

// opens tells whether a stream can be opened so.
func (j *Judge) opens(a api.Act, t api.Told) bool {
	if t.E == api.OK {
		return t == api.Told{N: t.N} && j.sit(a.Side, t.N, a.N, a.Code)
	}
	return among(api.ErrKind, api.ErrArg, api.ErrRefused, api.ErrLimit, api.ErrCycle, api.ErrFull)(t)
}

// seated makes the function that tells whether an answer is what an act of a stream should answer that the side has.
func (j *Judge) seated(a api.Act, s *seat) func(t api.Told) bool {
	f := j.flows[a.Side][a.ID]
	switch a.Kind {
	case api.XOffer, api.XFinish:
		if f.Out() {
			return among(api.ErrClosed)
		}
		if a.Kind == api.XFinish {
			return exactly(api.Told{E: f.Finish()})
		}
		n, e := f.Offer(a.S)
		return exactly(api.Told{E: e, N: n})
	case api.XMove:
		return among(api.OK, api.ErrArg, api.ErrCycle, api.ErrFull)
	case api.XReset:
		return among(api.OK, api.ErrArg, api.ErrFull)
	}
	kind := api.KItems
	if a.Kind == api.XRead {
		kind = api.KBytes
	}
	switch {
	case s.kind != kind:
		return among(api.ErrKind)
	case a.Kind == api.XRead:
		return exactly(j.read(a, s))
	case a.Kind == api.XItem:
		return exactly(j.item(a, s))
	case a.N < 1:
		return among(api.ErrArg)
	}
	return among(api.OK)
}

// read tells what reading answers, and takes it out of what is there.
func (j *Judge) read(a api.Act, s *seat) api.Told {
	n := max(min(a.N, len(s.bytes)), 0)
	t := api.Told{S: s.bytes[:n], N: n}
	s.bytes = s.bytes[n:]
	t.End = s.ended && s.empty()
	if !j.harmed[a.Side] {
		j.flows[1-a.Side][a.ID].Read(n)
	}
	return t
}

// item tells what taking an item answers, and takes it out of what is there.
func (j *Judge) item(a api.Act, s *seat) api.Told {
	var t api.Told
	if len(s.items) > 0 {
		t.S, t.Is = s.items[0], true
		s.items = s.items[1:]
	}
	t.End = s.ended && s.empty()
	if !j.harmed[a.Side] {
		j.flows[1-a.Side][a.ID].Item()
	}
	return t
}
