package loader

import "longeron/api"

// deeds tells what is done with a message of each kind that asks for something, and how it is answered.
func (l *Loader) deeds() map[int]func(p api.Pdu) api.Pdu {
	return map[int]func(p api.Pdu) api.Pdu{
		api.POpen:  l.open,
		api.PBlock: l.block,
		api.PDone:  l.done,
		api.PAbort: l.abort,
		api.PAsk:   l.ask,
	}
}

func (l *Loader) open(p api.Pdu) api.Pdu {
	asked := session{number: p.Session, part: p.Part, size: p.Size}
	switch {
	case !l.isOpen():
		return told(p, l.begin(asked))
	case l.session.number != p.Session:
		return told(p, api.ErrSession)
	case l.session != asked:
		return told(p, api.ErrArg)
	}
	return told(p, api.OK)
}

func (l *Loader) block(p api.Pdu) api.Pdu {
	if e := l.admit(p.Session); e != api.OK {
		return told(p, e)
	}
	return told(p, l.store.Load(l.session.part, p.Session, p.No, p.Data))
}

func (l *Loader) done(p api.Pdu) api.Pdu {
	if l.isPast(p.Session, l.sealed) {
		return told(p, api.OK)
	}
	if e := l.admit(p.Session); e != api.OK {
		return told(p, e)
	}
	e := l.store.Seal(l.session.part, p.Session)
	if e == api.OK {
		l.sealed = p.Session
		l.close()
	}
	return told(p, e)
}

func (l *Loader) abort(p api.Pdu) api.Pdu {
	if l.isPast(p.Session, l.aborted) {
		return told(p, api.OK)
	}
	if e := l.admit(p.Session); e != api.OK {
		return told(p, e)
	}
	e := l.store.Drop(l.session.part, p.Session)
	l.close()
	if e == api.ErrState { // there was nothing to drop
		e = api.OK
	}
	if e == api.OK {
		l.aborted = p.Session
	}
	return told(p, e)
}

func (l *Loader) ask(p api.Pdu) api.Pdu {
	if e := l.admit(p.Session); e != api.OK {
		return told(p, e)
	}
	have, _ := l.blocks(l.session)
	return api.Pdu{Kind: api.PStatus, Session: p.Session, Part: l.session.part, Size: l.session.size, Have: have}
}

// begin opens a session, while none is open. One that was broken off is gone on with.
func (l *Loader) begin(asked session) api.Errno {
	if _, is := l.blocks(asked); !is || l.tries(asked.part) {
		if e := l.store.Begin(asked.part, asked.number, asked.size); e != api.OK {
			return e
		}
	}
	l.session = asked
	return api.OK
}

// admit tells what speaks against a message that is for a session which is open.
func (l *Loader) admit(number int) api.Errno {
	switch {
	case !l.isOpen():
		return api.ErrState
	case l.session.number != number:
		return api.ErrSession
	}
	return api.OK
}

// isPast tells whether that session is the last one that ended so, and its end is told again, as the answer was lost on its way.
func (l *Loader) isPast(number, last int) bool {
	return !l.isOpen() && number != none && number == last
}

// blocks answers which blocks of a session are there, a bit each; false, if what is staged isn't its.
func (l *Loader) blocks(s session) (int, bool) {
	st, is := l.store.Stage(s.part)
	if !is || st.Session != s.number || st.Size != s.size {
		return 0, false
	}
	return st.Have, true
}

// tries tells whether a trial goes on.
func (l *Loader) tries(part int) bool {
	r := l.store.Record(part)
	return r.Active != r.Confirmed
}

// told is the answer to a message that ended so.
func told(p api.Pdu, e api.Errno) api.Pdu {
	if e != api.OK {
		return api.Pdu{Kind: api.PNack, Session: p.Session, What: p.Kind, No: p.No, Code: int(e)}
	}
	return api.Pdu{Kind: api.PAck, Session: p.Session, What: p.Kind, No: p.No}
}
