package platform

import (
	"errors"

	"blotter/api"
)

// Step does a step: why it could not be done.
func (w *World) Step(s api.Step) api.Errno {
	if w.unmade() {
		return api.ErrNil
	}
	err := w.step(s)
	w.server.forgetGone()
	return numberOf(err)
}

// numberOf is an error's number, whether it is that number itself or stands in a fault; OK, if there is none.
func numberOf(err error) api.Errno {
	var e api.Errno
	errors.As(err, &e)
	return e
}

// step does a step, by its kind; that it was done is said by nil or by OK, as the layer below has it.
func (w *World) step(s api.Step) error {
	switch s.Kind {
	case api.SMutate, api.SAct, api.SWatch:
		if s.Node == serverNode {
			return api.ErrStep
		}
		fallthrough
	case api.SCrash, api.SStart, api.SCompact:
		return w.stepOfMachine(s)
	case api.SCarry:
		return w.carry(s.Conn, s.Node, s.N)
	case api.SCut:
		return w.net.Cut(s.Conn)
	case api.SPass:
		return w.pass(s.N)
	case api.SDial:
		_, e := w.dial(somebodyElse)
		return e
	case api.SForge:
		return w.net.Send(s.Conn, somebodyElse, s.Bytes)
	case api.SRotate:
		w.rotate()
		return nil
	}
	return api.ErrStep
}

// stepOfMachine does a step of a machine that must run, or, to start, must not.
func (w *World) stepOfMachine(s api.Step) error {
	err := w.down(s.Node)
	switch {
	case s.Kind == api.SStart && err == nil:
		return api.ErrDown
	case s.Kind == api.SStart && errors.Is(err, api.ErrDown):
		return w.machine(s.Node).start()
	case err != nil:
		return err
	}
	switch s.Kind {
	case api.SMutate:
		_, err = w.client(s.Node).core.Mutate(s.M)
	case api.SAct:
		w.client(s.Node).act()
	case api.SWatch:
		w.client(s.Node).watch()
	case api.SCrash:
		w.machine(s.Node).crash(s.Keep, s.Tear)
	case api.SCompact:
		err = w.machine(s.Node).compact()
	}
	return err
}

// carry lets bytes that are on the way reach a machine.
func (w *World) carry(conn, to, most int) api.Errno {
	b, e := w.net.Carry(conn, to, most)
	if e != api.OK {
		return e
	}
	if m := w.machine(to); m != nil {
		m.take(conn, b)
	}
	return api.OK
}

// pass lets so many milliseconds go by.
func (w *World) pass(ms int) api.Errno {
	if ms < 0 || ms > api.MaxTime-w.now {
		return api.ErrStep
	}
	w.now += ms
	return api.OK
}
