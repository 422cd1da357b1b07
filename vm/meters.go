package vm

import "lintel/api"

// meters are what stops a machine.
type meters struct {
	fuel, spent int
	most        int // calls within one another
	end         int // what it was stopped by: it does nothing any more; EndNormal: nothing yet
}

func metersOf(l api.Limits) meters {
	return meters{fuel: max(l.Fuel, 1), most: min(max(l.Frames, 1), api.MaxFrames)}
}

// level is what changes with each call, and is put back when it is left.
type level struct {
	calls   int  // that are under way within one another
	natives int  // of these, those by the library
	library bool // whether it is the library that does something, or the host, and no instruction
}

// stopped is what is thrown when the machine is to stop: nobody catches it for good.
type stopped struct{}

// halt stops the machine for good.
func (m *Machine) halt(end int) {
	if m.end == api.EndNormal {
		m.end = end
	}
	panic(stopped{})
}

// burn takes n of the fuel, which is not below 0.
func (m *Machine) burn(n int) {
	if n > m.fuel-m.spent {
		m.spent = m.fuel
		m.halt(api.EndFuel)
	}
	m.spent += n
}

// enter counts a call; what it answers is to be put back when the call is left.
func (m *Machine) enter() level {
	m.burn(1)
	return m.deeper()
}

// deeper is one call more within the others.
func (m *Machine) deeper() level {
	before := m.level
	m.calls++
	if m.library {
		m.natives++
	}
	if m.calls > m.most || m.natives > api.MaxNative {
		m.halt(api.EndLimit)
	}
	return before
}
