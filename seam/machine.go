package seam

import "trank/api"

const (
	maxFuel = 100000
	none    = -1 // no thread
)

// fault is the number of what stops the machine; a panic carries it out of the step.
type fault int

const (
	takeWhileHeld fault = iota + 1
	goWhileHeld
	noJoint
	noThread
	noSeam
	otherThread
	elsewhere
	nothingToRepeat
	repeatOfRepeat
	noFuel
)

// Report is what the machine did.
type Report struct {
	Fault, Steps, At, Held, Cuts int
	Sewn, Used                   []int
}

// machine is in the state that its report shows.
type machine struct {
	Report
	graph Graph
	fuel  int
}

// Run executes a program.
func Run(g Graph, p []Op, fuel int) (Report, api.Errno) {
	if !Valid(g) || fuel < 0 || fuel > maxFuel {
		return Report{}, api.ErrArg
	}
	if e := check(p); e != api.OK {
		return Report{}, e
	}
	m := machine{Report{Held: none, Sewn: make([]int, len(g.Seams)), Used: make([]int, threads)}, g, fuel}
	m.execute(p)
	return m.Report, api.OK
}

func (m *machine) execute(p []Op) {
	defer func() {
		if stop := recover(); stop != nil {
			m.Fault = int(stop.(fault)) // anything else goes on as a panic: it would be a mistake in this package
		}
	}()
	for len(p) > 0 {
		op := p[0]
		p = p[1:]
		m.step(op, p)
		if op.Code == repeat {
			for range op.Arg {
				m.step(p[0], p[1:])
			}
			p = p[1:]
		}
	}
}

// step executes op, which rest follows. What a repeat repeats are steps of their own.
func (m *machine) step(op Op, rest []Op) {
	faultIf(m.Steps == m.fuel, noFuel)
	switch op.Code {
	case take:
		faultIf(m.Held != none, takeWhileHeld)
		m.Held = op.Arg
	case goTo:
		faultIf(m.Held != none, goWhileHeld)
		faultIf(!m.graph.hasJoint(op.Arg), noJoint)
		m.At = op.Arg
	case lock:
		faultIf(m.Held == none, noThread)
		m.Used[m.Held] += usedByLock
	case sew:
		m.sewSeam(Move{op.Arg, op.Back})
	case cut:
		faultIf(m.Held == none, noThread)
		m.Used[m.Held] += usedByCut
		m.Held = none
		m.Cuts++
	case repeat:
		faultIf(len(rest) == 0, nothingToRepeat)
		faultIf(rest[0].Code == repeat, repeatOfRepeat)
	}
	m.Steps++
}

func (m *machine) sewSeam(move Move) {
	faultIf(m.Held == none, noThread)
	faultIf(!m.graph.hasSeam(move.Seam), noSeam)
	s := m.graph.Seams[move.Seam]
	faultIf(s.Thread != m.Held, otherThread)
	from, to := m.graph.ends(move)
	faultIf(m.At != from, elsewhere)
	m.Used[m.Held] += usedBySeam * s.Len
	m.Sewn[move.Seam]++
	m.At = to
}

// faultIf stops the machine if something is wrong.
func faultIf(wrong bool, f fault) {
	if wrong {
		panic(f)
	}
}
