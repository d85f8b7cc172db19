package sched

import (
	"math"
	"math/rand/v2"
	"slices"
	"testing"

	"penumbra/api"
)

// far are numbers that are no process and no CPU; cut to fewer bits some of
// them come round to such as there are.
var far = []int{-1, -2, -3, -4, -5, -8, api.MaxProcs, api.MaxProcs + 1, 6, 7, 8, 9, 64, 100, 255, 256, 257, 1 << 16, 1<<16 + 1,
	1 << 31, 1 << 32, 1<<32 + 1, -1 << 32, 1 << 62, math.MaxInt, math.MaxInt - 1, math.MinInt, math.MinInt + 1}

// state is all that can be told of a scheduler. By next it has whom each CPU
// would Pick if all were alive and ran nowhere, which tells who ran there last.
type state struct {
	alive    [api.MaxProcs]bool
	on, next [api.MaxCPU]int
}

func copyOf(s *Sched) *Sched {
	c := *s
	c.seats = slices.Clone(s.seats)
	return &c
}

func stateOf(s *Sched) state {
	var st state
	for _, proc := range s.Alive() {
		st.alive[proc] = true
	}
	for cpu := range api.MaxCPU {
		st.on[cpu] = s.On(cpu)
		c := copyOf(s)
		for proc := range api.MaxProcs {
			c.End(proc)
			c.Wake(proc)
		}
		st.next[cpu] = c.Pick(cpu)
	}
	return st
}

// checkState fails where anything but what is wanted has changed.
func checkState(t *testing.T, what string, s *Sched, want state) {
	t.Helper()
	if got := stateOf(s); got != want {
		t.Errorf("%s: %+v; want %+v", what, got, want)
	}
	for proc := range api.MaxProcs {
		if got := s.Where(proc); got != slices.Index(want.on[:], proc) {
			t.Errorf("%s: Where(%d) = %d; on the CPUs are %d", what, proc, got, want.on)
		}
	}
	if procs := s.Alive(); !slices.IsSorted(procs) {
		t.Errorf("%s: Alive() = %d", what, procs)
	}
}

func checkWake(t *testing.T, s *Sched, proc int, want bool) {
	t.Helper()
	if got := s.Wake(proc); got != want {
		t.Errorf("Wake(%d) = %v; want %v", proc, got, want)
	}
}

func checkEnd(t *testing.T, s *Sched, proc int, want bool) {
	t.Helper()
	if got := s.End(proc); got != want {
		t.Errorf("End(%d) = %v; want %v", proc, got, want)
	}
}

// checkPick has the CPU Pick once for each process that is wanted.
func checkPick(t *testing.T, s *Sched, cpu int, want ...int) {
	t.Helper()
	for i, proc := range want {
		if got := s.Pick(cpu); got != proc {
			t.Errorf("Pick(%d) = %d at time %d; want %d", cpu, got, i, want)
		}
		if got := s.On(cpu); got != proc {
			t.Errorf("On(%d) = %d behind Pick; want %d", cpu, got, proc)
		}
	}
}

func checkOn(t *testing.T, s *Sched, want ...int) {
	t.Helper()
	for cpu, proc := range want {
		if got := s.On(cpu); got != proc {
			t.Errorf("On(%d) = %d; want %d", cpu, got, proc)
		}
	}
}

func checkWhere(t *testing.T, s *Sched, want ...int) {
	t.Helper()
	for proc, cpu := range want {
		if got := s.Where(proc); got != cpu {
			t.Errorf("Where(%d) = %d; want %d", proc, got, cpu)
		}
	}
}

func checkAlive(t *testing.T, s *Sched, want ...int) {
	t.Helper()
	if got := s.Alive(); !slices.Equal(got, want) {
		t.Errorf("Alive() = %d; want %d", got, want)
	}
}

// with has these processes alive, and nobody run.
func with(t *testing.T, cpus int, procs ...int) *Sched {
	t.Helper()
	s := New(cpus)
	for _, proc := range procs {
		checkWake(t, s, proc, true)
	}
	return s
}

// busy has 0, 1 and 3 alive, of which 3 runs on CPU 0 and 0 on CPU 1.
func busy(t *testing.T) *Sched {
	t.Helper()
	s := with(t, 2, 0, 1, 3)
	checkPick(t, s, 0, 0, 1, 3)
	checkPick(t, s, 1, 0)
	checkState(t, "busy", s, state{[api.MaxProcs]bool{0: true, 1: true, 3: true}, [api.MaxCPU]int{3, 0}, [api.MaxCPU]int{0, 1}})
	return s
}

// fresh is the state of a new one of two CPUs.
var fresh = state{on: [api.MaxCPU]int{-1, -1}}

// P14.1: New

func TestExample(t *testing.T) {
	if got := New(2).Pick(0); got != -1 {
		t.Errorf("Pick(0) of a new one: %d; want -1", got)
	}
}

func TestNewHasNobody(t *testing.T) {
	for cpus := range 4 {
		s := New(cpus)
		checkAlive(t, s)
		checkOn(t, s, -1, -1)
		checkWhere(t, s, -1, -1, -1, -1)
		checkPick(t, s, 0, -1, -1)
		checkPick(t, s, 1, -1, -1)
		for proc := range api.MaxProcs {
			checkEnd(t, s, proc, false)
		}
		checkAlive(t, s)
	}
	checkState(t, "New", New(2), fresh)
}

func TestNewCutsTheCPUs(t *testing.T) {
	for _, cpus := range append([]int{0, 1, 2, 3}, far...) {
		s := with(t, cpus, 0, 1, 2, 3)
		checkPick(t, s, 0, 0)
		if cpus >= 2 {
			checkPick(t, s, 1, 1)
			checkWhere(t, s, 0, 1, -1, -1)
		} else {
			checkPick(t, s, 1, -1)
			checkWhere(t, s, 0, -1, -1, -1)
		}
		checkPick(t, s, 2, -1)
	}
}

func TestNewOnesAreApart(t *testing.T) {
	a, b := New(2), New(2)
	if a == b {
		t.Fatal("New answers the same scheduler twice")
	}
	checkWake(t, a, 2, true)
	checkPick(t, a, 1, 2)
	checkState(t, "the other", b, fresh)
	checkEnd(t, b, 2, false)
	checkWake(t, b, 2, true)
	checkWake(t, b, 3, true)
	checkPick(t, b, 0, 2, 3)
	checkAlive(t, a, 2)
	checkOn(t, a, -1, 2)
	checkEnd(t, b, 2, true)
	checkAlive(t, a, 2)
	checkPick(t, a, 1, 2)
	checkOn(t, b, 3, -1)
	checkState(t, "a third one", New(2), fresh)
}

// P14.1: Wake and End

func TestWake(t *testing.T) {
	s := New(2)
	checkWake(t, s, 2, true)
	checkAlive(t, s, 2)
	checkWake(t, s, 2, false)
	checkAlive(t, s, 2)
	checkWake(t, s, 0, true)
	checkWake(t, s, 3, true)
	checkWake(t, s, 1, true)
	for proc := range api.MaxProcs {
		checkWake(t, s, proc, false)
	}
	checkAlive(t, s, 0, 1, 2, 3)
	checkOn(t, s, -1, -1)
	checkWhere(t, s, -1, -1, -1, -1)
}

func TestWakeLeavesWhoRuns(t *testing.T) {
	s := busy(t)
	want := stateOf(s)
	for _, proc := range []int{0, 1, 3} {
		checkWake(t, s, proc, false)
		checkState(t, "Wake of one that is alive", s, want)
	}
	checkWake(t, s, 2, true)
	want.alive[2] = true
	checkState(t, "Wake", s, want)
}

func TestEnd(t *testing.T) {
	s := with(t, 2, 0, 1, 2, 3)
	for _, proc := range []int{2, 0, 3, 1} {
		checkEnd(t, s, proc, true)
		checkEnd(t, s, proc, false)
	}
	checkAlive(t, s)
	checkState(t, "End of all", s, fresh)
}

func TestEndOfOneThatRunsNowhere(t *testing.T) {
	s := busy(t)
	want := stateOf(s)
	checkEnd(t, s, 2, false)
	checkState(t, "End of one that is not alive", s, want)
	checkEnd(t, s, 1, true)
	want.alive[1] = false
	checkState(t, "End of one that ran before", s, want)
}

func TestEndOfOneThatRuns(t *testing.T) {
	for cpu := range api.MaxCPU {
		s := busy(t)
		want := stateOf(s)
		proc := s.On(cpu)
		checkEnd(t, s, proc, true)
		want.alive[proc], want.on[cpu] = false, -1
		checkState(t, "End", s, want)
		checkEnd(t, s, proc, false)
		checkState(t, "End again", s, want)
		checkWake(t, s, proc, true)
		want.alive[proc] = true
		checkState(t, "Wake behind it", s, want)
	}
}

func TestWakeAgainRunsNowhere(t *testing.T) {
	s := with(t, 1, 1)
	for range 5 {
		checkPick(t, s, 0, 1, 1)
		checkEnd(t, s, 1, true)
		checkOn(t, s, -1)
		checkPick(t, s, 0, -1)
		checkWake(t, s, 1, true)
		checkOn(t, s, -1)
		checkWhere(t, s, -1, -1, -1, -1)
		checkAlive(t, s, 1)
	}
}

// P14.1: Pick on one CPU

func TestPickInTurn(t *testing.T) {
	s := with(t, 1, 0, 1, 2, 3)
	checkPick(t, s, 0, 0, 1, 2, 3, 0, 1, 2, 3, 0)
	s = with(t, 1, 3, 1)
	checkPick(t, s, 0, 1, 3, 1, 3)
	checkWake(t, s, 0, true)
	checkPick(t, s, 0, 0, 1, 3, 0)
	checkWake(t, s, 2, true)
	checkPick(t, s, 0, 1, 2, 3, 0)
	checkEnd(t, s, 1, true)
	checkPick(t, s, 0, 2, 3, 0, 2)
}

func TestPickAtFirstIsBehindThree(t *testing.T) {
	for least := range api.MaxProcs {
		for cpu := range api.MaxCPU {
			s := New(2)
			for proc := api.MaxProcs - 1; proc >= least; proc-- {
				checkWake(t, s, proc, true)
			}
			checkPick(t, s, cpu, least)
			checkOn(t, s, [][]int{{least, -1}, {-1, least}}[cpu]...)
		}
	}
}

func TestPickHasWhoRanLastBeTheLast(t *testing.T) {
	for proc := range api.MaxProcs {
		for other := range api.MaxProcs {
			if proc == other {
				continue
			}
			s := with(t, 1, proc)
			checkPick(t, s, 0, proc)
			checkWake(t, s, other, true)
			checkPick(t, s, 0, other, proc, other)
			checkEnd(t, s, proc, true)
			checkPick(t, s, 0, other, other)
		}
	}
}

func TestPickOfTheOnlyOne(t *testing.T) {
	for proc := range api.MaxProcs {
		for cpu := range api.MaxCPU {
			s := with(t, 2, proc)
			checkPick(t, s, cpu, proc, proc, proc)
			if got := s.Where(proc); got != cpu {
				t.Errorf("Where(%d) = %d; want %d", proc, got, cpu)
			}
		}
	}
}

func TestPickHasTheOneBeforeRunNowhere(t *testing.T) {
	s := with(t, 1, 0, 2)
	checkPick(t, s, 0, 0)
	checkWhere(t, s, 0, -1, -1, -1)
	checkPick(t, s, 0, 2)
	checkWhere(t, s, -1, -1, 0, -1)
	checkAlive(t, s, 0, 2)
}

func TestPickGoesOnBehindOneThatEnded(t *testing.T) {
	for proc := range api.MaxProcs {
		s := with(t, 1, proc)
		checkPick(t, s, 0, proc)
		checkEnd(t, s, proc, true)
		for other := range api.MaxProcs {
			s.Wake(other)
		}
		next := (proc + 1) % api.MaxProcs
		checkEnd(t, s, proc, true)
		checkPick(t, s, 0, next)
	}
	s := with(t, 1, 0, 1, 2, 3)
	checkPick(t, s, 0, 0, 1)
	checkEnd(t, s, 2, true)
	checkEnd(t, s, 1, true)
	checkPick(t, s, 0, 3, 0, 3)
}

func TestPickOfNoneKeepsTheTurn(t *testing.T) {
	for proc := range api.MaxProcs {
		s := with(t, 1, proc)
		checkPick(t, s, 0, proc)
		checkEnd(t, s, proc, true)
		checkPick(t, s, 0, -1, -1)
		for other := range api.MaxProcs {
			checkWake(t, s, other, true)
		}
		checkPick(t, s, 0, (proc+1)%api.MaxProcs)
	}
}

// P14.1: Pick on two CPUs

func TestPickNobodyWhoRunsOnTheOther(t *testing.T) {
	s := with(t, 2, 0, 1, 2, 3)
	checkPick(t, s, 0, 0)
	checkPick(t, s, 1, 1, 2, 3, 1)
	checkPick(t, s, 0, 2, 3, 0, 2)
	checkPick(t, s, 1, 3, 0, 1, 3)
	checkOn(t, s, 2, 3)
	checkWhere(t, s, -1, -1, 0, 1)
}

func TestPickOfTwoStay(t *testing.T) {
	s := with(t, 2, 1, 2)
	checkPick(t, s, 1, 1)
	checkPick(t, s, 0, 2, 2)
	checkPick(t, s, 1, 1, 1)
	checkEnd(t, s, 2, true)
	checkPick(t, s, 1, 1)
	checkOn(t, s, -1, 1)
}

func TestEachCPUHasItsOwnTurn(t *testing.T) {
	s := with(t, 2, 0, 1, 2, 3)
	checkPick(t, s, 0, 0, 1, 2)
	checkPick(t, s, 1, 0)
	checkPick(t, s, 0, 3)
	checkPick(t, s, 1, 1, 2, 0)
	checkPick(t, s, 0, 1)
}

func TestPickOfNoneOnTheOther(t *testing.T) {
	for cpu := range api.MaxCPU {
		s := with(t, 2, 0)
		checkPick(t, s, cpu, 0)
		checkPick(t, s, 1-cpu, -1, -1)
		checkPick(t, s, cpu, 0)
		for proc := 1; proc < api.MaxProcs; proc++ {
			checkWake(t, s, proc, true)
		}
		checkPick(t, s, 1-cpu, 1)
		checkEnd(t, s, 2, true)
		checkEnd(t, s, 3, true)
		checkEnd(t, s, 1, true)
		checkPick(t, s, 1-cpu, -1)
		checkWake(t, s, 1, true)
		checkWake(t, s, 3, true)
		checkPick(t, s, 1-cpu, 3, 1)
	}
}

func TestEndOnEitherCPU(t *testing.T) {
	for cpu := range api.MaxCPU {
		s := with(t, 2, 0, 1, 2, 3)
		checkPick(t, s, cpu, 0, 1)
		checkPick(t, s, 1-cpu, 0, 2)
		checkEnd(t, s, 1, true)
		checkOn(t, s, [][]int{{-1, 2}, {2, -1}}[cpu]...)
		checkPick(t, s, cpu, 3, 0, 3)
		checkPick(t, s, 1-cpu, 0)
		checkEnd(t, s, 0, true)
		checkPick(t, s, 1-cpu, 2, 2)
		checkEnd(t, s, 3, true)
		checkEnd(t, s, 2, true)
		checkPick(t, s, cpu, -1)
		checkPick(t, s, 1-cpu, -1)
		checkAlive(t, s)
	}
}

// Who ran last here, ended, and came to run on the other CPU is not the one
// that is asked last: it isn't asked.
func TestWhoRanLastRunsOnTheOther(t *testing.T) {
	s := with(t, 2, 2)
	checkPick(t, s, 0, 2)
	checkEnd(t, s, 2, true)
	checkWake(t, s, 2, true)
	checkPick(t, s, 1, 2)
	checkOn(t, s, -1, 2)
	checkPick(t, s, 0, -1)
	checkOn(t, s, -1, 2)
	checkWake(t, s, 1, true)
	checkPick(t, s, 0, 1, 1)
	checkPick(t, s, 1, 2)
	checkOn(t, s, 1, 2)
}

// P14.1 and R8: no such process, no such CPU.

func TestNoSuchNumber(t *testing.T) {
	for _, s := range []*Sched{New(2), busy(t), with(t, 2, 0, 1, 2, 3)} {
		want := stateOf(s)
		for _, n := range far {
			checkWake(t, s, n, false)
			checkEnd(t, s, n, false)
			if got := s.Where(n); got != -1 {
				t.Errorf("Where(%d) = %d; want -1", n, got)
			}
			for _, cpu := range []int{n, 2, 3} {
				checkPick(t, s, cpu, -1)
			}
			checkState(t, "no such number", s, want)
		}
	}
}

func TestNoSecondCPU(t *testing.T) {
	s := with(t, 1, 0, 1, 2)
	checkPick(t, s, 1, -1, -1)
	checkWhere(t, s, -1, -1, -1, -1)
	checkPick(t, s, 0, 0)
	checkPick(t, s, 1, -1)
	checkOn(t, s, 0, -1)
	checkPick(t, s, 0, 1, 2, 0)
	checkAlive(t, s, 0, 1, 2)
}

// R4: what Alive hands out is the caller's own.

func TestAliveChangedByTheCaller(t *testing.T) {
	s := busy(t)
	want := stateOf(s)
	procs := s.Alive()
	for i := range procs[:cap(procs)] {
		procs[:cap(procs)][i] = 2
	}
	checkState(t, "a list changed", s, want)
	checkAlive(t, s, 0, 1, 3)
	a, b := s.Alive(), s.Alive()
	a[0] = 9
	a = append(a, 8)
	b = append(b, 7)
	if !slices.Equal(a, []int{9, 1, 3, 8}) || !slices.Equal(b, []int{0, 1, 3, 7}) {
		t.Errorf("%d and %d share memory", a, b)
	}
	checkState(t, "lists made longer", s, want)
}

func TestAliveStaysAsItWasTold(t *testing.T) {
	s := busy(t)
	told := s.Alive()
	checkEnd(t, s, 0, true)
	checkEnd(t, s, 3, true)
	checkWake(t, s, 2, true)
	checkAlive(t, s, 1, 2)
	if want := []int{0, 1, 3}; !slices.Equal(told, want) {
		t.Errorf("%d behind other calls; want %d", told, want)
	}
}

func TestLooksChangeNothing(t *testing.T) {
	s := busy(t)
	want := stateOf(s)
	for range 5 {
		checkOn(t, s, 3, 0)
		checkWhere(t, s, 1, -1, -1, 0)
		checkAlive(t, s, 0, 1, 3)
	}
	checkState(t, "looks", s, want)
}

// P14.1 and R5, against a second, plain telling of the scheduler.

type plain struct {
	cpus     int
	alive    [api.MaxProcs]bool
	on, last [api.MaxCPU]int
}

func newPlain(cpus int) plain {
	return plain{cpus: cpus, on: [api.MaxCPU]int{-1, -1}, last: [api.MaxCPU]int{3, 3}}
}

// set answers 1 where it makes a process alive, or no longer so, else 0.
func (p *plain) set(proc int, alive bool) int {
	if proc < 0 || proc > 3 || p.alive[proc] == alive {
		return 0
	}
	p.alive[proc] = alive
	for cpu, who := range p.on {
		if who == proc {
			p.on[cpu] = -1
		}
	}
	return 1
}

// pick takes the least number past the last one, or else the least of all.
func (p *plain) pick(cpu int) int {
	if cpu < 0 || cpu >= p.cpus {
		return -1
	}
	least, past := -1, -1
	for proc := 3; proc >= 0; proc-- {
		if !p.alive[proc] || p.on[1-cpu] == proc {
			continue
		}
		least = proc
		if proc > p.last[cpu] {
			past = proc
		}
	}
	if past >= 0 {
		least = past
	}
	p.on[cpu] = least
	if least >= 0 {
		p.last[cpu] = least
	}
	return least
}

func (p plain) state() state {
	st := state{p.alive, p.on, [api.MaxCPU]int{-1, -1}}
	for cpu := range p.cpus {
		st.next[cpu] = (p.last[cpu] + 1) % 4
	}
	return st
}

// call is one that may change something.
type call struct {
	what   byte
	number int
}

// calls are all that there are, with some of no such process and no such CPU.
func calls() []call {
	var all []call
	for number := -1; number <= api.MaxProcs; number++ {
		all = append(all, call{'w', number}, call{'e', number}, call{'p', number})
	}
	return all
}

func (c call) do(s *Sched) int {
	done := false
	switch c.what {
	case 'w':
		done = s.Wake(c.number)
	case 'e':
		done = s.End(c.number)
	default:
		return s.Pick(c.number)
	}
	if done {
		return 1
	}
	return 0
}

func (c call) tell(p *plain) int {
	if c.what == 'p' {
		return p.pick(c.number)
	}
	return p.set(c.number, c.what == 'w')
}

// step does the same to both, and fails where they differ.
func (c call) step(t *testing.T, s *Sched, p *plain) {
	t.Helper()
	what := string(c.what) + " of " + string(rune('0'+c.number))
	if got, want := c.do(s), c.tell(p); got != want {
		t.Errorf("%s = %d; want %d", what, got, want)
	}
	checkState(t, what, s, p.state())
}

// Every state that can be come to is come to, and every call is made in it.
func TestAllStates(t *testing.T) {
	for cpus := 1; cpus <= api.MaxCPU; cpus++ {
		seen := map[plain]*Sched{newPlain(cpus): New(cpus)}
		open := []plain{newPlain(cpus)}
		for len(open) > 0 && !t.Failed() {
			from := open[0]
			open = open[1:]
			for _, c := range calls() {
				s, p := copyOf(seen[from]), from
				c.step(t, s, &p)
				if seen[p] == nil {
					seen[p] = s
					open = append(open, p)
				}
			}
		}
		// On each CPU any one ran last; on one CPU alone 8 of the 16 sets of
		// the alive have that one, who then may run: 16 * 4 + 8 * 4.
		if cpus == 1 && len(seen) != 96 {
			t.Errorf("%d states; want 96", len(seen))
		}
	}
}

// Two schedulers go their long ways side by side.
func TestLongWays(t *testing.T) {
	all := calls()
	for seed := range uint64(20) {
		r := rand.New(rand.NewPCG(14, seed))
		scheds := []*Sched{New(2), New(1 + int(seed%2))}
		plains := []plain{newPlain(2), newPlain(1 + int(seed%2))}
		for range 1500 {
			i := r.IntN(2)
			all[r.IntN(len(all))].step(t, scheds[i], &plains[i])
			checkState(t, "the other", scheds[1-i], plains[1-i].state())
		}
		if t.Failed() {
			t.Fatalf("seed %d", seed)
		}
	}
}

// The same calls are answered the same by each scheduler.
func TestSameEachTime(t *testing.T) {
	a, b := New(2), New(2)
	r := rand.New(rand.NewPCG(14, 14))
	all := calls()
	for range 1000 {
		c := all[r.IntN(len(all))]
		if x, y := c.do(a), c.do(b); x != y {
			t.Errorf("%c of %d: %d and %d", c.what, c.number, x, y)
		}
		checkState(t, "the other", b, stateOf(a))
	}
}
