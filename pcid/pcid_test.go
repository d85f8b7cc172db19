package pcid

import (
	"math"
	"math/rand/v2"
	"testing"

	"penumbra/api"
)

// far are numbers that are no process, no pair and no CPU; cut to fewer bits
// some of them come round to such as there are.
var far = []int{-1, -2, -3, -4, -8, api.MaxProcs, api.MaxProcs + 1, 5, 7, 8, 64, 100, 255, 256, 257, 1 << 16, 1<<16 + 1,
	1 << 31, 1 << 32, 1<<32 + 1, -1 << 32, 1 << 62, math.MaxInt, math.MaxInt - 1, math.MinInt, math.MinInt + 1}

// state is all that can be asked of names.
type state struct {
	pairs      [api.MaxProcs]int
	must       [api.MaxCPU][api.Pairs + 1]bool
	generation int
}

// stateOf takes from a copy: what is asked for is asked for no more.
func stateOf(n *Names) state {
	c := *n
	st := state{generation: c.Generation()}
	for proc := range st.pairs {
		st.pairs[proc] = c.Pair(proc)
	}
	for cpu := range st.must {
		for pair := range st.must[cpu] {
			st.must[cpu][pair] = c.Take(cpu, pair)
		}
	}
	return st
}

// mustAll writes into a state of two CPUs that pairs must be flushed on each.
func (st *state) mustAll(pairs ...int) {
	for cpu := range st.must {
		for _, pair := range pairs {
			st.must[cpu][pair] = true
		}
	}
}

// checkState fails where anything but what is wanted has changed.
func checkState(t *testing.T, what string, n *Names, want state) {
	t.Helper()
	if got := stateOf(n); got != want {
		t.Errorf("%s: %+v; want %+v", what, got, want)
	}
}

func checkOf(t *testing.T, n *Names, proc, pair int, all bool) {
	t.Helper()
	if p, a := n.Of(proc); p != pair || a != all {
		t.Errorf("Of(%d) = %d, %v; want %d, %v", proc, p, a, pair, all)
	}
}

func checkPair(t *testing.T, n *Names, proc, want int) {
	t.Helper()
	if got := n.Pair(proc); got != want {
		t.Errorf("Pair(%d) = %d; want %d", proc, got, want)
	}
}

func checkTake(t *testing.T, n *Names, cpu, pair int, want bool) {
	t.Helper()
	if got := n.Take(cpu, pair); got != want {
		t.Errorf("Take(%d, %d) = %v; want %v", cpu, pair, got, want)
	}
}

func checkGeneration(t *testing.T, n *Names, want int) {
	t.Helper()
	if got := n.Generation(); got != want {
		t.Errorf("Generation() = %d; want %d", got, want)
	}
}

// full has all pairs had: process i has pair i + 1, and the last process none.
func full(t *testing.T, cpus int) *Names {
	t.Helper()
	n := New(cpus)
	for proc := range api.Pairs {
		checkOf(t, n, proc, proc+1, false)
	}
	return n
}

// busy is of two CPUs, in its second generation: each kind of answer is in it.
func busy(t *testing.T) *Names {
	t.Helper()
	n := full(t, 2)
	checkOf(t, n, 3, 1, true)
	checkOf(t, n, 0, 2, false)
	checkOf(t, n, 1, 3, false)
	n.Drop(0)
	n.Must(1, 1)
	checkTake(t, n, 0, 2, true)
	want := state{pairs: [api.MaxProcs]int{0, 3, 0, 1}, generation: 1}
	want.must[1] = [api.Pairs + 1]bool{1: true, 2: true}
	checkState(t, "busy", n, want)
	return n
}

// P11.1: New

func TestNewHasNothing(t *testing.T) {
	for _, cpus := range append([]int{0, 1, 2, 3}, far...) {
		checkState(t, "New", New(cpus), state{})
	}
}

func TestNewCutsTheCPUs(t *testing.T) {
	for _, cpus := range append([]int{0, 1, 2, 3}, far...) {
		n := New(cpus)
		want := state{}
		for pair := 1; pair <= api.Pairs; pair++ {
			n.MustAll(pair)
			want.must[0][pair] = true
			want.must[1][pair] = cpus >= 2
		}
		checkState(t, "MustAll", n, want)
	}
}

func TestNewOnesGoTheirOwnWays(t *testing.T) {
	a, b := New(2), New(2)
	checkOf(t, a, 2, 1, false)
	a.MustAll(1)
	checkState(t, "the other", b, state{})
	checkOf(t, b, 3, 1, false)
	checkPair(t, a, 3, 0)
	checkTake(t, b, 0, 1, false)
	checkTake(t, a, 0, 1, true)
}

// P11.1: Of

func TestExample(t *testing.T) {
	checkOf(t, New(1), 0, 1, false)
	checkOf(t, New(2), 0, 1, false)
}

func TestOfOfWhoHasOne(t *testing.T) {
	n := full(t, 2)
	n.Must(1, 2)
	want := stateOf(n)
	for range 3 {
		for proc := range api.Pairs {
			checkOf(t, n, proc, proc+1, false)
			checkPair(t, n, proc, proc+1)
		}
	}
	checkState(t, "Of", n, want)
}

// Pairs go by who asks first, not by the processes' numbers.
func TestOfIsTheLeastThatNobodyHas(t *testing.T) {
	n := New(2)
	checkOf(t, n, 3, 1, false)
	checkOf(t, n, 0, 2, false)
	checkOf(t, n, 2, 3, false)
	n.Drop(0)
	n.Drop(3)
	checkOf(t, n, 1, 1, false)
	checkOf(t, n, 3, 2, false)
	want := state{pairs: [api.MaxProcs]int{0, 1, 3, 2}}
	want.mustAll(1, 2)
	checkState(t, "Of", n, want)
}

func TestOfOfEachProcess(t *testing.T) {
	for proc := range api.MaxProcs {
		n := New(2)
		checkOf(t, n, proc, 1, false)
		want := state{}
		want.pairs[proc] = 1
		checkState(t, "Of", n, want)
	}
}

// A new generation forgets pairs and flushes, on each CPU.
func TestOfWhereAllAreHad(t *testing.T) {
	for _, cpus := range []int{1, 2} {
		n := full(t, cpus)
		n.MustAll(1)
		n.MustAll(3)
		n.Must(0, 2)
		checkOf(t, n, 3, 1, true)
		checkState(t, "Of", n, state{pairs: [api.MaxProcs]int{3: 1}, generation: 1})
		n.MustAll(2)
		checkTake(t, n, 1, 2, cpus == 2)
	}
}

// Who has none asks, whoever that is; who had one asks anew.
func TestOfBehindANewGeneration(t *testing.T) {
	for late := range api.MaxProcs {
		n := New(2)
		for proc := range api.MaxProcs {
			if proc != late {
				n.Of(proc)
			}
		}
		checkOf(t, n, late, 1, true)
		checkOf(t, n, late, 1, false)
		for i := 1; i < api.Pairs; i++ {
			checkOf(t, n, (late+i)%api.MaxProcs, i+1, false)
		}
		checkGeneration(t, n, 1)
		checkOf(t, n, (late+3)%api.MaxProcs, 1, true)
		checkGeneration(t, n, 2)
	}
}

func TestManyGenerations(t *testing.T) {
	n := New(2)
	for i := range 1000 {
		all := i > 0 && i%api.Pairs == 0
		checkOf(t, n, i%api.MaxProcs, i%api.Pairs+1, all)
		checkGeneration(t, n, i/api.Pairs)
		n.MustAll(i%api.Pairs + 1)
	}
}

// A pair that was dropped is free: there is no need of a new generation.
func TestOfWhereOneWasDropped(t *testing.T) {
	for proc := range api.Pairs {
		n := full(t, 2)
		n.Drop(proc)
		checkOf(t, n, 3, proc+1, false)
		checkGeneration(t, n, 0)
		checkOf(t, n, proc, 1, true)
		checkState(t, "Of", n, stateAfter(proc))
	}
}

// stateAfter is the first of a generation, and he alone has a pair.
func stateAfter(proc int) state {
	st := state{generation: 1}
	st.pairs[proc] = 1
	return st
}

func TestOfOfNoProcess(t *testing.T) {
	for _, n := range []*Names{New(1), New(2), full(t, 1), full(t, 2), busy(t)} {
		want := stateOf(n)
		for _, proc := range far {
			checkOf(t, n, proc, 0, false)
		}
		checkState(t, "Of", n, want)
	}
}

// P11.1: Pair

func TestPairGivesNone(t *testing.T) {
	n := New(2)
	for range 2 {
		for proc := range api.MaxProcs {
			checkPair(t, n, proc, 0)
		}
	}
	checkOf(t, n, 1, 1, false)
	checkPair(t, n, 1, 1)
	checkPair(t, n, 0, 0)
	n.Drop(1)
	checkPair(t, n, 1, 0)
}

func TestPairOfNoProcess(t *testing.T) {
	for _, n := range []*Names{New(1), full(t, 2), busy(t)} {
		want := stateOf(n)
		for _, proc := range far {
			checkPair(t, n, proc, 0)
		}
		checkState(t, "Pair", n, want)
	}
}

// P11.1: Drop

func TestDropOfEachProcess(t *testing.T) {
	for proc := range api.Pairs {
		n := full(t, 2)
		want := stateOf(n)
		n.Drop(proc)
		want.pairs[proc] = 0
		want.mustAll(proc + 1)
		checkState(t, "Drop", n, want)
	}
	n := New(2)
	checkOf(t, n, api.MaxProcs-1, 1, false)
	n.Drop(api.MaxProcs - 1)
	want := state{}
	want.mustAll(1)
	checkState(t, "Drop", n, want)
}

func TestDropOnOneCPU(t *testing.T) {
	n := full(t, 1)
	want := stateOf(n)
	n.Drop(1)
	want.pairs[1] = 0
	want.must[0][2] = true
	checkState(t, "Drop", n, want)
}

// Who has the pair next finds it to be flushed, on each CPU till there.
func TestDroppedPairIsHadAgain(t *testing.T) {
	n := full(t, 2)
	n.Drop(1)
	checkOf(t, n, 3, 2, false)
	checkTake(t, n, 1, 2, true)
	checkTake(t, n, 1, 2, false)
	checkOf(t, n, 3, 2, false)
	checkTake(t, n, 0, 2, true)
	checkTake(t, n, 0, 2, false)
	checkTake(t, n, 1, 2, false)
}

// Drop of who has none any more flushes nothing, not even what another has now.
func TestDropTwice(t *testing.T) {
	n := full(t, 2)
	n.Drop(1)
	checkTake(t, n, 0, 2, true)
	checkTake(t, n, 1, 2, true)
	checkOf(t, n, 3, 2, false)
	want := stateOf(n)
	n.Drop(1)
	checkState(t, "Drop of who has none", n, want)
	n.Drop(3)
	want.pairs[3] = 0
	want.mustAll(2)
	checkState(t, "Drop", n, want)
}

func TestDropBehindANewGeneration(t *testing.T) {
	n := full(t, 2)
	checkOf(t, n, 3, 1, true)
	want := stateOf(n)
	for proc := range api.Pairs {
		n.Drop(proc)
	}
	checkState(t, "Drop of who has none", n, want)
}

func TestDropOfNoProcess(t *testing.T) {
	for _, n := range []*Names{New(1), New(2), full(t, 2), busy(t)} {
		want := stateOf(n)
		for _, proc := range far {
			n.Drop(proc)
		}
		checkState(t, "Drop", n, want)
	}
}

// P11.1: Must, MustAll

// Whether anybody has the pair does not count, and that it must be flushed
// gives it to nobody.
func TestMustIsOfOneCPUAlone(t *testing.T) {
	for cpu := range api.MaxCPU {
		for pair := 1; pair <= api.Pairs; pair++ {
			for _, n := range []*Names{New(2), full(t, 2), busy(t)} {
				want := stateOf(n)
				n.Must(cpu, pair)
				want.must[cpu][pair] = true
				checkState(t, "Must", n, want)
			}
		}
	}
}

func TestMustAllIsOfEachCPU(t *testing.T) {
	for pair := 1; pair <= api.Pairs; pair++ {
		for _, n := range []*Names{New(2), full(t, 2), busy(t)} {
			want := stateOf(n)
			n.MustAll(pair)
			want.mustAll(pair)
			checkState(t, "MustAll", n, want)
		}
	}
}

// It must, or it must not: how often it was said is not counted.
func TestMustTwice(t *testing.T) {
	n := New(2)
	n.Must(0, 1)
	n.Must(0, 1)
	n.MustAll(1)
	checkTake(t, n, 0, 1, true)
	checkTake(t, n, 0, 1, false)
	checkTake(t, n, 1, 1, true)
	n.Must(0, 1)
	checkTake(t, n, 1, 1, false)
	checkTake(t, n, 0, 1, true)
}

func TestMustOnACPUThatIsNot(t *testing.T) {
	n := New(1)
	for pair := 1; pair <= api.Pairs; pair++ {
		n.Must(1, pair)
		checkTake(t, n, 1, pair, false)
	}
	checkState(t, "Must", n, state{})
}

func TestMustOfNoCPUOrPair(t *testing.T) {
	for _, n := range []*Names{New(1), New(2), full(t, 2), busy(t)} {
		want := stateOf(n)
		for _, cpu := range append([]int{0, 1, api.MaxCPU}, far...) {
			for _, pair := range append([]int{0}, far...) {
				n.Must(cpu, pair)
			}
		}
		for _, cpu := range append([]int{api.MaxCPU}, far...) {
			for pair := 1; pair <= api.Pairs; pair++ {
				n.Must(cpu, pair)
			}
		}
		for _, pair := range append([]int{0}, far...) {
			n.MustAll(pair)
		}
		checkState(t, "Must", n, want)
	}
}

// P11.1: Take

func TestTakeOnce(t *testing.T) {
	for cpu := range api.MaxCPU {
		for pair := 1; pair <= api.Pairs; pair++ {
			n := full(t, 2)
			for p := 1; p <= api.Pairs; p++ {
				n.MustAll(p)
			}
			want := stateOf(n)
			checkTake(t, n, cpu, pair, true)
			want.must[cpu][pair] = false
			checkState(t, "Take", n, want)
			checkTake(t, n, cpu, pair, false)
			checkState(t, "Take once more", n, want)
		}
	}
}

func TestTakeOfNoCPUOrPair(t *testing.T) {
	for _, cpus := range []int{1, 2} {
		n := full(t, cpus)
		for pair := 1; pair <= api.Pairs; pair++ {
			n.MustAll(pair)
		}
		want := stateOf(n)
		for _, cpu := range append([]int{0, 1, api.MaxCPU}, far...) {
			for _, pair := range append([]int{0}, far...) {
				checkTake(t, n, cpu, pair, false)
			}
		}
		for _, cpu := range append([]int{cpus, api.MaxCPU}, far...) {
			for pair := 1; pair <= api.Pairs; pair++ {
				checkTake(t, n, cpu, pair, false)
			}
		}
		checkState(t, "Take", n, want)
	}
}

// P11.1: Generation

func TestGenerationIsMoreByOfAlone(t *testing.T) {
	n := full(t, 2)
	checkGeneration(t, n, 0)
	n.MustAll(1)
	n.Take(0, 1)
	n.Drop(0)
	n.Pair(3)
	n.Of(-1)
	n.Of(0)
	checkGeneration(t, n, 0)
	n.Of(3)
	checkGeneration(t, n, 1)
	checkGeneration(t, n, 1)
}

// A second, plain telling: who has a pair, and what must be flushed, are maps.

type where struct{ cpu, pair int }

type telling struct {
	cpus       int
	whose      map[int]int
	must       map[where]int
	generation int
}

func (p *telling) of(proc int) (int, bool) {
	if proc < 0 || proc > 3 {
		return 0, false
	}
	for pair, who := range p.whose {
		if who == proc {
			return pair, false
		}
	}
	for pair := 1; pair <= 3; pair++ {
		if _, had := p.whose[pair]; !had {
			p.whose[pair] = proc
			return pair, false
		}
	}
	p.generation++
	p.whose = map[int]int{1: proc}
	p.must = map[where]int{}
	return 1, true
}

func (p *telling) drop(proc int) {
	for pair := 1; pair <= 3; pair++ {
		if who, had := p.whose[pair]; had && who == proc {
			delete(p.whose, pair)
			p.mustAll(pair)
		}
	}
}

func (p *telling) mustOn(cpu, pair int) {
	if cpu >= 0 && cpu < p.cpus && pair >= 1 && pair <= 3 {
		p.must[where{cpu, pair}] = 1
	}
}

func (p *telling) mustAll(pair int) {
	p.mustOn(0, pair)
	p.mustOn(1, pair)
}

func (p *telling) take(cpu, pair int) bool {
	had := p.must[where{cpu, pair}] == 1
	delete(p.must, where{cpu, pair})
	return had
}

func (p *telling) state() state {
	st := state{generation: p.generation}
	for pair, who := range p.whose {
		st.pairs[who] = pair
	}
	for at := range p.must {
		st.must[at.cpu][at.pair] = true
	}
	return st
}

func TestRunsAgainstASecondTelling(t *testing.T) {
	for seed := range uint64(200) {
		r := rand.New(rand.NewPCG(11, seed))
		cpus := 1 + int(seed%2)
		n := New(cpus)
		p := &telling{cpus: cpus, whose: map[int]int{}, must: map[where]int{}}
		for range 200 {
			step(t, r, n, p)
			checkState(t, "a run", n, p.state())
		}
	}
}

// step does one call, and the same to the telling.
func step(t *testing.T, r *rand.Rand, n *Names, p *telling) {
	t.Helper()
	proc, cpu, pair := r.IntN(6)-1, r.IntN(4)-1, r.IntN(6)-1
	switch r.IntN(8) {
	case 0, 1, 2:
		want, all := p.of(proc)
		checkOf(t, n, proc, want, all)
	case 3:
		n.Drop(proc)
		p.drop(proc)
	case 4:
		n.Must(cpu, pair)
		p.mustOn(cpu, pair)
	case 5:
		n.MustAll(pair)
		p.mustAll(pair)
	default:
		checkTake(t, n, cpu, pair, p.take(cpu, pair))
	}
}

// R5: the same calls on others of the kind answer the same.
func TestTheSameCallsAnswerTheSame(t *testing.T) {
	first := stateOf(busy(t))
	for round := range 20 {
		if got := stateOf(busy(t)); got != first {
			t.Errorf("round %d answers otherwise than the first: %+v; want %+v", round, got, first)
		}
	}
}

// R1: no call panics, at any numbers.
func TestNoCallPanics(t *testing.T) {
	some := append([]int{0, 1, 2, 3}, far...)
	for _, cpus := range some {
		n := New(cpus)
		for _, a := range some {
			n.Of(a)
			n.Pair(a)
			n.MustAll(a)
			for _, b := range some {
				n.Must(a, b)
				n.Take(b, a)
			}
			n.Drop(a)
			if g := n.Generation(); g != 0 {
				t.Fatalf("Generation() = %d; want 0, as one process at most has a pair", g)
			}
		}
	}
}
