package cache

import (
	"math"
	"slices"
	"testing"

	"penumbra/api"
)

// state is all that can be told of caches; what there is no CPU for is nothing.
type state struct {
	tags   [api.MaxCPU][]int
	shared []int
}

func stateOf(c *Caches) state {
	s := state{shared: c.Shared()}
	for cpu := range s.tags {
		s.tags[cpu] = c.Tags(cpu)
	}
	return s
}

func same(a, b state) bool {
	for cpu := range a.tags {
		if !slices.Equal(a.tags[cpu], b.tags[cpu]) {
			return false
		}
	}
	return slices.Equal(a.shared, b.shared)
}

func checkState(t *testing.T, what string, c *Caches, want state) {
	t.Helper()
	if got := stateOf(c); !same(got, want) {
		t.Errorf("%s: %v; want %v", what, got, want)
	}
}

// touched makes caches of two CPUs in which so many lines were touched.
func touched(t *testing.T, cpu int, lines ...int) *Caches {
	t.Helper()
	c := New(2)
	touch(t, c, cpu, lines...)
	return c
}

func touch(t *testing.T, c *Caches, cpu int, lines ...int) {
	t.Helper()
	for _, line := range lines {
		if !c.Touch(cpu, line) {
			t.Errorf("Touch(%d, %d) = false", cpu, line)
		}
	}
}

// checkSet holds a set's ways against the lines that it should have.
func checkSet(t *testing.T, what string, list []int, ways, set int, lines ...int) {
	t.Helper()
	want := slices.Clone(lines)
	for len(want) < ways {
		want = append(want, -1)
	}
	if got := list[set*ways : (set+1)*ways]; !slices.Equal(got, want) {
		t.Errorf("%s: set %d: %v; want %v", what, set, got, want)
	}
}

func checkTags(t *testing.T, what string, c *Caches, cpu, set int, lines ...int) {
	t.Helper()
	checkSet(t, what+": Tags", c.Tags(cpu), 2, set, lines...)
}

func checkShared(t *testing.T, what string, c *Caches, set int, lines ...int) {
	t.Helper()
	checkSet(t, what+": Shared", c.Shared(), 4, set, lines...)
}

func checkDone(t *testing.T, what string, got, want bool) {
	t.Helper()
	if got != want {
		t.Errorf("%s = %v; want %v", what, got, want)
	}
}

func repeated(n int) []int {
	return slices.Repeat([]int{-1}, n)
}

// P4.1

func TestTagsExample(t *testing.T) {
	want := []int{-1, -1, -1, -1, -1, -1, -1, -1}
	if got := New(1).Tags(0); !slices.Equal(got, want) {
		t.Errorf("Tags(0) = %v; want %v", got, want)
	}
}

func TestNewCutsCPUs(t *testing.T) {
	for _, r := range []struct{ asked, cpus int }{
		{math.MinInt, 1}, {-1, 1}, {0, 1}, {1, 1}, {2, 2}, {3, 2}, {64, 2}, {math.MaxInt, 2},
	} {
		c := New(r.asked)
		want := state{shared: repeated(32)}
		for cpu := range r.cpus {
			want.tags[cpu] = repeated(8)
		}
		checkState(t, "New", c, want)
		for cpu := range 4 {
			checkDone(t, "Touch", c.Touch(cpu, cpu), cpu < r.cpus)
			checkDone(t, "Near", c.Near(cpu, cpu), cpu < r.cpus)
		}
	}
}

func TestTouch(t *testing.T) {
	c := touched(t, 0, 5)
	want := state{tags: [2][]int{repeated(8), repeated(8)}, shared: repeated(32)}
	want.tags[0][2] = 5
	want.shared[20] = 5
	checkState(t, "Touch of 5 by CPU 0", c, want)
	touch(t, c, 1, 5)
	want.tags[1][2] = 5
	checkState(t, "Touch of 5 by CPU 1", c, want)
	touch(t, c, 1, 7)
	want.tags[1][6] = 7
	want.shared[28] = 7
	checkState(t, "Touch of 7 by CPU 1", c, want)
}

func TestOrderOfTags(t *testing.T) {
	for cpu := range 2 {
		c := touched(t, cpu, 7, 2, 5, 0, 4, 1, 6, 3)
		if got, want := c.Tags(cpu), []int{0, 4, 5, 1, 2, 6, 7, 3}; !slices.Equal(got, want) {
			t.Errorf("Tags(%d) = %v; want %v", cpu, got, want)
		}
		if got := c.Tags(1 - cpu); !slices.Equal(got, repeated(8)) {
			t.Errorf("Tags(%d) = %v; want none", 1-cpu, got)
		}
	}
}

func TestOrderOfShared(t *testing.T) {
	c := New(2)
	want := make([]int, 32)
	for i := range 32 {
		touch(t, c, i%2, 31-i)
		set, way := (31-i)%8, i/8
		want[set*4+way] = 31 - i
	}
	if got := c.Shared(); !slices.Equal(got, want) {
		t.Errorf("Shared() = %v; want %v", got, want)
	}
}

// Sets are four in a first cache and eight in the shared one.
func TestLinesOfOneSet(t *testing.T) {
	c := touched(t, 0, 1, 5)
	checkTags(t, "4 apart", c, 0, 1, 1, 5)
	checkShared(t, "4 apart", c, 1, 1)
	checkShared(t, "4 apart", c, 5, 5)
	c = touched(t, 0, 1, 9)
	checkTags(t, "8 apart", c, 0, 1, 1, 9)
	checkShared(t, "8 apart", c, 1, 1, 9)
	checkShared(t, "8 apart", c, 5)
}

func TestEldestGoes(t *testing.T) {
	for set := range 8 {
		for cpu := range 2 {
			c := New(2)
			lines := []int{set + 32, set, set + 16, set + 8, set + 24}
			for i, line := range lines {
				touch(t, c, cpu, line)
				checkTags(t, "first cache", c, cpu, set%4, lines[max(0, i-1):i+1]...)
				checkShared(t, "shared cache", c, set, lines[max(0, i-3):i+1]...)
			}
			checkDone(t, "Near of what went", c.Near(cpu, lines[2]), false)
			checkDone(t, "Near of what stays", c.Near(cpu, lines[3]) && c.Near(cpu, lines[4]), true)
		}
	}
}

// One set that is full is no matter of another one.
func TestFullSetLeavesOthers(t *testing.T) {
	c := touched(t, 0, 1, 2, 3, 8, 16, 24, 32, 40)
	checkTags(t, "full", c, 0, 0, 32, 40)
	checkShared(t, "full", c, 0, 16, 24, 32, 40)
	for line := 1; line <= 3; line++ {
		checkTags(t, "beside it", c, 0, line, line)
		checkShared(t, "beside it", c, line, line)
	}
}

// What is touched again is no younger for it.
func TestTouchAgainKeepsPlace(t *testing.T) {
	c := touched(t, 0, 8, 16)
	was := stateOf(c)
	touch(t, c, 0, 8)
	checkState(t, "the eldest again", c, was)
	touch(t, c, 0, 16)
	checkState(t, "the youngest again", c, was)
	touch(t, c, 0, 8, 24)
	checkTags(t, "one more", c, 0, 0, 16, 24)

	c = touched(t, 1, 8, 16, 24, 32)
	was = stateOf(c)
	touch(t, c, 1, 32, 24)
	checkState(t, "both that are near again", c, was)
	touch(t, c, 0, 8)
	checkShared(t, "the eldest again, by the other CPU", c, 0, 8, 16, 24, 32)
	touch(t, c, 0, 40)
	checkShared(t, "one more", c, 0, 16, 24, 32, 40)
}

// A line that the first cache let go is shared still: it comes near again, and
// keeps its place in the shared one.
func TestSharedNotFirst(t *testing.T) {
	c := touched(t, 0, 4, 8, 12, 16)
	checkTags(t, "gone", c, 0, 0, 12, 16)
	checkShared(t, "gone", c, 0, 8, 16)
	checkDone(t, "Near(0, 8)", c.Near(0, 8), false)
	touch(t, c, 0, 8)
	checkTags(t, "back", c, 0, 0, 16, 8)
	checkShared(t, "back", c, 0, 8, 16)
	checkShared(t, "back", c, 4, 4, 12)
}

// A line that the shared cache let go is near still, and comes into the shared
// one again, as the youngest.
func TestFirstNotShared(t *testing.T) {
	c := touched(t, 0, 8)
	touch(t, c, 1, 16, 24, 32, 40)
	checkShared(t, "gone", c, 0, 16, 24, 32, 40)
	checkTags(t, "gone", c, 0, 0, 8)
	checkDone(t, "Near(0, 8)", c.Near(0, 8), true)
	touch(t, c, 0, 8)
	checkShared(t, "back", c, 0, 24, 32, 40, 8)
	checkTags(t, "back", c, 0, 0, 8)
	checkTags(t, "the other CPU's", c, 1, 0, 32, 40)
}

// Line 0 is a line, as good as any.
func TestLineZero(t *testing.T) {
	c := New(2)
	checkDone(t, "Near(0, 0) of new ones", c.Near(0, 0), false)
	checkDone(t, "Evict(0, 0) of new ones", c.Evict(0, 0), false)
	checkDone(t, "Clear(0) of new ones", c.Clear(0), false)
	touch(t, c, 0, 0)
	checkDone(t, "Near(0, 0)", c.Near(0, 0), true)
	checkDone(t, "Near(1, 0)", c.Near(1, 0), false)
	checkTags(t, "line 0", c, 0, 0, 0)
	checkShared(t, "line 0", c, 0, 0)
	checkDone(t, "Evict(0, 0)", c.Evict(0, 0), true)
	checkDone(t, "Clear(0)", c.Clear(0), true)
	checkState(t, "Clear(0)", c, stateOf(New(2)))
}

// No line is too great.
func TestGreatLine(t *testing.T) {
	const line = math.MaxInt // 3 modulo 4, 7 modulo 8
	c := touched(t, 1, line)
	checkTags(t, "a great line", c, 1, 3, line)
	checkShared(t, "a great line", c, 7, line)
	checkDone(t, "Near", c.Near(1, line), true)
	checkDone(t, "Evict", c.Evict(1, line), true)
	checkDone(t, "Clear", c.Clear(line), true)
	checkState(t, "Clear", c, stateOf(New(2)))
}

// What a CPU does in its first cache the other one's does not tell.
func TestCPUsApart(t *testing.T) {
	c := touched(t, 0, 3, 7)
	touch(t, c, 1, 3)
	was := c.Tags(0)
	for _, line := range []int{11, 15, 19, 7, 3} {
		touch(t, c, 1, line)
		c.Evict(1, line)
		if got := c.Tags(0); !slices.Equal(got, was) {
			t.Errorf("Tags(0) = %v; want %v", got, was)
		}
	}
	checkDone(t, "Near(0, 3)", c.Near(0, 3), true)
	checkDone(t, "Near(1, 3)", c.Near(1, 3), false)
	checkDone(t, "Near(0, 11)", c.Near(0, 11), false)
	checkShared(t, "of both", c, 3, 3, 11, 19)
	checkShared(t, "of both", c, 7, 7, 15)
}

func TestEvict(t *testing.T) {
	c := touched(t, 0, 2, 6)
	touch(t, c, 1, 2, 6)
	want := stateOf(c)
	checkDone(t, "Evict(0, 2)", c.Evict(0, 2), true)
	want.tags[0] = []int{-1, -1, -1, -1, 6, -1, -1, -1}
	checkState(t, "Evict of the eldest", c, want)
	checkDone(t, "Near(0, 2)", c.Near(0, 2), false)
	checkDone(t, "Evict(0, 2)", c.Evict(0, 2), false)
	checkState(t, "Evict again", c, want)
	touch(t, c, 0, 2)
	checkTags(t, "touched again", c, 0, 2, 6, 2)
	checkDone(t, "Evict(0, 2)", c.Evict(0, 2), true)
	checkState(t, "Evict of the youngest", c, want)
	checkDone(t, "Evict(0, 6)", c.Evict(0, 6), true)
	want.tags[0] = repeated(8)
	checkState(t, "Evict of the last", c, want)
}

// Who leaves makes room: nobody else goes for the next one.
func TestRoomBehindWhoLeft(t *testing.T) {
	c := touched(t, 0, 8, 16)
	c.Evict(0, 8)
	touch(t, c, 0, 24)
	checkTags(t, "Evict", c, 0, 0, 16, 24)

	for i, want := range [][]int{{16, 24, 32, 40}, {8, 24, 32, 40}, {8, 16, 32, 40}, {8, 16, 24, 40}} {
		c := touched(t, 0, 8, 16, 24, 32)
		checkDone(t, "Clear", c.Clear(8*(i+1)), true)
		checkShared(t, "Clear", c, 0, want[:3]...)
		touch(t, c, 1, 40)
		checkShared(t, "Clear and one more", c, 0, want...)
	}
}

func TestClear(t *testing.T) {
	c := touched(t, 0, 2, 6, 10)
	touch(t, c, 1, 10, 2)
	checkDone(t, "Clear(10)", c.Clear(10), true)
	checkTags(t, "Clear", c, 0, 2, 6)
	checkTags(t, "Clear", c, 1, 2, 2)
	checkShared(t, "Clear", c, 2, 2)
	checkShared(t, "Clear", c, 6, 6)
	was := stateOf(c)
	checkDone(t, "Clear(10)", c.Clear(10), false)
	checkState(t, "Clear again", c, was)
	touch(t, c, 0, 10)
	checkTags(t, "touched again", c, 0, 2, 6, 10)
	checkShared(t, "touched again", c, 2, 2, 10)
}

// One cache is enough for Clear to be true, whichever it is.
func TestClearOfOne(t *testing.T) {
	c := touched(t, 1, 9)
	c.Evict(1, 9)
	checkDone(t, "Clear of what is shared only", c.Clear(9), true)
	checkState(t, "Clear of what is shared only", c, stateOf(New(2)))

	for cpu := range 2 {
		c := touched(t, cpu, 8)
		touch(t, c, 1-cpu, 16, 24, 32, 40)
		checkShared(t, "ahead of Clear", c, 0, 16, 24, 32, 40)
		checkDone(t, "Clear of what is near only", c.Clear(8), true)
		checkTags(t, "Clear of what is near only", c, cpu, 0)
		checkShared(t, "Clear of what is near only", c, 0, 16, 24, 32, 40)
		checkDone(t, "Clear again", c.Clear(8), false)
	}
}

func TestNoSuchCPU(t *testing.T) {
	for cpus := 1; cpus <= 2; cpus++ {
		c := New(cpus)
		touch(t, c, 0, 0, 1, 5, 9)
		was := stateOf(c)
		for _, cpu := range []int{math.MinInt, -2, -1, cpus, cpus + 1, math.MaxInt} {
			for _, line := range []int{-1, 0, 1, 9, 77} {
				checkDone(t, "Touch", c.Touch(cpu, line), false)
				checkDone(t, "Near", c.Near(cpu, line), false)
				checkDone(t, "Evict", c.Evict(cpu, line), false)
			}
			if got := c.Tags(cpu); len(got) != 0 {
				t.Errorf("%d CPUs: Tags(%d) = %v; want nothing", cpus, cpu, got)
			}
		}
		checkState(t, "a CPU that is not there", c, was)
	}
}

// -1 tells that there is no line; it is none that could be found.
func TestNoSuchLine(t *testing.T) {
	for _, c := range []*Caches{New(2), touched(t, 0, 0, 4, 3, 8), touched(t, 1, 1, 2, 3, 4, 5, 6, 7, 8)} {
		was := stateOf(c)
		for _, line := range []int{math.MinInt, math.MinInt + 1, -9, -8, -4, -3, -2, -1} {
			for cpu := range 2 {
				checkDone(t, "Touch", c.Touch(cpu, line), false)
				checkDone(t, "Near", c.Near(cpu, line), false)
				checkDone(t, "Evict", c.Evict(cpu, line), false)
			}
			checkDone(t, "Clear", c.Clear(line), false)
		}
		checkState(t, "a line below 0", c, was)
	}
}

// A line that is not there shares its set with lines that are.
func TestLineNotThere(t *testing.T) {
	c := touched(t, 0, 3, 7)
	was := stateOf(c)
	for _, line := range []int{0, 11, 15, 35, math.MaxInt} {
		for cpu := range 2 {
			checkDone(t, "Near", c.Near(cpu, line), false)
			checkDone(t, "Evict", c.Evict(cpu, line), false)
		}
		checkDone(t, "Clear", c.Clear(line), false)
	}
	checkDone(t, "Evict of the other CPU's", c.Evict(1, 3), false)
	checkState(t, "a line that is not there", c, was)
}

func TestNearChangesNothing(t *testing.T) {
	c := touched(t, 0, 3, 7, 11)
	was := stateOf(c)
	for line := range 40 {
		c.Near(0, line)
		c.Near(1, line)
	}
	checkState(t, "Near", c, was)
}

// R4

func TestListsAreNew(t *testing.T) {
	c := touched(t, 0, 3, 7, 11)
	touch(t, c, 1, 5)
	was := stateOf(c)
	lists := []func() []int{
		func() []int { return c.Tags(0) },
		func() []int { return c.Tags(1) },
		c.Shared,
	}
	for _, list := range lists {
		a, b := list(), list()
		for i := range a {
			a[i] = 99
		}
		_ = append(a, 98)
		if slices.Contains(b, 99) {
			t.Errorf("two lists share memory: %v", b)
		}
		checkState(t, "a list that was changed", c, was)
		checkDone(t, "Near of what was written into a list", c.Near(0, 99) || c.Near(1, 99), false)
	}
}

// A list that was handed out does not follow what is done later.
func TestListsStay(t *testing.T) {
	c := touched(t, 0, 3)
	tags, shared := c.Tags(0), c.Shared()
	touch(t, c, 0, 7, 11, 0)
	c.Clear(3)
	checkSet(t, "Tags", tags, 2, 3, 3)
	checkSet(t, "Tags", tags, 2, 0)
	checkSet(t, "Shared", shared, 4, 3, 3)
	checkSet(t, "Shared", shared, 4, 0)
}

func TestCloneIsAsItIs(t *testing.T) {
	one := New(1)
	touch(t, one, 0, 1, 2)
	for _, c := range []*Caches{New(1), New(2), one, touched(t, 1, 3, 7, 11, 8, 16)} {
		k := c.Clone()
		if k == c {
			t.Fatal("Clone is the same object")
		}
		checkState(t, "Clone", k, stateOf(c))
	}
	checkDone(t, "Touch of the second CPU of a clone that has one", one.Clone().Touch(1, 1), false)
}

func TestCloneGoesItsOwnWay(t *testing.T) {
	steps := []struct {
		name string
		do   func(c *Caches) bool
	}{
		{"Touch by CPU 0", func(c *Caches) bool { return c.Touch(0, 24) }},
		{"Touch by CPU 1", func(c *Caches) bool { return c.Touch(1, 24) }},
		{"Evict of CPU 0", func(c *Caches) bool { return c.Evict(0, 8) }},
		{"Evict of CPU 1", func(c *Caches) bool { return c.Evict(1, 5) }},
		{"Clear", func(c *Caches) bool { return c.Clear(16) }},
	}
	for _, s := range steps {
		for _, ofClone := range []bool{false, true} {
			c := touched(t, 0, 8, 16)
			touch(t, c, 1, 5, 9)
			was := stateOf(c)
			moved, still := c, c.Clone()
			if ofClone {
				moved, still = still, moved
			}
			if !s.do(moved) || same(stateOf(moved), was) {
				t.Errorf("%s (of the clone: %v) has done nothing", s.name, ofClone)
			}
			checkState(t, s.name+" of the other", still, was)
		}
	}
}

// plain is a cache told another way: all its lines in the order in which they
// came, and how many of one set there may be.
type plain struct {
	sets, ways int
	came       []int
}

func (p *plain) has(line int) bool {
	return slices.Contains(p.came, line)
}

func (p *plain) touch(line int) {
	if p.has(line) {
		return
	}
	if mates := p.of(line % p.sets); len(mates) == p.ways {
		p.drop(mates[0])
	}
	p.came = append(p.came, line)
}

func (p *plain) drop(line int) bool {
	had := p.has(line)
	p.came = slices.DeleteFunc(p.came, func(x int) bool { return x == line })
	return had
}

func (p *plain) of(set int) []int {
	var list []int
	for _, line := range p.came {
		if line%p.sets == set {
			list = append(list, line)
		}
	}
	return list
}

func (p *plain) tags() []int {
	var list []int
	for set := range p.sets {
		lines := p.of(set)
		list = append(list, lines...)
		list = append(list, repeated(p.ways-len(lines))...)
	}
	return list
}

// Long ways of touching, evicting and clearing, by both CPUs: as in the plain
// telling behind each step.
func TestAsPlain(t *testing.T) {
	for seed := range uint64(20) {
		c := New(2)
		first := [2]plain{{sets: 4, ways: 2}, {sets: 4, ways: 2}}
		shared := plain{sets: 8, ways: 4}
		x := seed
		for n := range 1000 {
			x = x*6364136223846793005 + 1442695040888963407
			line, cpu, do := int(x>>40%56), int(x>>50%2), x>>55%8
			got, want := false, false
			switch do {
			case 0:
				got, want = c.Evict(cpu, line), first[cpu].drop(line)
			case 1:
				got = c.Clear(line)
				a, b, s := first[0].drop(line), first[1].drop(line), shared.drop(line)
				want = a || b || s
			default:
				got, want = c.Touch(cpu, line), true
				first[cpu].touch(line)
				shared.touch(line)
			}
			if got != want || c.Near(cpu, line) != first[cpu].has(line) {
				t.Fatalf("seed %d, step %d: %v; want %v", seed, n, got, want)
			}
			now := state{tags: [2][]int{first[0].tags(), first[1].tags()}, shared: shared.tags()}
			if !same(stateOf(c), now) {
				t.Fatalf("seed %d, step %d: %v; want %v", seed, n, stateOf(c), now)
			}
		}
	}
}
