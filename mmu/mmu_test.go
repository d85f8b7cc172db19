package mmu

import (
	"fmt"
	"math"
	"math/rand/v2"
	"slices"
	"testing"

	"penumbra/api"
	"penumbra/cache"
	"penumbra/mem"
	"penumbra/tlb"
)

// The memory that most tests translate in: the root, the tables of the pages 0
// to 7, and the frames to which these lead.
const (
	frames = 20
	root   = 1
	middle = 2
	last   = 3
	first  = 4 // page p is frame first + p, if it is there
)

// The digits of entries.
const (
	here   = 1
	write  = 2
	user   = 4
	global = 0x100
	all    = here | write | user
)

// space is how many words can be told by an address.
const space = 8 * api.Pages

// rights are those of the pages 0 to 4; 5, 6 and 7 fault.
var rights = [8]uint64{all, here | user, here | write, here, all | global, 0, 8 | all, here}

// far are numbers that are no root and no CPU, and no PCID that the machine
// has; cut to fewer bits some of them come round to such as there are.
var far = []int{-1, -2, -3, -8, -64, frames, frames + 1, 63, 64, 65, 255, 256, 257, 512, 1 << 16, 1<<16 + 1, 1 << 31, 1 << 32, 1<<32 + 1,
	-1 << 32, 1<<61 + 1, 1 << 62, math.MaxInt, math.MaxInt - 1, math.MaxInt / 8, math.MaxInt/8 + 1, math.MinInt, math.MinInt + 1, math.MinInt / 8}

// outside are words that are no address; cut to fewer bits some come round to one.
var outside = []uint64{space, space + 1, space + 8, 2 * space, 1 << 15, 1 << 16, 1<<16 + 3, 1 << 31, 1 << 32, 1<<32 + 3, 1<<62 + 3,
	1<<63 - 1, 1 << 63, 1<<63 + 3, 1<<64 - 1, 1<<64 - 8, 1<<64 - space, 1<<64 - space - 1}

// place tells where an entry of a table lies.
func place(table, index int) int {
	return 8*table + index
}

// lines are what a walk to one of the pages 0 to 7 reads.
func lines(page int) []int {
	return []int{place(root, 0), place(middle, 0), place(last, page)}
}

func put(t *testing.T, m *mem.Memory, at int, x uint64) {
	t.Helper()
	if !m.Write(at, x) {
		t.Fatalf("Write(%d) = false", at)
	}
}

// entryOf is one that leads to a frame.
func entryOf(frame int, bits uint64) uint64 {
	return uint64(frame)<<12 | bits
}

func laid(t *testing.T) *mem.Memory {
	t.Helper()
	m := mem.New(frames)
	put(t, m, place(root, 0), entryOf(middle, all))
	put(t, m, place(middle, 0), entryOf(last, all))
	for page, bits := range rights {
		put(t, m, place(last, page), entryOf(first+page, bits))
	}
	put(t, m, place(last, 7), entryOf(frames, all))
	return m
}

// machine is an MMU with what it is handed.
type machine struct {
	m *mem.Memory
	c *cache.Caches
	u *MMU
}

// newMachine has CPU 0's load the root under the PCID 2.
func newMachine(t *testing.T) machine {
	t.Helper()
	x := machine{laid(t), cache.New(2), New(0)}
	x.u.Load(root, 2, true)
	return x
}

func (x machine) words() []uint64 {
	var l []uint64
	for at := range 8 * x.m.Frames() {
		w, _ := x.m.Read(at)
		l = append(l, w)
	}
	return l
}

// near tells all lines that are in caches.
func (x machine) near() string {
	return fmt.Sprint(x.c.Tags(0), x.c.Tags(1), x.c.Shared())
}

// state tells all that can be told of a machine.
func (x machine) state() string {
	return fmt.Sprint(x.u.Root(), x.u.PCID(), x.u.TLB().List(), x.near(), x.words())
}

func (x machine) check(t *testing.T, user, write bool, at uint64, place, fault int) {
	t.Helper()
	if p, f := x.u.Translate(x.m, x.c, user, write, at); p != place || f != fault {
		t.Errorf("Translate(user %v, write %v, %d) = %d, %d; want %d, %d", user, write, at, p, f, place, fault)
	}
}

func (x machine) checkKept(t *testing.T, what string, want ...tlb.Item) {
	t.Helper()
	if got := x.u.TLB().List(); !slices.Equal(got, want) {
		t.Errorf("%s: the TLB keeps %v; want %v", what, got, want)
	}
}

// checkTouched fails where the caches have not come to be as they are when
// these lines were touched in this order, on caches as they were before.
func (x machine) checkTouched(t *testing.T, what string, before *cache.Caches, cpu int, lines ...int) {
	t.Helper()
	want := machine{c: before.Clone()}
	for _, line := range lines {
		want.c.Touch(cpu, line)
	}
	if got := x.near(); got != want.near() {
		t.Errorf("%s: lines %s; want %s", what, got, want.near())
	}
}

// item is what is kept of a walk under the PCID 2 to one of the pages 0 to 4.
func item(page int) tlb.Item {
	bits := rights[page]
	return tlb.Item{PCID: 2, Page: page, Frame: first + page, Write: bits&write != 0, User: bits&user != 0, Global: bits&global != 0}
}

func checkLoaded(t *testing.T, u *MMU, root, pcid int) {
	t.Helper()
	if u.Root() != root || u.PCID() != pcid {
		t.Errorf("Root(), PCID() = %d, %d; want %d, %d", u.Root(), u.PCID(), root, pcid)
	}
}

var bools = []bool{false, true}

// uses calls for each kind of use.
func uses(do func(user, write bool)) {
	for _, user := range bools {
		for _, write := range bools {
			do(user, write)
		}
	}
}

// P15.1: New

func TestExample(t *testing.T) {
	x := newMachine(t)
	before := x.state()
	uses(func(user, write bool) {
		x.check(t, user, write, 8*512, 0, api.FaultOutside)
	})
	if x.state() != before {
		t.Error("an address that is none has changed something")
	}
}

func TestNewHasNothing(t *testing.T) {
	for _, cpu := range append([]int{0, 1}, far...) {
		u := New(cpu)
		checkLoaded(t, u, 0, 0)
		if l := u.TLB().List(); len(l) != 0 {
			t.Errorf("New(%d) keeps %v", cpu, l)
		}
	}
}

// Till the first Load the walks begin at frame 0, and what is kept is PCID 0's.
func TestNewWalksFromFrame0(t *testing.T) {
	x := machine{laid(t), cache.New(2), New(1)}
	x.check(t, false, false, 3, 0, api.FaultNone)
	x.checkTouched(t, "a root of zeros", cache.New(2), 1, 0)
	put(t, x.m, place(0, 0), entryOf(middle, all))
	x.check(t, true, true, 3, 8*first+3, 0)
	want := item(0)
	want.PCID = 0
	x.checkKept(t, "a new one", want)
	checkLoaded(t, x.u, 0, 0)
}

func TestNewOnesAreApart(t *testing.T) {
	a := newMachine(t)
	b := machine{a.m, a.c, New(0)}
	if a.u == b.u || a.u.TLB() == b.u.TLB() {
		t.Fatal("New answers the same twice")
	}
	checkLoaded(t, b.u, 0, 0)
	b.u.Load(root, 2, true)
	a.check(t, true, false, 1, 8*first+1, 0)
	b.checkKept(t, "the other one")
	put(t, a.m, place(last, 0), entryOf(9, all))
	a.check(t, true, false, 1, 8*first+1, 0)
	b.check(t, true, false, 1, 8*9+1, 0)
	b.u.Load(last, 2, false)
	checkLoaded(t, a.u, root, 2)
	a.checkKept(t, "the other one dropped its own", item(0))
	b.checkKept(t, "what was dropped")
	a.u.TLB().DropAll()
	a.check(t, true, false, 8, 8*(first+1), 0)
	b.checkKept(t, "what was dropped")
}

// P15.1: Load, Root, PCID

func TestLoad(t *testing.T) {
	u := New(0)
	for _, keep := range bools {
		for _, pcid := range append([]int{0, 1, 2, 3, 7}, far...) {
			for _, r := range append([]int{0, 1, frames - 1}, far...) {
				u.Load(r, pcid, keep)
				checkLoaded(t, u, r, pcid)
			}
		}
	}
}

func TestLoadTouchesNothing(t *testing.T) {
	x := newMachine(t)
	x.check(t, true, false, 0, 8*first, 0)
	near, words := x.near(), x.words()
	for _, keep := range bools {
		x.u.Load(root, 3, keep)
		x.u.Load(99, 2, keep)
	}
	if x.near() != near || !slices.Equal(x.words(), words) {
		t.Error("Load has changed the caches or the memory")
	}
}

// mixed keeps two items each of the PCIDs 2 and 4, one of each Global.
func mixed(t *testing.T) (machine, []tlb.Item) {
	t.Helper()
	x := newMachine(t)
	items := []tlb.Item{item(0), {PCID: 4, Page: 0, Frame: 9}, item(4), {PCID: 4, Page: 9, Frame: 10, Global: true}}
	for _, one := range items {
		x.u.TLB().Put(one)
	}
	x.checkKept(t, "mixed", items...)
	return x, items
}

func TestLoadThatKeeps(t *testing.T) {
	x, items := mixed(t)
	for _, pcid := range append([]int{0, 2, 4, 2}, far...) {
		x.u.Load(root, pcid, true)
		x.checkKept(t, "Load that keeps", items...)
	}
}

// It is what is kept of the PCID that is loaded that goes, not of the one before.
func TestLoadThatDoesNotKeep(t *testing.T) {
	x, l := mixed(t)
	for _, pcid := range append([]int{0, 3}, far...) {
		x.u.Load(root, pcid, false)
		x.checkKept(t, "of a PCID of which nothing is kept", l...)
	}
	x.u.Load(root, 4, false)
	x.checkKept(t, "of PCID 4", l[0], l[2], l[3])
	x.u.Load(root, 4, false)
	x.checkKept(t, "of PCID 4 again", l[0], l[2], l[3])
	x.u.Load(last, 2, false)
	x.checkKept(t, "of PCID 2", l[2], l[3])
	checkLoaded(t, x.u, last, 2)
}

func TestLoadOfTheSamePCID(t *testing.T) {
	x := newMachine(t)
	x.check(t, true, false, 0, 8*first, 0)
	x.check(t, true, false, 32, 8*(first+4), 0)
	x.u.Load(root, 2, true)
	x.checkKept(t, "kept", item(0), item(4))
	x.u.Load(root, 2, false)
	x.checkKept(t, "not kept", item(4))
}

func TestLoadOfAnotherRoot(t *testing.T) {
	x := newMachine(t)
	put(t, x.m, place(15, 0), entryOf(middle, here))
	x.check(t, true, true, 0, 8*first, 0)
	x.u.Load(15, 3, true)
	x.check(t, true, false, 1, 0, api.FaultRight)
	x.check(t, false, false, 1, 8*first+1, 0)
	x.checkKept(t, "two roots", item(0), tlb.Item{PCID: 3, Page: 0, Frame: first})
	x.u.Load(15, 2, true)
	x.check(t, true, true, 1, 8*first+1, 0)
	x.u.Load(15, 2, false)
	x.check(t, true, false, 1, 0, api.FaultRight)
}

// P15.1: TLB

func TestTLBIsItsOwn(t *testing.T) {
	x := newMachine(t)
	kept := x.u.TLB()
	x.check(t, true, false, 0, 8*first, 0)
	x.u.Load(root, 5, false)
	if x.u.TLB() != kept || len(kept.List()) != 1 {
		t.Error("TLB is not the same each time")
	}
	kept.Put(tlb.Item{PCID: 5, Page: 6, Frame: 17, User: true})
	x.check(t, true, false, 8*6+2, 8*17+2, 0)
	kept.DropPage(5, 6)
	x.check(t, true, false, 8*6+2, 0, api.FaultForm)
	x.u.Load(root, 2, true)
	put(t, x.m, place(last, 0), entryOf(9, all))
	x.check(t, true, false, 0, 8*first, 0)
	kept.Forget(0)
	x.check(t, true, false, 0, 8*9, 0)
}

// P15.1: Translate by a walk

func TestWalked(t *testing.T) {
	for page := range 5 {
		for word := range 8 {
			x := newMachine(t)
			words := x.words()
			x.check(t, false, false, uint64(8*page+word), 8*(first+page)+word, 0)
			x.checkKept(t, "a walk", item(page))
			x.checkTouched(t, "a walk", cache.New(2), 0, lines(page)...)
			checkLoaded(t, x.u, root, 2)
			if !slices.Equal(x.words(), words) {
				t.Error("the memory has changed")
			}
		}
	}
}

// Three lines of one set, which has room for two: the first one has gone.
func TestLinesComeInTheirOrder(t *testing.T) {
	x := newMachine(t)
	x.check(t, true, false, 0, 8*first, 0)
	if got, want := x.c.Tags(0), []int{16, 24, -1, -1, -1, -1, -1, -1}; !slices.Equal(got, want) {
		t.Errorf("lines %d; want %d", got, want)
	}
	if got, want := x.c.Shared()[:4], []int{8, 16, 24, -1}; !slices.Equal(got, want) {
		t.Errorf("shared lines %d; want %d", got, want)
	}
}

// The word that is asked for is for others to touch.
func TestPlaceItselfIsNotTouched(t *testing.T) {
	x := newMachine(t)
	x.check(t, true, false, 5, 8*first+5, 0)
	x.check(t, true, false, 5, 8*first+5, 0)
	if slices.Contains(x.c.Shared(), 8*first+5) {
		t.Error("the place itself came near")
	}
}

func TestLinesAreThisCPUs(t *testing.T) {
	for cpu := range 2 {
		x := newMachine(t)
		x.u = New(cpu)
		x.u.Load(root, 2, true)
		x.check(t, true, false, 8, 8*(first+1), 0)
		x.checkTouched(t, "a walk", cache.New(2), cpu, lines(1)...)
		x.check(t, true, false, 40, 0, api.FaultNone)
		x.checkTouched(t, "two walks", cache.New(2), cpu, append(lines(1), lines(5)...)...)
	}
}

// Each page by tables of its own way, each word of it.
func TestEachAddress(t *testing.T) {
	for page := range api.Pages {
		x := machine{mem.New(frames), cache.New(1), New(0)}
		at := []int{place(root, page/64), place(middle, page/8%8), place(last, page%8)}
		for i, to := range []int{middle, last, first} {
			put(t, x.m, at[i], entryOf(to, all))
		}
		x.u.Load(root, 1, false)
		for word := range 8 {
			x.check(t, true, true, uint64(8*page+word), 8*first+word, 0)
		}
		x.checkKept(t, "one page", tlb.Item{PCID: 1, Page: page, Frame: first, Write: true, User: true})
		x.checkTouched(t, "one page", cache.New(1), 0, at...)
	}
}

// The first and the last frame, of the least memory that has the tables and of the greatest.
func TestEdgeFrames(t *testing.T) {
	for _, n := range []int{4, api.MaxFrames} {
		for _, frame := range []int{0, n - 1} {
			x := machine{mem.New(n), cache.New(1), New(0)}
			put(t, x.m, place(root, 7), entryOf(middle, all))
			put(t, x.m, place(middle, 7), entryOf(last, all))
			put(t, x.m, place(last, 7), entryOf(frame, all))
			x.u.Load(root, 2, true)
			x.check(t, true, true, space-1, 8*frame+7, 0)
			x.check(t, true, true, space-8, 8*frame, 0)
			x.check(t, true, true, space-9, 0, api.FaultNone)
		}
	}
}

// P15.1: Translate by what is kept

func TestKeptNeedsNoWalk(t *testing.T) {
	for page := range 5 {
		x := newMachine(t)
		x.check(t, false, false, uint64(8*page), 8*(first+page), 0)
		for _, line := range lines(page) {
			x.c.Clear(line)
		}
		before := x.state()
		for word := range 8 {
			x.check(t, false, false, uint64(8*page+word), 8*(first+page)+word, 0)
		}
		if x.state() != before {
			t.Errorf("page %d: %s; want %s", page, x.state(), before)
		}
	}
}

// What is kept stays as old as it is when it is used.
func TestKeptGrowsNoYounger(t *testing.T) {
	x := newMachine(t)
	for _, page := range []uint64{3, 1, 2, 3, 1, 0, 2, 0, 3} {
		x.check(t, false, false, 8*page, int(8*(first+page)), 0)
	}
	x.checkKept(t, "used again", item(3), item(1), item(2), item(0))
}

func TestKeptIsToldWhateverTheTablesSay(t *testing.T) {
	for level, at := range lines(0) {
		for _, bits := range []uint64{0, entryOf(9, here), entryOf(frames, all), 1<<63 | all, math.MaxUint64} {
			x := newMachine(t)
			x.check(t, true, true, 0, 8*first, 0)
			put(t, x.m, at, bits)
			before := x.state()
			uses(func(user, write bool) {
				x.check(t, user, write, 6, 8*first+6, 0)
			})
			if x.state() != before {
				t.Errorf("level %d: a walk, though it is kept", level)
			}
		}
	}
}

func TestKeptIsToldWhateverTheRoot(t *testing.T) {
	x := newMachine(t)
	x.check(t, true, true, 0, 8*first, 0)
	for _, r := range append([]int{0, 7}, far...) {
		x.u.Load(r, 2, true)
		x.check(t, true, true, 7, 8*first+7, 0)
	}
	x.checkKept(t, "other roots", item(0))
}

func TestKeptIsThisPCIDs(t *testing.T) {
	x := newMachine(t)
	x.check(t, true, true, 0, 8*first, 0)
	put(t, x.m, place(last, 0), entryOf(9, here|user))
	x.u.Load(root, 3, true)
	x.check(t, true, false, 0, 8*9, 0)
	x.check(t, true, true, 0, 0, api.FaultRight)
	other := tlb.Item{PCID: 3, Page: 0, Frame: 9, User: true}
	x.checkKept(t, "two PCIDs", item(0), other)
	x.u.Load(root, 2, true)
	x.check(t, true, true, 0, 8*first, 0)
	x.checkKept(t, "two PCIDs", item(0), other)
}

// A ninth page has the eldest go.
func TestTooManyAreKept(t *testing.T) {
	x := newMachine(t)
	var items []tlb.Item
	for page := range 10 {
		x.m.Write(place(last, page%8), entryOf(first+page, all))
		put(t, x.m, place(middle, 1), entryOf(last, all))
		x.check(t, true, true, uint64(8*page), 8*(first+page), 0)
		items = append(items, tlb.Item{PCID: 2, Page: page, Frame: first + page, Write: true, User: true})
		x.checkKept(t, "one by one", items[max(0, len(items)-api.TLBSize):]...)
	}
	x.check(t, true, true, 0, 8*(first+8), 0)
	x.check(t, true, true, 16, 8*(first+2), 0)
}

// P15.1: Translate and rights

// allowed tells what an entry's bits allow.
func allowed(bits uint64, user, write bool) bool {
	return (!user || bits&4 != 0) && (!write || bits&2 != 0)
}

func TestRights(t *testing.T) {
	for page := range 5 {
		uses(func(user, write bool) {
			x := newMachine(t)
			if allowed(rights[page], user, write) {
				x.check(t, user, write, uint64(8*page), 8*(first+page), 0)
				x.checkKept(t, "allowed", item(page))
			} else {
				x.check(t, user, write, uint64(8*page), 0, api.FaultRight)
				x.checkKept(t, "not allowed")
			}
			x.checkTouched(t, "allowed or not", cache.New(2), 0, lines(page)...)
		})
	}
}

// All entries must allow it; whether it is Global the last one says.
func TestRightsOfEachLevel(t *testing.T) {
	for bits := range 1 << 9 {
		x := newMachine(t)
		both, one := uint64(all), uint64(0)
		for level, to := range []int{middle, last, first} {
			one = here | uint64(bits>>(3*level)&3)<<1 | uint64(bits>>(3*level+2)&1)<<8
			both &= one
			put(t, x.m, lines(0)[level], entryOf(to, one))
		}
		want := tlb.Item{PCID: 2, Frame: first, Write: both&write != 0, User: both&user != 0, Global: one&global != 0}
		uses(func(user, write bool) {
			x.u.TLB().DropAll()
			if allowed(both, user, write) {
				x.check(t, user, write, 0, 8*first, 0)
				x.checkKept(t, "allowed", want)
			} else {
				x.check(t, user, write, 0, 0, api.FaultRight)
				x.checkKept(t, "not allowed")
			}
		})
	}
}

// Each kind of what is kept, each kind of what the tables say by now, each use.
func TestKeptButNotAllowed(t *testing.T) {
	for _, old := range []uint64{here, here | write, here | user, all} {
		for _, now := range []uint64{here, here | write, here | user, all} {
			uses(func(user, write bool) {
				checkKeptThenNow(t, old, now, user, write)
			})
		}
	}
}

func checkKeptThenNow(t *testing.T, old, now uint64, user, write bool) {
	t.Helper()
	x := newMachine(t)
	x.check(t, true, true, 0, 8*first, 0)
	x.u.TLB().DropAll()
	was := tlb.Item{PCID: 2, Page: 1, Frame: 9, Write: old&2 != 0, User: old&4 != 0}
	x.u.TLB().Put(was)
	x.u.TLB().Put(item(3))
	put(t, x.m, place(last, 1), entryOf(10, now))
	before := x.c.Clone()
	switch {
	case allowed(old, user, write):
		x.check(t, user, write, 12, 8*9+4, 0)
		x.checkKept(t, "allowed by what is kept", was, item(3))
		x.checkTouched(t, "allowed by what is kept", before, 0)
	case allowed(now, user, write):
		x.check(t, user, write, 12, 8*10+4, 0)
		x.checkKept(t, "allowed by now", item(3), tlb.Item{PCID: 2, Page: 1, Frame: 10, Write: now&2 != 0, User: now&4 != 0})
		x.checkTouched(t, "allowed by now", before, 0, lines(1)...)
	default:
		x.check(t, user, write, 12, 0, api.FaultRight)
		x.checkKept(t, "not allowed", was, item(3))
		x.checkTouched(t, "not allowed", before, 0, lines(1)...)
	}
}

// Where the tables have less by now the fault is theirs, and what is kept stays.
func TestKeptButNotAllowedAndGone(t *testing.T) {
	for bits, fault := range map[uint64]int{0: api.FaultNone, entryOf(frames, all): api.FaultForm, 16 | all: api.FaultForm, entryOf(9, here): api.FaultRight} {
		for level, at := range lines(1) {
			if level < 2 && fault == api.FaultRight {
				continue
			}
			x := newMachine(t)
			x.check(t, true, false, 8, 8*(first+1), 0)
			x.c = cache.New(2)
			put(t, x.m, at, bits)
			x.check(t, true, true, 8, 0, fault)
			x.checkKept(t, "not allowed", item(1))
			x.checkTouched(t, "not allowed", cache.New(2), 0, lines(1)[:level+1]...)
			x.check(t, true, false, 15, 8*(first+1)+7, 0)
		}
	}
}

// P15.1: Translate and Global items

func TestGlobalServesEveryPCID(t *testing.T) {
	x := newMachine(t)
	x.check(t, false, false, 32, 8*(first+4), 0)
	put(t, x.m, place(last, 4), 0)
	for _, pcid := range append([]int{0, 1, 2, 3, 4}, far...) {
		for _, keep := range bools {
			x.u.Load(99, pcid, keep)
			x.check(t, true, true, 39, 8*(first+4)+7, 0)
			x.checkKept(t, "Global", item(4))
		}
	}
}

// Of a PCID's own item and a Global one that is younger the own one is found.
func TestGlobalBesideOwn(t *testing.T) {
	x := newMachine(t)
	put(t, x.m, place(last, 0), entryOf(9, here|user))
	x.check(t, true, false, 0, 8*9, 0)
	own := tlb.Item{PCID: 2, Page: 0, Frame: 9, User: true}
	x.u.Load(root, 4, true)
	put(t, x.m, place(last, 0), entryOf(10, all|global))
	x.check(t, true, false, 0, 8*10, 0)
	shared := tlb.Item{PCID: 4, Page: 0, Frame: 10, Write: true, User: true, Global: true}
	x.checkKept(t, "both", own, shared)
	x.u.Load(root, 2, true)
	x.check(t, true, false, 0, 8*9, 0)
	x.u.Load(root, 6, true)
	x.check(t, true, false, 0, 8*10, 0)
	x.checkKept(t, "both", own, shared)

	// The own one does not allow it: the Global one is not asked, the tables are.
	x.u.Load(root, 2, true)
	put(t, x.m, place(last, 0), entryOf(11, here|user))
	x.check(t, true, true, 0, 0, api.FaultRight)
	x.checkKept(t, "the tables don't allow it", own, shared)
	put(t, x.m, place(last, 0), entryOf(11, all))
	x.check(t, true, true, 0, 8*11, 0)
	x.checkKept(t, "the tables allow it", tlb.Item{PCID: 2, Page: 0, Frame: 11, Write: true, User: true})
}

// A Global item that does not allow it goes for one that does, of another PCID.
func TestGlobalNotAllowed(t *testing.T) {
	x := newMachine(t)
	put(t, x.m, place(last, 0), entryOf(9, here|global))
	x.check(t, false, false, 0, 8*9, 0)
	x.u.Load(root, 4, true)
	x.check(t, true, false, 0, 0, api.FaultRight)
	x.checkKept(t, "not allowed", tlb.Item{PCID: 2, Page: 0, Frame: 9, Global: true})
	put(t, x.m, place(last, 0), entryOf(9, here|user))
	x.check(t, true, false, 0, 8*9, 0)
	x.checkKept(t, "allowed", tlb.Item{PCID: 4, Page: 0, Frame: 9, User: true})
	x.u.Load(root, 2, true)
	x.check(t, false, false, 0, 8*9, 0)
	x.checkKept(t, "no longer Global", tlb.Item{PCID: 4, Page: 0, Frame: 9, User: true}, tlb.Item{PCID: 2, Page: 0, Frame: 9, User: true})
}

// P15.1: the edges of a page and of the space

func TestEdgesOfAPage(t *testing.T) {
	x := newMachine(t)
	for at, want := range map[uint64][2]int{0: {8 * first, 0}, 7: {8*first + 7, 0}, 8: {8 * (first + 1), 0}, 39: {8*(first+4) + 7, 0},
		40: {0, api.FaultNone}, 48: {0, api.FaultForm}, 55: {0, api.FaultForm}, 63: {0, api.FaultForm}, 64: {0, api.FaultNone}, space - 1: {0, api.FaultNone}} {
		x.check(t, false, false, at, want[0], want[1])
	}
}

func TestEdgesOfTheSpace(t *testing.T) {
	x := newMachine(t)
	put(t, x.m, place(root, 7), entryOf(15, all))
	put(t, x.m, place(15, 7), entryOf(16, all))
	put(t, x.m, place(16, 7), entryOf(17, all))
	x.check(t, true, true, space-8, 8*17, 0)
	x.check(t, true, true, space-1, 8*17+7, 0)
	x.check(t, true, true, 0, 8*first, 0)
	kept := []tlb.Item{{PCID: 2, Page: api.Pages - 1, Frame: 17, Write: true, User: true}, item(0)}
	x.checkKept(t, "the first and the last page", kept...)
	before := x.state()
	for _, at := range outside {
		uses(func(user, write bool) {
			x.check(t, user, write, at, 0, api.FaultOutside)
		})
	}
	if x.state() != before {
		t.Error("an address that is none has changed something")
	}
}

// An address that is none is told ahead of a root that is none, and ahead of
// an item of such a page.
func TestOutsideIsFirst(t *testing.T) {
	x := newMachine(t)
	for _, at := range outside {
		x.u.TLB().Put(tlb.Item{PCID: 2, Page: int(at / 8), Frame: 9, Write: true, User: true})
		for _, r := range append([]int{root}, far...) {
			x.u.Load(r, 2, true)
			x.check(t, true, true, at, 0, api.FaultOutside)
		}
	}
	x.checkTouched(t, "no address", cache.New(2), 0)
}

// P15.1: faults of the walk

func TestFaultOnEachLevel(t *testing.T) {
	for level := range 3 {
		for bits, fault := range map[uint64]int{
			0: api.FaultNone, entryOf(first, write|user|global): api.FaultNone, math.MaxUint64 - 1: api.FaultNone,
			entryOf(first, all|8): api.FaultForm, 1<<63 | entryOf(first, all): api.FaultForm, math.MaxUint64: api.FaultForm,
			entryOf(frames, all): api.FaultForm, entryOf(1<<39, all): api.FaultForm, entryOf(1<<40-1, here): api.FaultForm,
		} {
			x := newMachine(t)
			put(t, x.m, lines(0)[level], bits)
			x.u.TLB().Put(item(3))
			uses(func(user, write bool) {
				x.c = cache.New(2)
				x.check(t, user, write, 5, 0, fault)
				x.checkKept(t, "a fault", item(3))
				x.checkTouched(t, "a fault", cache.New(2), 0, lines(0)[:level+1]...)
			})
			checkLoaded(t, x.u, root, 2)
		}
	}
}

// The walk's fault is told, whatever entries before it allow.
func TestFaultAheadOfRights(t *testing.T) {
	x := newMachine(t)
	put(t, x.m, place(root, 0), entryOf(middle, here))
	x.check(t, true, true, 40, 0, api.FaultNone)
	x.check(t, true, true, 48, 0, api.FaultForm)
	x.check(t, true, true, 0, 0, api.FaultRight)
	x.checkKept(t, "faults")
}

// P15.1 and R8: no such root, PCID, CPU.

func TestNoSuchRoot(t *testing.T) {
	x := newMachine(t)
	for _, r := range far {
		for _, keep := range bools {
			x.u.Load(r, 2, keep)
			for _, at := range []uint64{0, 7, 40, space - 1} {
				uses(func(user, write bool) {
					x.check(t, user, write, at, 0, api.FaultForm)
				})
			}
			checkLoaded(t, x.u, r, 2)
		}
	}
	x.checkKept(t, "no such root")
	x.checkTouched(t, "no such root", cache.New(2), 0)
	x.u.Load(root, 2, true)
	x.check(t, true, true, 0, 8*first, 0)
}

func TestNoFrames(t *testing.T) {
	x := machine{mem.New(0), cache.New(2), New(0)}
	for _, r := range append([]int{0, 1}, far...) {
		x.u.Load(r, 0, false)
		x.check(t, false, false, 0, 0, api.FaultForm)
		x.check(t, false, false, space, 0, api.FaultOutside)
	}
	x.checkTouched(t, "no frames", cache.New(2), 0)
}

// A PCID is a name, and any number does for one.
func TestAnyPCID(t *testing.T) {
	for _, pcid := range append([]int{0, 1, 7}, far...) {
		x := newMachine(t)
		x.check(t, true, true, 0, 8*first, 0)
		x.u.Load(root, pcid, true)
		put(t, x.m, place(last, 0), entryOf(9, all))
		x.check(t, true, true, 1, 8*9+1, 0)
		want := tlb.Item{PCID: pcid, Page: 0, Frame: 9, Write: true, User: true}
		x.checkKept(t, "another PCID", item(0), want)
		put(t, x.m, place(last, 0), 0)
		x.check(t, true, true, 2, 8*9+2, 0)
		x.u.Load(root, pcid, false)
		x.checkKept(t, "not kept", item(0))
		x.check(t, true, true, 2, 0, api.FaultNone)
	}
}

// Without such a CPU no line comes near; all else is as it is with one.
func TestNoSuchCPU(t *testing.T) {
	for _, cpu := range append([]int{2, 3}, far...) {
		checkUnseen(t, cpu, 2)
	}
	checkUnseen(t, 1, 1)
}

func checkUnseen(t *testing.T, cpu, cpus int) {
	t.Helper()
	x := machine{laid(t), cache.New(cpus), New(cpu)}
	x.u.Load(root, 2, true)
	x.check(t, true, true, 3, 8*first+3, 0)
	x.check(t, true, true, 8, 0, api.FaultRight)
	x.check(t, true, false, 8, 8*(first+1), 0)
	x.check(t, true, false, 40, 0, api.FaultNone)
	x.check(t, true, false, space, 0, api.FaultOutside)
	x.checkKept(t, "no such CPU", item(0), item(1))
	x.checkTouched(t, "no such CPU", cache.New(cpus), 0)
}

// P15.1: what an MMU is handed

func TestTwoOverOneMemoryAndCache(t *testing.T) {
	a := newMachine(t)
	b := machine{a.m, a.c, New(1)}
	b.u.Load(root, 2, true)
	a.check(t, true, false, 0, 8*first, 0)
	b.checkKept(t, "the other CPU's")
	b.check(t, true, false, 16, 0, api.FaultRight)
	b.check(t, true, false, 8, 8*(first+1), 0)
	a.checkKept(t, "CPU 0's", item(0))
	b.checkKept(t, "CPU 1's", item(1))
	want := cache.New(2)
	for i, page := range []int{0, 2, 1} {
		for _, line := range lines(page) {
			want.Touch(min(i, 1), line)
		}
	}
	a.checkTouched(t, "both", want, 0)
	a.u.Load(9, 7, false)
	checkLoaded(t, b.u, root, 2)
	b.u.TLB().DropAll()
	a.checkKept(t, "CPU 0's", item(0))
}

// Neither memory nor caches are kept: it is those that are handed in that count.
func TestHandedInEachTime(t *testing.T) {
	x := newMachine(t)
	x.check(t, true, false, 0, 8*first, 0)
	one := x.near()
	y := machine{mem.New(frames), cache.New(1), x.u}
	y.check(t, true, false, 8, 0, api.FaultNone)
	y.checkTouched(t, "another cache", cache.New(1), 0, place(root, 0))
	y.check(t, true, false, 3, 8*first+3, 0)
	if x.near() != one {
		t.Errorf("lines %s; want %s", x.near(), one)
	}
	for _, w := range y.words() {
		if w != 0 {
			t.Error("the other memory has changed")
		}
	}
	x.check(t, true, false, 8, 8*(first+1), 0)
}

// P15.1 and R5, against a second, plain telling of an MMU.

type plain struct {
	cpu, root, pcid int
	kept            []tlb.Item
}

func serves(x tlb.Item, pcid, page int) bool {
	return x.Page == page && (x.Global || x.PCID == pcid)
}

// keep goes through all that is kept, and leaves out what goes.
func (p *plain) keep(stays func(tlb.Item) bool) {
	var l []tlb.Item
	for _, x := range p.kept {
		if stays(x) {
			l = append(l, x)
		}
	}
	p.kept = l
}

func (p *plain) load(root, pcid int, keep bool) {
	p.root, p.pcid = root, pcid
	p.keep(func(x tlb.Item) bool { return keep || x.Global || x.PCID != pcid })
}

// walk reads the tables by digits, and touches as it reads.
func (p *plain) walk(m *mem.Memory, c *cache.Caches, page int) (tlb.Item, int) {
	table, both, bits := p.root, uint64(all), uint64(0)
	for _, digit := range []int{page / 64, page / 8 % 8, page % 8} {
		if table < 0 || table >= m.Frames() {
			return tlb.Item{}, 4
		}
		c.Touch(p.cpu, 8*table+digit)
		bits, _ = m.Read(8*table + digit)
		if bits%2 == 0 {
			return tlb.Item{}, 1
		}
		if bits>>12 >= uint64(m.Frames()) || bits&0xef8 != 0 {
			return tlb.Item{}, 4
		}
		table = int(bits >> 12)
		both &= bits
	}
	return tlb.Item{PCID: p.pcid, Page: page, Frame: table, Write: both&2 != 0, User: both&4 != 0, Global: bits&256 != 0}, 0
}

func (p *plain) translate(m *mem.Memory, c *cache.Caches, user, write bool, at uint64) (int, int) {
	if at > 4095 {
		return 0, 3
	}
	page, word := int(at)/8, int(at)%8
	for _, x := range p.kept {
		if !serves(x, p.pcid, page) {
			continue
		}
		if user && !x.User || write && !x.Write {
			break
		}
		return 8*x.Frame + word, 0
	}
	x, fault := p.walk(m, c, page)
	if fault == 0 && (user && !x.User || write && !x.Write) {
		fault = 2
	}
	if fault != 0 {
		return 0, fault
	}
	p.keep(func(y tlb.Item) bool { return !serves(y, p.pcid, page) })
	p.kept = append(p.kept, x)
	p.kept = p.kept[max(0, len(p.kept)-8):]
	return 8*x.Frame + word, 0
}

// pair is an MMU and its plain telling, over one memory, with caches of their own.
type pair struct {
	x machine
	c *cache.Caches
	p *plain
}

// pick answers one of some numbers.
func pick[T any](r *rand.Rand, l ...T) T {
	return l[r.IntN(len(l))]
}

// randomEntry leads mostly to a frame that is there, and allows mostly.
func randomEntry(r *rand.Rand) uint64 {
	bits := pick[uint64](r, all, all, all, all|global, here|user, here|write, here, here|user|global, write|user, all|8, 1<<52|all)
	return bits | pick[uint64](r, 0, 1, 2, 3, 4, 5, 5, 6)<<12
}

func randomAddress(r *rand.Rand) uint64 {
	if r.IntN(20) == 0 {
		return pick(r, outside...)
	}
	digit := func() uint64 { return pick[uint64](r, 0, 0, 1, 7) }
	return digit()<<9 | digit()<<6 | digit()<<3 | uint64(r.IntN(8))
}

// step does the same to both, and fails where they differ.
func (o pair) step(t *testing.T, r *rand.Rand) {
	t.Helper()
	switch r.IntN(8) {
	case 0:
		root := pick(r, 0, 1, 2, 3, pick(r, far...))
		pcid, keep := pick(r, 0, 2, 3, pick(r, far...)), r.IntN(2) == 0
		o.x.u.Load(root, pcid, keep)
		o.p.load(root, pcid, keep)
	case 1:
		o.x.m.Write(r.IntN(8*o.x.m.Frames()), randomEntry(r))
	case 2:
		n := r.IntN(20)
		if forgot := o.x.u.TLB().Forget(n); forgot {
			o.p.kept = slices.Delete(o.p.kept, n, n+1)
		}
	default:
		user, write, at := r.IntN(2) == 0, r.IntN(3) == 0, randomAddress(r)
		place, fault := o.p.translate(o.x.m, o.c, user, write, at)
		o.x.check(t, user, write, at, place, fault)
	}
	checkLoaded(t, o.x.u, o.p.root, o.p.pcid)
	o.x.checkKept(t, "the same as a plain one", o.p.kept...)
	o.x.checkTouched(t, "the same as a plain one", o.c, 0)
}

func TestAgainstAPlainOne(t *testing.T) {
	faults := map[int]int{}
	for seed := range uint64(40) {
		r := rand.New(rand.NewPCG(15, seed))
		m, c, plainC := mem.New(6), cache.New(2), cache.New(2)
		for at := range 8 * 6 {
			put(t, m, at, randomEntry(r))
		}
		var both [2]pair
		for i := range both {
			cpu := pick(r, 0, 1, 1-i, i, 2)
			both[i] = pair{machine{m, c, New(cpu)}, plainC, &plain{cpu: cpu}}
		}
		for range 1000 {
			i := r.IntN(2)
			both[i].step(t, r)
			both[1-i].x.checkKept(t, "the other one", both[1-i].p.kept...)
		}
		if t.Failed() {
			t.Fatalf("seed %d", seed)
		}
		for at := range uint64(space) {
			_, fault := both[0].p.translate(m, plainC, at%2 == 0, at%3 == 0, at)
			faults[fault]++
		}
	}
	for _, fault := range []int{0, api.FaultNone, api.FaultRight, api.FaultForm} {
		if faults[fault] < 100 {
			t.Errorf("of fault %d there were only %d", fault, faults[fault])
		}
	}
}

// The same calls are answered the same by each MMU.
func TestSameEachTime(t *testing.T) {
	tell := func() []string {
		var told []string
		r := rand.New(rand.NewPCG(15, 15))
		x := machine{mem.New(6), cache.New(2), New(1)}
		for range 600 {
			x.m.Write(r.IntN(48), randomEntry(r))
			if r.IntN(4) == 0 {
				x.u.Load(r.IntN(4), r.IntN(3), r.IntN(2) == 0)
			}
			place, fault := x.u.Translate(x.m, x.c, r.IntN(2) == 0, r.IntN(2) == 0, randomAddress(r))
			told = append(told, fmt.Sprint(place, fault, x.state()))
		}
		return told
	}
	if a, b := tell(), tell(); !slices.Equal(a, b) {
		t.Error("two MMUs differ behind the same calls")
	}
}

// R1: whatever is handed in, and whatever is put into the TLB, no call panics.
func TestNoPanic(t *testing.T) {
	x := newMachine(t)
	for _, n := range far {
		x.u = New(n)
		for _, other := range far {
			x.u.Load(n, other, n%2 == 0)
			x.u.TLB().Put(tlb.Item{PCID: other, Page: 3, Frame: n, User: true})
			for _, at := range append([]uint64{0, 24, 31, space - 1}, outside...) {
				uses(func(user, write bool) {
					x.u.Translate(x.m, x.c, user, write, at)
				})
			}
		}
	}
	x.checkTouched(t, "no such CPU", cache.New(2), 0)
}
