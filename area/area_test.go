package area

import (
	"math"
	"math/rand/v2"
	"slices"
	"testing"

	"penumbra/api"
)

// all is how many pages there may be.
const all = api.UserPages

// far are numbers that are no page, and no count of pages; cut to fewer bits
// some of them come round to such as there are.
var far = []int{-1, -2, -7, -8, -255, -256, -257, 257, 258, 263, 264, 448, 511, 512, 513, 1 << 16, 1<<16 + 1, -1 << 16,
	1 << 31, 1<<31 - 1, 1 << 32, 1<<32 + 1, 1<<32 + 8, -1 << 32, 1 << 61, 1 << 62, 1<<62 + 1, -1 << 62,
	math.MaxInt, math.MaxInt - 1, math.MaxInt - 255, math.MinInt, math.MinInt + 1, math.MinInt + 256}

// bad are numbers that are no rights: Write alone is among them.
var bad = []int{api.Write, 4, 5, 6, 7, 8, 255, 256, 257, 259, 1 << 16, 1 << 32, 1<<32 + 1, 1<<32 + 3, 1 << 62, 1<<62 + 3,
	-1, -2, -3, -4, math.MaxInt, math.MaxInt - 1, math.MinInt, math.MinInt + 1, math.MinInt + 3}

// good are the rights that there are.
var good = []int{0, api.Read, api.Read | api.Write}

// said is what is answered of one page.
type said struct {
	rights int
	there  bool
}

// state is all that can be asked of areas.
type state struct {
	said  [all]said
	runs  []Run
	pages []int
}

func stateOf(a *Areas) state {
	st := state{runs: a.List(), pages: a.Pages()}
	for page := range st.said {
		st.said[page].rights, st.said[page].there = a.Rights(page)
	}
	return st
}

// wanted is the state of areas that have these runs.
func wanted(runs ...Run) state {
	st := state{runs: runs}
	for _, r := range runs {
		for page := r.From; page < r.From+r.N; page++ {
			st.said[page] = said{r.Rights, true}
			st.pages = append(st.pages, page)
		}
	}
	return st
}

func same(a, b state) bool {
	return a.said == b.said && slices.Equal(a.runs, b.runs) && slices.Equal(a.pages, b.pages)
}

// checkState fails where anything but what is wanted has changed.
func checkState(t *testing.T, what string, a *Areas, want state) {
	t.Helper()
	if got := stateOf(a); !same(got, want) {
		t.Errorf("%s: %v, %v, %v; want %v, %v, %v", what, got.runs, got.pages, got.said, want.runs, want.pages, want.said)
	}
}

func checkRuns(t *testing.T, a *Areas, runs ...Run) {
	t.Helper()
	checkState(t, "state", a, wanted(runs...))
}

func checkAdd(t *testing.T, a *Areas, from, n, rights int, want api.Errno) {
	t.Helper()
	if e := a.Add(from, n, rights); e != want {
		t.Errorf("Add(%d, %d, %d) = %d; want %d", from, n, rights, e, want)
	}
}

func checkCut(t *testing.T, a *Areas, from, n int, want api.Errno) {
	t.Helper()
	if e := a.Cut(from, n); e != want {
		t.Errorf("Cut(%d, %d) = %d; want %d", from, n, e, want)
	}
}

func checkChange(t *testing.T, a *Areas, from, n, rights int, want api.Errno) {
	t.Helper()
	if e := a.Change(from, n, rights); e != want {
		t.Errorf("Change(%d, %d, %d) = %d; want %d", from, n, rights, e, want)
	}
}

func checkRights(t *testing.T, a *Areas, page, rights int, there bool) {
	t.Helper()
	if r, ok := a.Rights(page); r != rights || ok != there {
		t.Errorf("Rights(%d) = %d, %v; want %d, %v", page, r, ok, rights, there)
	}
}

// of has these runs, added one by one.
func of(t *testing.T, runs ...Run) *Areas {
	t.Helper()
	a := New()
	for _, r := range runs {
		checkAdd(t, a, r.From, r.N, r.Rights, api.OK)
	}
	return a
}

// busyRuns have each kind of rights, rows side by side and rows apart, the
// first page and the last.
func busyRuns() []Run {
	return []Run{{0, 1, 3}, {2, 3, 1}, {5, 2, 0}, {7, 1, 3}, {100, 20, 3}, {200, 10, 0}, {254, 2, 1}}
}

func busy(t *testing.T) *Areas {
	t.Helper()
	a := of(t, busyRuns()...)
	checkRuns(t, a, busyRuns()...)
	return a
}

func whole(t *testing.T, rights int) *Areas {
	t.Helper()
	return of(t, Run{0, all, rights})
}

// P12.1: New

func TestExample(t *testing.T) {
	if runs := New().List(); len(runs) != 0 {
		t.Errorf("List() = %v; want none", runs)
	}
}

func TestNewHasNothing(t *testing.T) {
	checkRuns(t, New())
}

func TestNewOnesGoTheirOwnWays(t *testing.T) {
	a, b := New(), New()
	checkAdd(t, a, 3, 2, 1, api.OK)
	checkRuns(t, b)
	checkAdd(t, b, 3, 2, 3, api.OK)
	checkRuns(t, a, Run{3, 2, 1})
	checkCut(t, a, 3, 2, api.OK)
	checkRuns(t, b, Run{3, 2, 3})
}

// P12.1: Add

func TestAddOfEachRights(t *testing.T) {
	for _, rights := range good {
		checkRuns(t, of(t, Run{10, 3, rights}), Run{10, 3, rights})
	}
}

// Each row that there can be, at the edges of all and between.
func TestAddOfEachRow(t *testing.T) {
	for _, from := range []int{0, 1, 7, 8, 63, 64, 127, 128, 254, 255} {
		for n := 1; from+n <= all; n++ {
			checkRuns(t, of(t, Run{from, n, 1}), Run{from, n, 1})
		}
		checkAdd(t, New(), from, all-from+1, 1, api.ErrArg)
	}
}

func TestAddOfEachPageAlone(t *testing.T) {
	a := New()
	for page := range all {
		checkAdd(t, a, page, 1, 3, api.OK)
		checkRuns(t, a, Run{0, page + 1, 3})
	}
	for page := range all {
		checkAdd(t, a, page, 1, 3, api.ErrThere)
	}
}

func TestAddOfAllPages(t *testing.T) {
	for _, rights := range good {
		a := whole(t, rights)
		checkRuns(t, a, Run{0, all, rights})
		for page := range all {
			checkAdd(t, a, page, 1, rights, api.ErrThere)
		}
		checkRuns(t, a, Run{0, all, rights})
	}
}

func TestAddJoins(t *testing.T) {
	for _, rights := range good {
		below := of(t, Run{12, 2, rights}, Run{10, 2, rights})
		checkRuns(t, below, Run{10, 4, rights})
		above := of(t, Run{10, 2, rights}, Run{12, 2, rights})
		checkRuns(t, above, Run{10, 4, rights})
		both := of(t, Run{10, 2, rights}, Run{14, 2, rights})
		checkRuns(t, both, Run{10, 2, rights}, Run{14, 2, rights})
		checkAdd(t, both, 12, 2, rights, api.OK)
		checkRuns(t, both, Run{10, 6, rights})
	}
}

// Other rights side by side are rows of their own.
func TestAddBesideOthers(t *testing.T) {
	for _, r := range good {
		for _, s := range good {
			if r == s {
				continue
			}
			checkRuns(t, of(t, Run{10, 2, r}, Run{12, 2, s}), Run{10, 2, r}, Run{12, 2, s})
			a := of(t, Run{10, 2, r}, Run{14, 2, r}, Run{12, 2, s})
			checkRuns(t, a, Run{10, 2, r}, Run{12, 2, s}, Run{14, 2, r})
			b := of(t, Run{10, 2, r}, Run{14, 2, s}, Run{12, 2, s})
			checkRuns(t, b, Run{10, 2, r}, Run{12, 4, s})
			c := of(t, Run{10, 2, r}, Run{14, 2, s}, Run{12, 2, r})
			checkRuns(t, c, Run{10, 4, r}, Run{14, 2, s})
		}
	}
}

// One page between them, and they don't join.
func TestAddApart(t *testing.T) {
	checkRuns(t, of(t, Run{13, 2, 3}, Run{10, 2, 3}), Run{10, 2, 3}, Run{13, 2, 3})
}

func TestAddOfWhatIsThere(t *testing.T) {
	for _, rights := range good {
		for _, r := range []Run{{10, 4, 3}, {10, 1, 3}, {13, 1, 3}, {11, 2, 3}, {9, 2, 3}, {13, 2, 3}, {0, 11, 3}, {13, 243, 3}, {0, all, 3}, {9, 6, 3}} {
			a := of(t, Run{10, 4, 1})
			checkAdd(t, a, r.From, r.N, rights, api.ErrThere)
			checkRuns(t, a, Run{10, 4, 1})
		}
	}
}

// One page that is there is enough, wherever in the row.
func TestAddOfWhatIsThereInPart(t *testing.T) {
	for page := 20; page < 30; page++ {
		for _, rights := range good {
			a := of(t, Run{page, 1, rights})
			checkAdd(t, a, 20, 10, rights, api.ErrThere)
			checkRuns(t, a, Run{page, 1, rights})
		}
	}
}

// Rights 0: there, and no right.
func TestNoRightIsThere(t *testing.T) {
	a := of(t, Run{10, 2, 0})
	checkRights(t, a, 10, 0, true)
	checkRights(t, a, 11, 0, true)
	checkRights(t, a, 9, 0, false)
	checkRights(t, a, 12, 0, false)
	for _, rights := range good {
		checkAdd(t, a, 11, 1, rights, api.ErrThere)
	}
	checkRuns(t, a, Run{10, 2, 0})
	checkCut(t, a, 10, 2, api.OK)
	checkRuns(t, a)
}

// P12.1: Cut

func TestCutOfEachRow(t *testing.T) {
	for from := 10; from < 16; from++ {
		for n := 1; from+n <= 16; n++ {
			a := of(t, Run{10, 6, 3})
			checkCut(t, a, from, n, api.OK)
			var want []Run
			if from > 10 {
				want = append(want, Run{10, from - 10, 3})
			}
			if from+n < 16 {
				want = append(want, Run{from + n, 16 - from - n, 3})
			}
			checkRuns(t, a, want...)
		}
	}
}

func TestCutPartsInTheMiddle(t *testing.T) {
	for _, rights := range good {
		a := whole(t, rights)
		checkCut(t, a, 100, 1, api.OK)
		checkRuns(t, a, Run{0, 100, rights}, Run{101, 155, rights})
		checkCut(t, a, 0, 1, api.OK)
		checkCut(t, a, 255, 1, api.OK)
		checkRuns(t, a, Run{1, 99, rights}, Run{101, 154, rights})
	}
}

// A row that was added may be cut in parts, and rows that were added one by
// one at once, whatever their rights.
func TestCutOverSeveralRows(t *testing.T) {
	a := of(t, Run{10, 2, 3}, Run{12, 2, 0}, Run{14, 2, 1})
	checkCut(t, a, 11, 4, api.OK)
	checkRuns(t, a, Run{10, 1, 3}, Run{15, 1, 1})
	b := of(t, Run{10, 2, 3}, Run{12, 2, 0}, Run{14, 2, 1})
	checkCut(t, b, 10, 6, api.OK)
	checkRuns(t, b)
}

func TestCutOfAllPages(t *testing.T) {
	for _, rights := range good {
		a := whole(t, rights)
		checkCut(t, a, 0, all, api.OK)
		checkRuns(t, a)
		checkCut(t, a, 0, all, api.ErrNone)
		checkAdd(t, a, 0, all, rights, api.OK)
	}
}

// What is cut may be added again, and has the rights that it is added with.
func TestCutAndAddedAgain(t *testing.T) {
	for _, r := range good {
		for _, s := range good {
			a := of(t, Run{10, 6, r})
			checkCut(t, a, 12, 2, api.OK)
			checkRights(t, a, 12, 0, false)
			checkAdd(t, a, 12, 2, s, api.OK)
			checkAdd(t, a, 12, 2, s, api.ErrThere)
			if r == s {
				checkRuns(t, a, Run{10, 6, r})
			} else {
				checkRuns(t, a, Run{10, 2, r}, Run{12, 2, s}, Run{14, 2, r})
			}
		}
	}
}

func TestCutOfWhatIsNotThere(t *testing.T) {
	for _, r := range []Run{{9, 1, 0}, {14, 1, 0}, {9, 2, 0}, {13, 2, 0}, {9, 6, 0}, {0, all, 0}, {0, 1, 0}, {255, 1, 0}, {0, 11, 0}, {13, 243, 0}} {
		a := of(t, Run{10, 4, 3})
		checkCut(t, a, r.From, r.N, api.ErrNone)
		checkRuns(t, a, Run{10, 4, 3})
		checkCut(t, New(), r.From, r.N, api.ErrNone)
	}
}

// One page that is not there is enough, wherever in the row.
func TestCutOfWhatIsNotThereInPart(t *testing.T) {
	for page := 20; page < 30; page++ {
		a := whole(t, 3)
		checkCut(t, a, page, 1, api.OK)
		checkCut(t, a, 20, 10, api.ErrNone)
		checkRuns(t, a, Run{0, page, 3}, Run{page + 1, all - page - 1, 3})
	}
}

// P12.1: Change

func TestChangeOfEachRights(t *testing.T) {
	for _, r := range good {
		for _, s := range good {
			a := of(t, Run{10, 4, r})
			checkChange(t, a, 10, 4, s, api.OK)
			checkRuns(t, a, Run{10, 4, s})
		}
	}
}

func TestChangePartsInTheMiddle(t *testing.T) {
	a := of(t, Run{10, 6, 3})
	checkChange(t, a, 12, 2, 1, api.OK)
	checkRuns(t, a, Run{10, 2, 3}, Run{12, 2, 1}, Run{14, 2, 3})
	checkChange(t, a, 12, 2, 3, api.OK)
	checkRuns(t, a, Run{10, 6, 3})
}

func TestChangeAtTheEnds(t *testing.T) {
	a := of(t, Run{10, 6, 3})
	checkChange(t, a, 10, 1, 0, api.OK)
	checkChange(t, a, 15, 1, 0, api.OK)
	checkRuns(t, a, Run{10, 1, 0}, Run{11, 4, 3}, Run{15, 1, 0})
}

// Rows that were parts become one, or join what lies beside them.
func TestChangeOverSeveralRows(t *testing.T) {
	a := of(t, Run{10, 2, 3}, Run{12, 2, 0}, Run{14, 2, 1})
	checkChange(t, a, 10, 6, 1, api.OK)
	checkRuns(t, a, Run{10, 6, 1})
	b := of(t, Run{10, 2, 3}, Run{12, 2, 0}, Run{14, 2, 1})
	checkChange(t, b, 11, 4, 0, api.OK)
	checkRuns(t, b, Run{10, 1, 3}, Run{11, 4, 0}, Run{15, 1, 1})
	checkChange(t, b, 11, 4, 3, api.OK)
	checkRuns(t, b, Run{10, 5, 3}, Run{15, 1, 1})
}

func TestChangeOfOnePageAndOfAll(t *testing.T) {
	for _, page := range []int{0, 1, 128, 254, 255} {
		a := whole(t, 3)
		checkChange(t, a, page, 1, 0, api.OK)
		for p := range all {
			if p == page {
				checkRights(t, a, p, 0, true)
			} else {
				checkRights(t, a, p, 3, true)
			}
		}
		checkChange(t, a, 0, all, 1, api.OK)
		checkRuns(t, a, Run{0, all, 1})
	}
}

func TestChangeOfWhatIsNotThere(t *testing.T) {
	for _, rights := range good {
		for _, r := range []Run{{9, 1, 0}, {14, 1, 0}, {9, 2, 0}, {13, 2, 0}, {9, 6, 0}, {0, all, 0}, {0, 1, 0}, {255, 1, 0}, {0, 11, 0}, {13, 243, 0}} {
			a := of(t, Run{10, 4, 3})
			checkChange(t, a, r.From, r.N, rights, api.ErrNone)
			checkRuns(t, a, Run{10, 4, 3})
			checkChange(t, New(), r.From, r.N, rights, api.ErrNone)
		}
	}
}

// One page that is not there is enough, wherever in the row.
func TestChangeOfWhatIsNotThereInPart(t *testing.T) {
	for page := 20; page < 30; page++ {
		a := whole(t, 3)
		checkCut(t, a, page, 1, api.OK)
		checkChange(t, a, 20, 10, 1, api.ErrNone)
		checkRuns(t, a, Run{0, page, 3}, Run{page + 1, all - page - 1, 3})
	}
}

// P12.1: Add, Cut, Change of what is no row, or no rights

// rowsThatAreNone leave the pages that there may be, on either side, or have
// no page at all.
func rowsThatAreNone() []Run {
	rows := []Run{{0, 0, 0}, {10, 0, 0}, {255, 0, 0}, {256, 0, 0}, {256, 1, 0}, {255, 2, 0}, {0, 257, 0}, {1, 256, 0}, {128, 129, 0},
		{-1, 1, 0}, {-1, 2, 0}, {-1, 256, 0}, {-1, 257, 0}, {-256, 257, 0}, {256, -1, 0}, {257, -2, 0}}
	for _, f := range far {
		rows = append(rows, Run{f, 0, 0}, Run{f, 1, 0}, Run{f, 2, 0}, Run{f, 256, 0}, Run{f, -f, 0}, Run{f, 1 - f, 0})
		rows = append(rows, Run{0, f, 0}, Run{10, f, 0}, Run{255, f, 0}, Run{256, f, 0})
		for _, n := range far {
			rows = append(rows, Run{f, n, 0})
		}
	}
	return rows
}

func TestRowsThatAreNone(t *testing.T) {
	for _, a := range []*Areas{New(), busy(t), whole(t, 1)} {
		want := stateOf(a)
		for _, r := range rowsThatAreNone() {
			for _, rights := range good {
				checkAdd(t, a, r.From, r.N, rights, api.ErrArg)
				checkChange(t, a, r.From, r.N, rights, api.ErrArg)
			}
			checkCut(t, a, r.From, r.N, api.ErrArg)
		}
		checkState(t, "refused", a, want)
	}
}

// Rights that are none are told ahead of pages that are there, or are not.
func TestRightsThatAreNone(t *testing.T) {
	for _, rights := range bad {
		a := of(t, Run{10, 4, 1})
		for _, from := range []int{0, 8, 10, 11, 13, 14, 254} {
			checkAdd(t, a, from, 2, rights, api.ErrArg)
			checkChange(t, a, from, 2, rights, api.ErrArg)
		}
		checkAdd(t, a, 0, all, rights, api.ErrArg)
		checkChange(t, a, 0, all, rights, api.ErrArg)
		checkRuns(t, a, Run{10, 4, 1})
	}
}

// A row that is none, and rights that are none, and pages that are there: it
// is the arguments that are told.
func TestArgumentsAreToldFirst(t *testing.T) {
	a := busy(t)
	for _, rights := range bad {
		for _, r := range []Run{{-1, 2, 0}, {0, 0, 0}, {0, -1, 0}, {255, 2, 0}, {256, 1, 0}, {math.MaxInt, math.MaxInt, 0}} {
			checkAdd(t, a, r.From, r.N, rights, api.ErrArg)
			checkChange(t, a, r.From, r.N, rights, api.ErrArg)
		}
	}
	checkCut(t, a, 255, 2, api.ErrArg)
	checkCut(t, a, -1, 2, api.ErrArg)
	checkState(t, "refused", a, wanted(busyRuns()...))
}

// P12.1: Rights

func TestRightsOfEachPage(t *testing.T) {
	checkState(t, "busy", busy(t), wanted(busyRuns()...))
	for _, rights := range good {
		a := whole(t, rights)
		for page := range all {
			checkRights(t, a, page, rights, true)
		}
	}
}

func TestRightsOfNoPage(t *testing.T) {
	for _, a := range []*Areas{New(), busy(t), whole(t, 0), whole(t, 3)} {
		want := stateOf(a)
		for _, page := range append([]int{all}, far...) {
			checkRights(t, a, page, 0, false)
		}
		checkState(t, "Rights", a, want)
	}
}

// Nothing is left of what a page's rights were.
func TestRightsOfWhatWasCut(t *testing.T) {
	for _, rights := range good {
		a := whole(t, rights)
		checkCut(t, a, 7, 1, api.OK)
		checkRights(t, a, 7, 0, false)
		checkRights(t, a, 6, rights, true)
		checkRights(t, a, 8, rights, true)
	}
}

// P12.1: List, Pages

// However the pages came, it is as few Runs as can be, rising.
func TestListIsRising(t *testing.T) {
	runs := busyRuns()
	for range 7 {
		runs = append(runs[1:], runs[0])
		checkRuns(t, of(t, runs...), busyRuns()...)
	}
	slices.Reverse(runs)
	checkRuns(t, of(t, runs...), busyRuns()...)
	var single []Run
	for _, r := range busyRuns() {
		for page := r.From; page < r.From+r.N; page++ {
			single = append(single, Run{page, 1, r.Rights})
		}
	}
	slices.Reverse(single)
	checkRuns(t, of(t, single...), busyRuns()...)
}

func TestListOfAsManyRunsAsCanBe(t *testing.T) {
	var gaps, others []Run
	for page := range all {
		others = append(others, Run{page, 1, page % 2})
		if page%2 == 1 {
			gaps = append(gaps, Run{page, 1, 3})
		}
	}
	checkRuns(t, of(t, gaps...), gaps...)
	checkRuns(t, of(t, others...), others...)
}

// R4: what is handed out is new memory, room behind its length too.
func TestWhatIsHandedOutIsNew(t *testing.T) {
	a := busy(t)
	want := wanted(busyRuns()...)
	runs, pages := a.List(), a.Pages()
	for i := range runs[:cap(runs)] {
		runs[:cap(runs)][i] = Run{-1, -2, -3}
	}
	for i := range pages[:cap(pages)] {
		pages[:cap(pages)][i] = -4
	}
	checkState(t, "List, Pages", a, want)
	other, second := a.List(), a.Pages()
	checkCut(t, a, 0, 1, api.OK)
	checkChange(t, a, 2, 3, 3, api.OK)
	checkAdd(t, a, 1, 1, 0, api.OK)
	if !slices.Equal(other, want.runs) || !slices.Equal(second, want.pages) {
		t.Errorf("handed out ahead of a change: %v, %v; want %v, %v", other, second, want.runs, want.pages)
	}
	for i := range runs {
		if runs[i] != (Run{-1, -2, -3}) {
			t.Errorf("a list that the caller has was written: %v", runs)
		}
	}
}

// P12.1, R4: Clone

func TestCloneIsAsItIs(t *testing.T) {
	for _, a := range []*Areas{New(), busy(t), whole(t, 0), whole(t, 3)} {
		want := stateOf(a)
		c := a.Clone()
		if c == a {
			t.Error("Clone() is the same object")
		}
		checkState(t, "clone", c, want)
		checkState(t, "clone of a clone", c.Clone(), want)
		checkState(t, "cloned", a, want)
	}
}

// change does one of each call that changes something.
func change(t *testing.T, a *Areas) {
	t.Helper()
	checkAdd(t, a, 50, 3, 1, api.OK)
	checkCut(t, a, 105, 3, api.OK)
	checkChange(t, a, 200, 10, 3, api.OK)
}

func TestCloneGoesItsOwnWay(t *testing.T) {
	a := busy(t)
	c := a.Clone()
	change(t, c)
	checkState(t, "cloned", a, wanted(busyRuns()...))
	after := stateOf(c)
	change(t, a)
	checkState(t, "clone", c, after)
	checkState(t, "cloned", a, after)
	checkCut(t, a, 0, 1, api.OK)
	checkState(t, "clone", c, after)
	d := c.Clone()
	checkCut(t, c, 100, 5, api.OK)
	checkState(t, "clone of a clone", d, after)
}

func TestClonedGoesItsOwnWay(t *testing.T) {
	a := busy(t)
	c := a.Clone()
	change(t, a)
	checkState(t, "clone", c, wanted(busyRuns()...))
	change(t, c)
	checkState(t, "clone", c, stateOf(a))
}

// A second, plain telling: a map of the pages that are there, to their rights.

type telling map[int]int

func (p telling) count(from, n int) int {
	there := 0
	for page := from; page < from+n; page++ {
		if _, ok := p[page]; ok {
			there++
		}
	}
	return there
}

func (p telling) refuses(from, n, rights int) bool {
	return from < 0 || n < 1 || from+n > 256 || rights != 0 && rights != 1 && rights != 3
}

func (p telling) add(from, n, rights int) api.Errno {
	if p.refuses(from, n, rights) {
		return api.ErrArg
	}
	if p.count(from, n) > 0 {
		return api.ErrThere
	}
	return p.put(from, n, rights)
}

func (p telling) change(from, n, rights int) api.Errno {
	if p.refuses(from, n, rights) {
		return api.ErrArg
	}
	if p.count(from, n) < n {
		return api.ErrNone
	}
	return p.put(from, n, rights)
}

func (p telling) cut(from, n int) api.Errno {
	if p.refuses(from, n, 0) {
		return api.ErrArg
	}
	if p.count(from, n) < n {
		return api.ErrNone
	}
	for page := from; page < from+n; page++ {
		delete(p, page)
	}
	return api.OK
}

func (p telling) put(from, n, rights int) api.Errno {
	for page := from; page < from+n; page++ {
		p[page] = rights
	}
	return api.OK
}

// state begins a Run at each page that the one below it does not go on to.
func (p telling) state() state {
	var st state
	for page := range 256 {
		rights, ok := p[page]
		if !ok {
			continue
		}
		st.said[page] = said{rights, true}
		st.pages = append(st.pages, page)
		if before, is := p[page-1]; is && before == rights {
			st.runs[len(st.runs)-1].N++
			continue
		}
		st.runs = append(st.runs, Run{page, 1, rights})
	}
	return st
}

func TestRunsAgainstASecondTelling(t *testing.T) {
	for seed := range uint64(150) {
		r := rand.New(rand.NewPCG(12, seed))
		base := []int{0, 100, 240}[seed%3]
		a, p := New(), telling{}
		for range 200 {
			a = step(t, r, base, a, p)
			checkState(t, "a run", a, p.state())
		}
	}
}

// step does one call, and the same to the telling, on few pages, so that rows
// meet; it answers the areas to go on with, which a clone may be.
func step(t *testing.T, r *rand.Rand, base int, a *Areas, p telling) *Areas {
	t.Helper()
	from, n, rights := base-1+r.IntN(18), r.IntN(7)-1, []int{0, 1, 3, 0, 1, 3, 2, 4, -1}[r.IntN(9)]
	switch r.IntN(8) {
	case 0, 1, 2:
		checkAdd(t, a, from, n, rights, p.add(from, n, rights))
	case 3, 4:
		checkCut(t, a, from, n, p.cut(from, n))
	case 5, 6:
		checkChange(t, a, from, n, rights, p.change(from, n, rights))
	default:
		c := a.Clone()
		a.Add(from, 1, 1)
		a.Cut(from, 1)
		return c
	}
	return a
}

// R5: the same calls on others of the kind answer the same.
func TestTheSameCallsAnswerTheSame(t *testing.T) {
	first := stateOf(busy(t))
	for round := range 20 {
		if got := stateOf(busy(t)); !same(got, first) {
			t.Errorf("round %d answers otherwise than the first: %v; want %v", round, got.runs, first.runs)
		}
	}
}

// R1: no call panics, at any numbers.
func TestNoCallPanics(t *testing.T) {
	some := append([]int{0, 1, 2, 3, 128, 254, 255, 256}, far...)
	for _, a := range []*Areas{New(), busy(t), whole(t, 3)} {
		for _, from := range some {
			a.Rights(from)
			for _, n := range some {
				for _, rights := range some {
					c := a.Clone()
					c.Add(from, n, rights)
					c.Change(from, n, rights)
					c.Cut(from, n)
					if c.List(); len(c.Pages()) > all {
						t.Fatalf("Pages() are more than there may be: %d, %d, %d", from, n, rights)
					}
				}
			}
		}
	}
}
