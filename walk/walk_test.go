package walk

import (
	"fmt"
	"math"
	"math/rand/v2"
	"slices"
	"testing"

	"penumbra/api"
	"penumbra/entry"
	"penumbra/mem"
)

// The memory that most tests walk through: page leads from root by the tables
// 2 and 3 to frame 4, over the entries at places.
const (
	frames = 6
	root   = 1
	page   = 0o123
)

var places = []int{8*1 + 1, 8*2 + 2, 8*3 + 3}

// good lists the entries at places, which allow everything; next the frames that they lead to.
var (
	good = []uint64{2<<12 | 7, 3<<12 | 7, 4<<12 | 7}
	next = []uint64{2, 3, 4}
)

func put(t *testing.T, m *mem.Memory, at int, x uint64) {
	t.Helper()
	if !m.Write(at, x) {
		t.Fatalf("Write(%d) = false", at)
	}
}

func laid(t *testing.T) *mem.Memory {
	t.Helper()
	m := mem.New(frames)
	for level, at := range places {
		put(t, m, at, good[level])
	}
	return m
}

// laidBut has another entry on one of the levels.
func laidBut(t *testing.T, level int, x uint64) *mem.Memory {
	t.Helper()
	m := laid(t)
	put(t, m, places[level], x)
	return m
}

func sameStep(a, b Step) bool {
	return slices.Equal(a.Places, b.Places) && a.Bits == b.Bits &&
		a.Write == b.Write && a.User == b.User && a.Global == b.Global && a.Frame == b.Frame
}

func checkTo(t *testing.T, m *mem.Memory, root, page int, want Step, fault int) {
	t.Helper()
	if s, f := To(m, root, page); f != fault || !sameStep(s, want) {
		t.Errorf("To(root %d, page %#o) = %+v, %d; want %+v, %d", root, page, s, f, want, fault)
	}
}

// blind is what Blind answers.
type blind struct {
	frame       int
	present, ok bool
	places      []int
}

func blindOf(m *mem.Memory, root, page int) blind {
	var b blind
	b.frame, b.present, b.ok, b.places = Blind(m, root, page)
	return b
}

func sameBlind(a, b blind) bool {
	return a.frame == b.frame && a.present == b.present && a.ok == b.ok && slices.Equal(a.places, b.places)
}

func checkBlind(t *testing.T, m *mem.Memory, root, page int, want blind) {
	t.Helper()
	if got := blindOf(m, root, page); !sameBlind(got, want) {
		t.Errorf("Blind(root %d, page %#o) = %+v; want %+v", root, page, got, want)
	}
}

// notForm lists the digits that an entry may not have.
func notForm() []int {
	var l []int
	for d := range 64 {
		if d != 0 && d != 1 && d != 2 && d != 8 && (d < 12 || d > 51) {
			l = append(l, d)
		}
	}
	return l
}

// badForm lists entries that are present, but of no form, whatever frame they name.
func badForm(frame uint64) []uint64 {
	l := []uint64{math.MaxUint64}
	for _, d := range notForm() {
		l = append(l, frame<<12|7|1<<d, frame<<12|1|1<<d)
	}
	return l
}

// notThere lists numbers of frames that entries can name and memory has not.
func notThere() []uint64 {
	return []uint64{frames, frames + 1, api.MaxFrames - 1, api.MaxFrames, 1 << 39, 1<<40 - 2, 1<<40 - 1}
}

// absent lists entries that are not present; in some of them the frame's digits are a frame.
func absent(frame uint64) []uint64 {
	return []uint64{
		0, frame << 12, frame<<12 | 6, frame<<12 | 0x106, frame<<12 | 0xfff0000000000ffe,
		entry.Absent(int(frame), false), entry.Absent(int(frame), true), math.MaxUint64 - 1,
	}
}

var (
	wrongPages = []int{math.MinInt, -api.Pages, -8, -1, api.Pages, api.Pages + 1, api.Pages + page, 1 << 40, math.MaxInt}
	wrongRoots = []int{math.MinInt, math.MinInt / 8, -8, -1, frames, frames + 1, api.MaxFrames, 1 << 61, math.MaxInt/8 + 1, math.MaxInt}
)

// P5.1

func TestIndexExample(t *testing.T) {
	if got := Index(8, 1); got != 1 {
		t.Errorf("Index(8, 1) = %d; want 1", got)
	}
}

func TestIndexIsThreeDigits(t *testing.T) {
	for p := range api.Pages {
		want := fmt.Sprintf("%03o", p)
		if got := fmt.Sprint(Index(p, 0)) + fmt.Sprint(Index(p, 1)) + fmt.Sprint(Index(p, 2)); got != want {
			t.Errorf("Index(%d, 0 to 2) = %s; want %s", p, got, want)
		}
	}
}

func TestIndexEdges(t *testing.T) {
	for _, r := range [][4]int{
		{0, 0, 0, 0}, {7, 0, 0, 7}, {8, 0, 1, 0}, {63, 0, 7, 7}, {64, 1, 0, 0}, {api.Pages - 1, 7, 7, 7},
		{api.UserPages - 1, 3, 7, 7}, {api.MapPage, 4, 0, 0}, {api.GatePage, 7, 0, 0},
	} {
		for level := range 3 {
			if got := Index(r[0], level); got != r[level+1] {
				t.Errorf("Index(%d, %d) = %d; want %d", r[0], level, got, r[level+1])
			}
		}
	}
}

func TestIndexNoSuch(t *testing.T) {
	wrongLevels := []int{math.MinInt, -2, -1, 3, 4, 1 << 40, math.MaxInt}
	for _, p := range wrongPages {
		for level := range 3 {
			if got := Index(p, level); got != -1 {
				t.Errorf("Index(%d, %d) = %d; want -1", p, level, got)
			}
		}
	}
	for _, level := range wrongLevels {
		for _, p := range append([]int{0, 8, page, api.Pages - 1}, wrongPages...) {
			if got := Index(p, level); got != -1 {
				t.Errorf("Index(%d, %d) = %d; want -1", p, level, got)
			}
		}
	}
}

func TestToComesThrough(t *testing.T) {
	m := laid(t)
	checkTo(t, m, root, page, Step{Places: places, Bits: good[2], Write: true, User: true, Frame: 4}, 0)
	put(t, m, places[2], 5<<12|0x105)
	checkTo(t, m, root, page, Step{Places: places, Bits: 5<<12 | 0x105, User: true, Global: true, Frame: 5}, 0)
}

// The two differ in their last digit alone.
func TestToSharesUpperTables(t *testing.T) {
	m := laid(t)
	put(t, m, 8*3+7, 5<<12|3)
	checkTo(t, m, root, page, Step{Places: []int{9, 18, 27}, Bits: 4<<12 | 7, Write: true, User: true, Frame: 4}, 0)
	checkTo(t, m, root, 0o127, Step{Places: []int{9, 18, 31}, Bits: 5<<12 | 3, Write: true, Frame: 5}, 0)
}

// Nothing keeps a table from being a table of another level as well.
func TestToOneTableForAllLevels(t *testing.T) {
	m := mem.New(3)
	for i := range 8 {
		put(t, m, 8*2+i, 2<<12|1)
	}
	checkTo(t, m, 2, 0o505, Step{Places: []int{21, 16, 21}, Bits: 2<<12 | 1, Frame: 2}, 0)
}

func TestToEachPage(t *testing.T) {
	for p := range api.Pages {
		m := mem.New(frames)
		want := []int{8*root + p/64, 8*2 + p/8%8, 8*3 + p%8}
		for level, at := range want {
			put(t, m, at, good[level])
		}
		checkTo(t, m, root, p, Step{Places: want, Bits: good[2], Write: true, User: true, Frame: 4}, 0)
		checkBlind(t, m, root, p, blind{4, true, true, want})
	}
}

// edges calls for frame 0 and the last one, of a small memory and of the greatest: each with each.
func edges(do func(n, a, b int)) {
	for _, n := range []int{frames, api.MaxFrames} {
		for _, a := range []int{0, n - 1} {
			for _, b := range []int{0, n - 1} {
				do(n, a, b)
			}
		}
	}
}

func checkThrough(t *testing.T, n, page int, through [4]int) {
	t.Helper()
	m := mem.New(n)
	at := []int{8*through[0] + page/64, 8*through[1] + page/8%8, 8*through[2] + page%8}
	for level := range at {
		put(t, m, at[level], uint64(through[level+1])<<12|1)
	}
	checkTo(t, m, through[0], page, Step{Places: at, Bits: uint64(through[3])<<12 | 1, Frame: through[3]}, 0)
	checkBlind(t, m, through[0], page, blind{through[3], true, true, at})
}

func TestToEdgeRootAndLast(t *testing.T) {
	edges(func(n, top, last int) {
		for _, p := range []int{0, page, api.Pages - 1} {
			checkThrough(t, n, p, [4]int{top, 2, 3, last})
		}
	})
}

func TestToEdgeTables(t *testing.T) {
	edges(func(n, one, two int) {
		checkThrough(t, n, page, [4]int{root, one, two, 4})
		checkThrough(t, n, page, [4]int{one, one, two, two})
	})
}

func TestToRights(t *testing.T) {
	for rights := range 64 {
		m := laid(t)
		want := Step{Places: places, Write: true, User: true, Frame: 4}
		for level := range 3 {
			bits := uint64(rights >> (2 * level) & 3)
			want.Bits = next[level]<<12 | 1 | bits<<1
			want.Write = want.Write && bits&1 != 0
			want.User = want.User && bits&2 != 0
			put(t, m, places[level], want.Bits)
		}
		checkTo(t, m, root, page, want, 0)
		checkBlind(t, m, root, page, blind{4, true, true, places})
	}
}

func TestToOneLevelForbids(t *testing.T) {
	for level := range 3 {
		want := Step{Places: places, Bits: good[2], User: true, Frame: 4}
		if level == 2 {
			want.Bits = 4<<12 | 5
		}
		checkTo(t, laidBut(t, level, next[level]<<12|5), root, page, want, 0)
		want.Write, want.User = true, false
		if level == 2 {
			want.Bits = 4<<12 | 3
		}
		checkTo(t, laidBut(t, level, next[level]<<12|3), root, page, want, 0)
	}
}

func TestToGlobalIsTheLastOnes(t *testing.T) {
	for set := range 8 {
		m := laid(t)
		want := Step{Places: places, Write: true, User: true, Frame: 4, Global: set&4 != 0}
		for level := range 3 {
			want.Bits = good[level] | uint64(set>>level&1)<<8
			put(t, m, places[level], want.Bits)
		}
		checkTo(t, m, root, page, want, 0)
	}
}

func TestToNotPresent(t *testing.T) {
	for level := range 3 {
		for _, x := range absent(next[level]) {
			checkTo(t, laidBut(t, level, x), root, page, Step{Places: places[:level+1], Bits: x}, api.FaultNone)
		}
	}
}

func TestToNoForm(t *testing.T) {
	if n := len(notForm()); n != 20 {
		t.Fatalf("%d digits may not be; want 20", n)
	}
	for level := range 3 {
		for _, x := range append(badForm(next[level]), badForm(frames)...) {
			checkTo(t, laidBut(t, level, x), root, page, Step{Places: places[:level+1], Bits: x}, api.FaultForm)
		}
	}
}

func TestToFrameNotThere(t *testing.T) {
	for level := range 3 {
		for _, f := range notThere() {
			for _, flags := range []uint64{1, 7, 0x107} {
				x := f<<12 | flags
				checkTo(t, laidBut(t, level, x), root, page, Step{Places: places[:level+1], Bits: x}, api.FaultForm)
			}
		}
	}
}

func TestToNoSuchPage(t *testing.T) {
	m := laid(t)
	for _, p := range wrongPages {
		checkTo(t, m, root, p, Step{}, api.FaultOutside)
	}
}

func TestToNoSuchRoot(t *testing.T) {
	m := laid(t)
	for _, r := range wrongRoots {
		for _, p := range []int{0, page, api.Pages - 1} {
			checkTo(t, m, r, p, Step{}, api.FaultForm)
		}
	}
	for _, r := range []int{-1, 0, 1} {
		checkTo(t, mem.New(0), r, page, Step{}, api.FaultForm)
	}
}

// The page is named ahead of the root.
func TestToPageComesFirst(t *testing.T) {
	m := laid(t)
	for _, r := range wrongRoots {
		for _, p := range wrongPages {
			checkTo(t, m, r, p, Step{}, api.FaultOutside)
		}
	}
}

// P5.2

func TestRight(t *testing.T) {
	for ways := range 16 {
		s := Step{User: ways&1 != 0, Write: ways&2 != 0}
		user, write := ways&4 != 0, ways&8 != 0
		want := 0
		switch {
		case user && !s.User:
			want = api.FaultRight
		case write && !s.Write:
			want = api.FaultRight
		}
		if got := Right(s, user, write); got != want {
			t.Errorf("Right(%+v, %v, %v) = %d; want %d", s, user, write, got, want)
		}
	}
}

func TestRightByHand(t *testing.T) {
	for _, r := range []struct {
		s           Step
		user, write bool
		want        int
	}{
		{Step{}, false, false, 0},
		{Step{}, true, false, api.FaultRight},
		{Step{}, false, true, api.FaultRight},
		{Step{User: true}, true, false, 0},
		{Step{User: true}, false, true, api.FaultRight},
		{Step{User: true}, true, true, api.FaultRight},
		{Step{Write: true}, true, false, api.FaultRight},
		{Step{Write: true}, false, true, 0},
		{Step{Write: true}, true, true, api.FaultRight},
		{Step{User: true, Write: true}, true, true, 0},
	} {
		if got := Right(r.s, r.user, r.write); got != r.want {
			t.Errorf("Right(%+v, %v, %v) = %d; want %d", r.s, r.user, r.write, got, r.want)
		}
	}
}

// What else a step says is not asked, its entry's own bits neither.
func TestRightLooksAtUserAndWriteAlone(t *testing.T) {
	full := Step{Places: []int{1, 2, 3}, Bits: 7, Global: true, Frame: 4}
	if Right(full, true, false) != api.FaultRight || Right(full, false, true) != api.FaultRight || Right(full, false, false) != 0 {
		t.Errorf("Right of %+v hangs on more than User and Write", full)
	}
	bare := Step{User: true, Write: true, Frame: -1}
	if got := Right(bare, true, true); got != 0 {
		t.Errorf("Right(%+v, true, true) = %d; want 0", bare, got)
	}
	if !slices.Equal(full.Places, []int{1, 2, 3}) {
		t.Errorf("Right has changed what it was handed: %v", full.Places)
	}
}

// P5.3

func TestBlindComesThrough(t *testing.T) {
	checkBlind(t, laid(t), root, page, blind{4, true, true, places})
}

func TestBlindNotPresentAbove(t *testing.T) {
	for level := range 2 {
		for _, x := range absent(next[level]) {
			checkBlind(t, laidBut(t, level, x), root, page, blind{places: places[:level+1]})
		}
	}
}

func TestBlindRefusedAbove(t *testing.T) {
	for level := range 2 {
		wrong := badForm(next[level])
		for _, f := range notThere() {
			wrong = append(wrong, f<<12|1, f<<12|7)
		}
		for _, x := range wrong {
			checkBlind(t, laidBut(t, level, x), root, page, blind{places: places[:level+1]})
		}
	}
}

// On the last level the digits lead on, whatever stands beside them, to any frame that there is.
func TestBlindNotPresentLeadsOn(t *testing.T) {
	for f := range frames {
		for _, x := range []uint64{0, 6, 0x106, 0xfff0000000000ffe} {
			checkBlind(t, laidBut(t, 2, uint64(f)<<12|x), root, page, blind{f, false, true, places})
		}
	}
}

func TestBlindNotPresentLeadsNowhere(t *testing.T) {
	for _, f := range notThere() {
		for _, x := range []uint64{0, 6, 0x106, 0xfff0000000000ffe} {
			checkBlind(t, laidBut(t, 2, f<<12|x), root, page, blind{places: places})
		}
	}
	checkBlind(t, laidBut(t, 2, math.MaxUint64-1), root, page, blind{places: places})
}

// Blind does not turn digits back: where they are turned it comes to nothing that there is.
func TestBlindTurned(t *testing.T) {
	for f := range api.MaxFrames {
		plain := blind{f, false, true, places}
		if f >= frames {
			plain = blind{places: places}
		}
		checkBlind(t, laidBut(t, 2, entry.Absent(f, false)), root, page, plain)
		checkBlind(t, laidBut(t, 2, entry.Absent(f, true)), root, page, blind{places: places})
		turnedTwice := int(1<<40 - 1 - uint64(f))
		checkBlind(t, laidBut(t, 2, entry.Absent(turnedTwice, true)), root, page, plain)
	}
}

// Digit 0 is 1: the digits of what Unpack refuses are not taken, though memory has that frame.
func TestBlindNoFormOnTheLast(t *testing.T) {
	for _, x := range badForm(4) {
		checkBlind(t, laidBut(t, 2, x), root, page, blind{places: places})
	}
}

// It Unpacks, but is not ok: present is not told beside a false.
func TestBlindPresentOfFrameNotThere(t *testing.T) {
	for _, f := range notThere() {
		checkBlind(t, laidBut(t, 2, f<<12|1), root, page, blind{places: places})
		checkBlind(t, laidBut(t, 2, f<<12|0x107), root, page, blind{places: places})
	}
}

func TestBlindNoSuch(t *testing.T) {
	m := laid(t)
	for _, p := range wrongPages {
		checkBlind(t, m, root, p, blind{})
		for _, r := range wrongRoots {
			checkBlind(t, m, r, p, blind{})
		}
	}
	for _, r := range wrongRoots {
		for _, p := range []int{0, page, api.Pages - 1} {
			checkBlind(t, m, r, p, blind{})
		}
	}
	checkBlind(t, mem.New(0), 0, page, blind{})
}

// R4, and what a walk leaves behind: nothing.

func TestListsAreNewMemory(t *testing.T) {
	for _, x := range []uint64{good[2], 5 << 12, 0} {
		m := laidBut(t, 2, x)
		s, _ := To(m, root, page)
		b := blindOf(m, root, page)
		for i := range s.Places {
			s.Places[i] = -7
		}
		if !slices.Equal(b.places, places) {
			t.Errorf("Blind shares its places with To: %v", b.places)
		}
		for i := range b.places {
			b.places[i] = -8
		}
		if again, _ := To(m, root, page); !slices.Equal(again.Places, places) {
			t.Errorf("To's places were kept: %v", again.Places)
		}
		if again := blindOf(m, root, page); !slices.Equal(again.places, places) {
			t.Errorf("Blind's places were kept: %v", again.places)
		}
	}
}

func sameMemory(a, b *mem.Memory) bool {
	if a.Frames() != b.Frames() {
		return false
	}
	for at := range a.Frames() * api.Words {
		x, _ := a.Read(at)
		if y, _ := b.Read(at); x != y {
			return false
		}
	}
	for f := range a.Frames() {
		if a.Class(f) != b.Class(f) || a.Owner(f) != b.Owner(f) {
			return false
		}
	}
	return true
}

func TestMemoryIsNotChanged(t *testing.T) {
	for level := range 3 {
		for _, x := range []uint64{good[level], next[level] << 12, next[level]<<12 | 9, frames<<12 | 7} {
			m := laidBut(t, level, x)
			for f := range frames {
				m.Mark(f, f%(api.None+1), f-1)
			}
			was := m.Clone()
			for _, p := range append([]int{0, page, api.Pages - 1}, wrongPages...) {
				for _, r := range append([]int{0, root, frames - 1}, wrongRoots...) {
					To(m, r, p)
					Blind(m, r, p)
				}
			}
			if !sameMemory(m, was) {
				t.Errorf("level %d, entry %#x: the memory has changed", level, x)
			}
		}
	}
}

// A second, plain telling: the digits by name, level after level written out.

func plainTo(m *mem.Memory, root, page int) (Step, int) {
	if page < 0 || page > 511 {
		return Step{}, api.FaultOutside
	}
	if root < 0 || root >= m.Frames() {
		return Step{}, api.FaultForm
	}
	const mayBe = 0x000ffffffffff107
	var s Step
	var read []uint64
	table := root
	for _, digit := range []int{page / 64, page / 8 % 8, page % 8} {
		x, _ := m.Read(8*table + digit)
		s.Places = append(s.Places, 8*table+digit)
		s.Bits = x
		read = append(read, x)
		if x%2 == 0 {
			return s, api.FaultNone
		}
		if x != x&mayBe || x>>12 >= uint64(m.Frames()) {
			return s, api.FaultForm
		}
		table = int(x >> 12)
	}
	all := read[0] & read[1] & read[2]
	s.Write, s.User, s.Global, s.Frame = all&2 != 0, all&4 != 0, read[2]&256 != 0, table
	return s, 0
}

func plainBlind(m *mem.Memory, root, page int) blind {
	s, fault := plainTo(m, root, page)
	b := blind{places: s.Places}
	digits := s.Bits << 12 >> 24
	switch {
	case fault == 0:
		b.frame, b.present, b.ok = s.Frame, true, true
	case len(s.Places) == 3 && s.Bits%2 == 0 && digits < uint64(m.Frames()):
		b.frame, b.ok = int(digits), true
	}
	return b
}

// strewn is a memory full of entries, most of which lead on.
func strewn(r *rand.Rand) *mem.Memory {
	m := mem.New(1 + r.IntN(api.MaxFrames))
	for at := range m.Frames() * api.Words {
		frame := uint64(r.IntN(m.Frames()))
		if r.IntN(20) == 0 {
			frame = uint64(r.IntN(2 * api.MaxFrames))
		}
		x := frame<<12 | 1 | uint64(r.IntN(4))<<1 | uint64(r.IntN(2))<<8
		switch r.IntN(16) {
		case 0:
			x = entry.Absent(int(frame), false)
		case 1:
			x = entry.Absent(int(frame), true)
		case 2:
			x--
		case 3:
			x ^= 1 << r.IntN(64)
		case 4:
			x = r.Uint64()
		}
		m.Write(at, x)
	}
	return m
}

func TestAgainstPlainTelling(t *testing.T) {
	r := rand.New(rand.NewPCG(5, 14))
	for range 60 {
		m := strewn(r)
		was := m.Clone()
		for root := -1; root <= m.Frames(); root++ {
			for p := -2; p <= api.Pages+1; p++ {
				want, fault := plainTo(m, root, p)
				checkTo(t, m, root, p, want, fault)
				checkBlind(t, m, root, p, plainBlind(m, root, p))
			}
		}
		if t.Failed() {
			t.FailNow()
		}
		if !sameMemory(m, was) {
			t.Fatal("the memory has changed")
		}
	}
}
