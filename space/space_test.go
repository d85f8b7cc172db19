package space

import (
	"maps"
	"math"
	"math/rand/v2"
	"slices"
	"testing"

	"penumbra/api"
	"penumbra/entry"
	"penumbra/mem"
	"penumbra/pool"
	"penumbra/walk"
)

// Digits of entries, as numbers, so that they are not package entry's own.
const (
	digitPresent = 1
	digitWrite   = 2
	digitUser    = 4
	digitGlobal  = 256
)

// state is all that can be asked of a memory.
type state struct {
	words [api.MaxFrames * api.Words]uint64
	class [api.MaxFrames]int
	owner [api.MaxFrames]int
}

func stateOf(m *mem.Memory) state {
	var s state
	for at := range s.words {
		s.words[at], _ = m.Read(at)
	}
	for f := range s.class {
		s.class[f] = m.Class(f)
		s.owner[f] = m.Owner(f)
	}
	return s
}

// checkState fails where anything but what is wanted has changed.
func checkState(t *testing.T, what string, m *mem.Memory, want state) {
	t.Helper()
	got := stateOf(m)
	if got == want {
		return
	}
	for f := range got.class {
		if got.class[f] != want.class[f] || got.owner[f] != want.owner[f] {
			t.Errorf("%s: frame %d: class %d, owner %d; want %d, %d", what, f,
				got.class[f], got.owner[f], want.class[f], want.owner[f])
		}
	}
	for at := range got.words {
		if got.words[at] != want.words[at] {
			t.Errorf("%s: word %d of frame %d: %#x; want %#x", what, at%8, at/8, got.words[at], want.words[at])
		}
	}
}

// dirty is a memory whose words and marks are all other than at first.
func dirty(frames int) *mem.Memory {
	m := mem.New(frames)
	for at := range frames * api.Words {
		m.Write(at, 1<<63|uint64(at))
	}
	for f := range frames {
		m.Mark(f, api.User, 1)
	}
	return m
}

// world is a booted memory and its pool.
type world struct {
	c api.Config
	m *mem.Memory
	p *pool.Pool
	f Fixed
}

func booted(t *testing.T, frames int, kpti bool) world {
	t.Helper()
	w := world{c: api.Config{Frames: frames, CPUs: 1, KPTI: kpti}, m: mem.New(frames)}
	f, ok := Boot(w.c, w.m)
	if !ok || f != (Fixed{Map: 3, Gate: 13}) {
		t.Fatalf("Boot(%+v) = %+v, %v; want {3 13}, true", w.c, f, ok)
	}
	w.f, w.p = f, pool.New(w.m)
	return w
}

func (w world) space(t *testing.T, owner int) *Space {
	t.Helper()
	s, ok := New(w.c, w.f, w.m, w.p, owner)
	if !ok || s == nil {
		t.Fatalf("New(.., %d) = %v, %v; want one, true", owner, s, ok)
	}
	return s
}

// leave takes frames till so many are left.
func (w world) leave(left int) {
	for w.p.Left() > left {
		w.p.Take(api.User, 9)
	}
}

func checkLeft(t *testing.T, w world, want int) {
	t.Helper()
	if got := w.p.Left(); got != want {
		t.Errorf("%d frames are left; want %d", got, want)
	}
}

func checkRoots(t *testing.T, s *Space, kernel, user int) {
	t.Helper()
	if k, u := s.Roots(); k != kernel || u != user {
		t.Errorf("Roots() = %d, %d; want %d, %d", k, u, kernel, user)
	}
}

func checkNeed(t *testing.T, s *Space, want int, pages ...int) {
	t.Helper()
	if got := s.Need(pages...); got != want {
		t.Errorf("Need(%v) = %d; want %d", pages, got, want)
	}
}

func checkSet(t *testing.T, s *Space, page int, x uint64, want bool) {
	t.Helper()
	if got := s.Set(page, x); got != want {
		t.Errorf("Set(%d, %#x) = %v; want %v", page, x, got, want)
	}
}

func checkGet(t *testing.T, s *Space, page int, want uint64) {
	t.Helper()
	if got := s.Get(page); got != want {
		t.Errorf("Get(%d) = %#x; want %#x", page, got, want)
	}
}

func checkTables(t *testing.T, s *Space, want ...int) {
	t.Helper()
	if got := s.Tables(); !slices.Equal(got, want) {
		t.Errorf("Tables() = %v; want %v", got, want)
	}
}

// checkWord fails where a word of a frame is not this one.
func checkWord(t *testing.T, m *mem.Memory, frame, i int, want uint64) {
	t.Helper()
	if got, ok := m.Read(8*frame + i); !ok || got != want {
		t.Errorf("word %d of frame %d: %#x, %v; want %#x", i, frame, got, ok, want)
	}
}

// P9.1: Boot

// bootOf is a second telling of what Boot does to a memory.
func bootOf(was state, c api.Config) state {
	class := [15]int{5, 4, 4, 1, 1, 1, 1, 1, 1, 1, 1, 1, 3, 1, 1}
	for f, k := range class {
		was.class[f], was.owner[f] = k, -1
	}
	global := uint64(digitGlobal)
	if c.KPTI {
		global = 0
	}
	for j := range 8 {
		was.words[8*3+j] = uint64(4+j)<<12 | digitPresent | digitWrite
		for k := range 8 {
			if 8*j+k < c.Frames {
				was.words[8*(4+j)+k] = uint64(8*j+k)<<12 | digitPresent | digitWrite | global
			}
		}
	}
	was.words[8*13] = 14<<12 | digitPresent | digitWrite | digitUser
	was.words[8*14] = 12<<12 | digitPresent | digitUser | digitGlobal
	return was
}

func TestBootWords(t *testing.T) {
	for frames := 24; frames <= api.MaxFrames; frames++ {
		for cpus := 1; cpus <= 2; cpus++ {
			for bits := range 4 {
				c := api.Config{Frames: frames, CPUs: cpus, KPTI: bits&1 != 0, Invert: bits&2 != 0}
				m := mem.New(frames)
				want := bootOf(stateOf(m), c)
				if f, ok := Boot(c, m); !ok || f != (Fixed{Map: 3, Gate: 13}) {
					t.Errorf("Boot(%+v) = %+v, %v; want {3 13}, true", c, f, ok)
				}
				checkState(t, "Boot", m, want)
			}
		}
	}
}

// A few of the words, written out.
func TestBootWordsOf24(t *testing.T) {
	for _, kpti := range []bool{false, true} {
		m := booted(t, 24, kpti).m
		global := uint64(0x100)
		if kpti {
			global = 0
		}
		for i := range 8 {
			checkWord(t, m, 0, i, 0)
			checkWord(t, m, 1, i, 0)
			checkWord(t, m, 12, i, 0)
			checkWord(t, m, 15, i, 0)
			checkWord(t, m, 7, i, 0)
			checkWord(t, m, 11, i, 0)
		}
		checkWord(t, m, 3, 0, 0x4003)
		checkWord(t, m, 3, 7, 0xb003)
		checkWord(t, m, 4, 0, 0x0003|global)
		checkWord(t, m, 6, 7, 0x17003|global)
		checkWord(t, m, 13, 0, 0xe007)
		checkWord(t, m, 13, 1, 0)
		checkWord(t, m, 14, 0, 0xc105)
		checkWord(t, m, 14, 7, 0)
	}
}

// What Boot does not name stays: words of secrets may have been written ahead.
func TestBootOfUsedMemory(t *testing.T) {
	for _, kpti := range []bool{false, true} {
		for _, frames := range []int{24, 30, api.MaxFrames} {
			c := api.Config{Frames: frames, CPUs: 2, KPTI: kpti}
			m := dirty(frames)
			want := bootOf(stateOf(m), c)
			if _, ok := Boot(c, m); !ok {
				t.Errorf("Boot(%+v) = false", c)
			}
			checkState(t, "Boot", m, want)
			if _, ok := Boot(c, m); !ok {
				t.Errorf("Boot(%+v) once more = false", c)
			}
			checkState(t, "Boot once more", m, want)
		}
	}
}

func TestBootRefuses(t *testing.T) {
	for _, r := range []struct {
		name           string
		frames, in, on int
	}{
		{"no frames", 0, 0, 1},
		{"too few", 23, 23, 1},
		{"too many", 65, api.MaxFrames, 1},
		{"too many", 65, 65, 2},
		{"less than the memory's", 24, 25, 1},
		{"more than the memory's", 25, 24, 1},
		{"another memory", api.MaxFrames, 24, 2},
		{"another memory", 24, 0, 2},
		{"below 0", -24, 24, 1},
		{"the least", math.MinInt, 24, 1},
		{"the most", math.MaxInt, api.MaxFrames, 1},
		{"no CPU", 24, 24, 0},
		{"three CPUs", 24, 24, 3},
		{"fewer CPUs than none", 24, 24, -1},
		{"the fewest CPUs", 24, 24, math.MinInt},
		{"the most CPUs", api.MaxFrames, api.MaxFrames, math.MaxInt},
	} {
		for _, kpti := range []bool{false, true} {
			c := api.Config{Frames: r.frames, CPUs: r.on, KPTI: kpti}
			m := dirty(min(max(r.in, 0), api.MaxFrames))
			was := stateOf(m)
			if f, ok := Boot(c, m); ok || f != (Fixed{}) {
				t.Errorf("%s: Boot(%+v) of %d frames = %+v, %v; want {0 0}, false", r.name, c, r.in, f, ok)
			}
			checkState(t, r.name, m, was)
		}
	}
}

// P9.2: New, Roots

// rootsOf is a second telling of what New does to a memory.
func rootsOf(was state, owner, kernel, user int) state {
	for _, root := range []int{kernel, user} {
		was.class[root], was.owner[root] = api.Table, owner
		was.words[8*root+7] = 13<<12 | digitPresent | digitWrite | digitUser
	}
	was.words[8*kernel+4] = 3<<12 | digitPresent | digitWrite
	return was
}

func TestNewRoots(t *testing.T) {
	for _, frames := range []int{24, 40, api.MaxFrames} {
		for _, owner := range []int{0, 3, -1, math.MinInt, math.MaxInt} {
			w := booted(t, frames, true)
			want := rootsOf(stateOf(w.m), owner, 15, 16)
			s := w.space(t, owner)
			checkRoots(t, s, 15, 16)
			checkTables(t, s, 15, 16)
			checkLeft(t, w, frames-17)
			checkState(t, "New with KPTI", w.m, want)

			w = booted(t, frames, false)
			want = rootsOf(stateOf(w.m), owner, 15, 15)
			s = w.space(t, owner)
			checkRoots(t, s, 15, 15)
			checkTables(t, s, 15)
			checkLeft(t, w, frames-16)
			checkState(t, "New without KPTI", w.m, want)
		}
	}
}

func TestNewEntriesWrittenOut(t *testing.T) {
	for _, kpti := range []bool{false, true} {
		w := booted(t, 24, kpti)
		kernel, user := w.space(t, 0).Roots()
		checkWord(t, w.m, kernel, 4, 0x3003)
		checkWord(t, w.m, kernel, 7, 0xd007)
		checkWord(t, w.m, user, 7, 0xd007)
		want := uint64(0x3003)
		if kpti {
			want = 0
		}
		checkWord(t, w.m, user, 4, want)
	}
}

// The tables are those of Fixed, whichever they are.
func TestNewOfOtherFixed(t *testing.T) {
	for _, kpti := range []bool{false, true} {
		w := booted(t, 24, kpti)
		w.f = Fixed{Map: 20, Gate: 21}
		kernel, user := w.space(t, 0).Roots()
		checkWord(t, w.m, kernel, 4, 0x14003)
		checkWord(t, w.m, kernel, 7, 0x15007)
		checkWord(t, w.m, user, 7, 0x15007)
	}
}

// What is no frame leads nowhere.
func TestNewOfNoFixed(t *testing.T) {
	for _, f := range []int{-1, math.MinInt, math.MaxInt, 1 << 40} {
		w := booted(t, 24, true)
		w.f = Fixed{Map: f, Gate: f}
		kernel, user := w.space(t, 0).Roots()
		checkWord(t, w.m, kernel, 4, 0)
		checkWord(t, w.m, kernel, 7, 0)
		checkWord(t, w.m, user, 7, 0)
	}
}

func TestNewWhereFramesAreFew(t *testing.T) {
	for _, r := range []struct {
		kpti bool
		left int
		want bool
	}{
		{false, 0, false}, {false, 1, true}, {false, 2, true},
		{true, 0, false}, {true, 1, false}, {true, 2, true}, {true, 3, true},
	} {
		w := booted(t, 24, r.kpti)
		w.leave(r.left)
		was := stateOf(w.m)
		s, ok := New(w.c, w.f, w.m, w.p, 0)
		if ok != r.want || (s != nil) != r.want {
			t.Errorf("New where %d are left, KPTI %v = %v, %v; want %v", r.left, r.kpti, s, ok, r.want)
		}
		if r.want {
			continue
		}
		checkState(t, "New where frames are few", w.m, was)
		checkLeft(t, w, r.left)
	}
}

// The least frames are taken, the kernel's root first.
func TestNewTakesTheLeast(t *testing.T) {
	w := booted(t, 24, true)
	w.leave(0)
	w.p.Give(22)
	w.p.Give(17)
	s := w.space(t, 1)
	checkRoots(t, s, 17, 22)
	checkTables(t, s, 17, 22)
}

// What a walk sees: the map is the kernel's, the gate everybody's.
func TestNewWalks(t *testing.T) {
	for _, kpti := range []bool{false, true} {
		w := booted(t, 30, kpti)
		kernel, user := w.space(t, 0).Roots()
		for f := range api.MaxFrames {
			s, fault := walk.To(w.m, kernel, api.MapPage+f)
			if there := f < 30; (fault == 0) != there || there && (s.Frame != f || s.User || !s.Write || s.Global == kpti) {
				t.Errorf("walk to the map's frame %d: %+v, %d", f, s, fault)
			}
			if _, fault := walk.To(w.m, user, api.MapPage+f); kpti && fault != api.FaultNone {
				t.Errorf("walk of a user root to the map's frame %d: %d", f, fault)
			}
		}
		for _, root := range []int{kernel, user} {
			s, fault := walk.To(w.m, root, api.GatePage)
			if fault != 0 || s.Frame != 12 || !s.User || s.Write || !s.Global {
				t.Errorf("walk to the gate: %+v, %d", s, fault)
			}
		}
	}
}

// P9.3: Need

func TestNeedExample(t *testing.T) {
	for _, kpti := range []bool{false, true} {
		checkNeed(t, booted(t, 24, kpti).space(t, 0), 2, 0)
	}
}

func TestNeed(t *testing.T) {
	w := booted(t, 24, true)
	s := w.space(t, 0)
	all := make([]int, 600)
	for i := range all {
		all[i] = 400 - i
	}
	for _, r := range []struct {
		pages []int
		want  int
	}{
		{nil, 0},
		{[]int{}, 0},
		{[]int{0}, 2},
		{[]int{255}, 2},
		{[]int{0, 0}, 2},
		{[]int{0, 7}, 2},
		{[]int{7, 8}, 3},
		{[]int{0, 63}, 3},
		{[]int{63, 64}, 4},
		{[]int{0, 64, 128, 192}, 8},
		{[]int{8, 72}, 4},
		{[]int{72, 8, 72, 9, 79, 65}, 5},
		{[]int{-1}, 0},
		{[]int{256}, 0},
		{[]int{api.GatePage}, 0},
		{[]int{api.Pages}, 0},
		{[]int{math.MinInt, math.MaxInt}, 0},
		{[]int{-1, 0, 256, 1, api.MapPage + 1}, 2},
		{all, 36},
	} {
		was := slices.Clone(r.pages)
		checkNeed(t, s, r.want, r.pages...)
		if !slices.Equal(r.pages, was) {
			t.Errorf("Need changed its pages %v to %v", was, r.pages)
		}
	}
}

func TestNeedTakesNothing(t *testing.T) {
	w := booted(t, 24, true)
	s := w.space(t, 0)
	was := stateOf(w.m)
	for range 3 {
		checkNeed(t, s, 4, 0, 255)
	}
	checkState(t, "Need", w.m, was)
	checkTables(t, s, 15, 16)
}

// What is there needs nothing, whatever its entry is.
func TestNeedBehindSet(t *testing.T) {
	w := booted(t, 40, false)
	s := w.space(t, 0)
	checkSet(t, s, 9, 5, true)
	checkNeed(t, s, 0, 9)
	checkNeed(t, s, 0, 8, 15)
	checkNeed(t, s, 1, 7)
	checkNeed(t, s, 1, 16, 9, 17)
	checkNeed(t, s, 2, 64)
	checkNeed(t, s, 3, 9, 63, 64)
	checkSet(t, s, 9, 0, true)
	checkNeed(t, s, 0, 9)
}

// Need asks how many would have to be taken, not how many can be.
func TestNeedWhereNothingIsLeft(t *testing.T) {
	w := booted(t, 24, true)
	s := w.space(t, 0)
	w.leave(0)
	checkNeed(t, s, 8, 0, 64, 128, 192)
}

func TestNeedReadsNoMoreThanItsPages(t *testing.T) {
	s := booted(t, 24, true).space(t, 0)
	l := []int{0, 64, 128}
	checkNeed(t, s, 2, l[:1]...)
	checkNeed(t, s, 0, l[:0]...)
	if !slices.Equal(l, []int{0, 64, 128}) {
		t.Errorf("Need changed what lies behind its pages: %v", l)
	}
}

// P9.3: Set, Get

func TestSetTakesTheUpperOneFirst(t *testing.T) {
	for _, kpti := range []bool{false, true} {
		w := booted(t, 24, kpti)
		s := w.space(t, 2)
		kernel, user := s.Roots()
		want := stateOf(w.m)
		up, low := user+1, user+2
		for _, f := range []int{up, low} {
			want.class[f], want.owner[f] = api.Table, 2
		}
		want.words[8*kernel+1] = uint64(up)<<12 | digitPresent | digitWrite | digitUser
		want.words[8*user+1] = want.words[8*kernel+1]
		want.words[8*up+2] = uint64(low)<<12 | digitPresent | digitWrite | digitUser
		want.words[8*low+3] = 0xfedc
		checkSet(t, s, 64+16+3, 0xfedc, true)
		checkState(t, "Set", w.m, want)
		checkGet(t, s, 64+16+3, 0xfedc)
	}
}

func TestSetTwiceTakesOnce(t *testing.T) {
	for _, kpti := range []bool{false, true} {
		w := booted(t, 24, kpti)
		s := w.space(t, 0)
		left := w.p.Left()
		checkSet(t, s, 9, 1, true)
		checkLeft(t, w, left-2)
		checkSet(t, s, 9, math.MaxUint64, true)
		checkGet(t, s, 9, math.MaxUint64)
		checkSet(t, s, 15, 7, true)
		checkLeft(t, w, left-2)
		checkSet(t, s, 16, 8, true)
		checkLeft(t, w, left-3)
		checkSet(t, s, 64, 9, true)
		checkLeft(t, w, left-5)
		for page, x := range map[int]uint64{9: math.MaxUint64, 15: 7, 16: 8, 64: 9, 8: 0, 17: 0, 0: 0, 73: 0, 255: 0} {
			checkGet(t, s, page, x)
		}
		checkSet(t, s, 9, 0, true)
		checkGet(t, s, 9, 0)
		checkGet(t, s, 15, 7)
		checkLeft(t, w, left-5)
	}
}

// The first and the last user page, and those beside them.
func TestSetAtTheEdges(t *testing.T) {
	w := booted(t, 24, true)
	s := w.space(t, 0)
	checkSet(t, s, 0, 11, true)
	checkSet(t, s, api.UserPages-1, 12, true)
	was := stateOf(w.m)
	for _, page := range []int{-1, -8, -64, api.UserPages, api.MapPage + 3, api.GatePage, api.Pages - 1, api.Pages,
		api.Pages + 1, math.MinInt, math.MaxInt} {
		checkSet(t, s, page, 13, false)
		checkGet(t, s, page, 0)
	}
	checkState(t, "Set of no user page", w.m, was)
	checkGet(t, s, 0, 11)
	checkGet(t, s, api.UserPages-1, 12)
	checkTables(t, s, 15, 16, 17, 18, 19, 20)
}

func TestSetOfEachPage(t *testing.T) {
	for _, kpti := range []bool{false, true} {
		w := booted(t, api.MaxFrames, kpti)
		s := w.space(t, 0)
		for page := range api.UserPages {
			checkSet(t, s, page, uint64(1000+page), true)
		}
		for page := range api.UserPages {
			checkGet(t, s, page, uint64(1000+page))
		}
		_, user := s.Roots()
		if got := len(s.Tables()); got != user-14+36 {
			t.Errorf("%d tables; want the roots and 36", got)
		}
		checkWalks(t, w, s)
	}
}

// checkWalks fails where a walk from either root does not come to each user
// page's entry.
func checkWalks(t *testing.T, w world, s *Space) {
	t.Helper()
	kernel, user := s.Roots()
	for page := range api.UserPages {
		a, f := walk.To(w.m, kernel, page)
		b, g := walk.To(w.m, user, page)
		if f != g || a.Bits != b.Bits || !slices.Equal(a.Places[1:], b.Places[1:]) {
			t.Errorf("page %d: %+v, %d of the kernel's root; %+v, %d of the user's", page, a, f, b, g)
		}
		if len(a.Places) == 3 && a.Bits != s.Get(page) {
			t.Errorf("page %d: a walk finds %#x; Get %#x", page, a.Bits, s.Get(page))
		}
		if there := s.Need(page) == 0; there != (len(a.Places) == 3) {
			t.Errorf("page %d: its table is there: %v; the walk went over %v", page, there, a.Places)
		}
	}
}

// The upper tables forbid nothing: what the last entry allows is allowed.
func TestSetWalks(t *testing.T) {
	for _, kpti := range []bool{false, true} {
		w := booted(t, 24, kpti)
		s := w.space(t, 0)
		for i, e := range []entry.Entry{
			{Present: true, Frame: 20},
			{Present: true, User: true, Frame: 21},
			{Present: true, User: true, Write: true, Frame: 22},
		} {
			x, _ := entry.Pack(e)
			checkSet(t, s, 70+i, x, true)
			kernel, user := s.Roots()
			for _, root := range []int{kernel, user} {
				at, fault := walk.To(w.m, root, 70+i)
				if fault != 0 || at.Frame != e.Frame || at.User != e.User || at.Write != e.Write {
					t.Errorf("walk to %+v: %+v, %d", e, at, fault)
				}
			}
		}
	}
}

func TestSetWhereFramesAreFew(t *testing.T) {
	for _, r := range []struct {
		name       string
		page, left int
		want       bool
	}{
		{"both are needed, none is left", 64, 0, false},
		{"both are needed, one is left", 64, 1, false},
		{"both are needed, both are left", 64, 2, true},
		{"the last one is needed, none is left", 16, 0, false},
		{"the last one is needed, one is left", 16, 1, true},
		{"none is needed, none is left", 15, 0, true},
		{"no user page, none is needed", 256, 2, false},
	} {
		for _, kpti := range []bool{false, true} {
			w := booted(t, 24, kpti)
			s := w.space(t, 0)
			checkSet(t, s, 9, 77, true)
			w.leave(r.left)
			was, tables, need := stateOf(w.m), s.Tables(), s.Need(r.page)
			if got := s.Set(r.page, 5); got != r.want {
				t.Errorf("%s: Set(%d, 5) = %v; want %v", r.name, r.page, got, r.want)
			}
			if r.want {
				checkGet(t, s, r.page, 5)
				checkLeft(t, w, r.left-need)
				continue
			}
			checkState(t, r.name, w.m, was)
			checkLeft(t, w, r.left)
			checkTables(t, s, tables...)
			checkNeed(t, s, need, r.page)
			checkGet(t, s, r.page, 0)
		}
	}
}

// What could not be set can be as soon as there are frames.
func TestSetOnceFramesAreBack(t *testing.T) {
	w := booted(t, 24, true)
	s := w.space(t, 0)
	w.leave(1)
	checkSet(t, s, 0, 5, false)
	w.p.Give(20)
	checkSet(t, s, 0, 5, true)
	checkGet(t, s, 0, 5)
	checkTables(t, s, 15, 16, 20, 23)
}

// Get reads memory: an entry that another wrote there is the entry.
func TestGetReadsMemory(t *testing.T) {
	w := booted(t, 24, false)
	s := w.space(t, 0)
	checkSet(t, s, 1, 5, true)
	w.m.Write(8*17+1, 6)
	checkGet(t, s, 1, 6)
}

// Where there is no table, no frame's word is taken for an entry.
func TestGetWhereThereIsNoTable(t *testing.T) {
	w := booted(t, 24, true)
	for at := range api.Words {
		w.m.Write(at, math.MaxUint64)
	}
	s := w.space(t, 0)
	checkSet(t, s, 8, 5, true)
	for _, page := range []int{0, 7, 16, 63, 64, 255} {
		checkGet(t, s, page, 0)
	}
}

// P9.3: Tables, Drop

func TestTablesRise(t *testing.T) {
	w := booted(t, api.MaxFrames, true)
	w.leave(0)
	for _, f := range []int{40, 30} {
		w.p.Give(f)
	}
	s := w.space(t, 0)
	checkRoots(t, s, 30, 40)
	for _, f := range []int{60, 50} {
		w.p.Give(f)
	}
	checkSet(t, s, 200, 1, true)
	for _, f := range []int{20, 25} {
		w.p.Give(f)
	}
	checkSet(t, s, 100, 1, true)
	w.p.Give(15)
	checkSet(t, s, 208, 1, true)
	checkTables(t, s, 15, 20, 25, 30, 40, 50, 60)
}

func TestTablesAreNew(t *testing.T) {
	s := booted(t, 24, true).space(t, 0)
	l := s.Tables()
	l[0], l[1] = 99, 98
	_ = append(l[:1], 97)
	checkTables(t, s, 15, 16)
}

func TestDropGivesAllBack(t *testing.T) {
	for _, kpti := range []bool{false, true} {
		w := booted(t, 30, kpti)
		was := stateOf(w.m)
		s := w.space(t, 3)
		for _, page := range []int{0, 8, 64, 255} {
			checkSet(t, s, page, math.MaxUint64, true)
		}
		s.Drop()
		checkState(t, "Drop", w.m, was)
		checkLeft(t, w, 15)
		checkTables(t, s)
	}
}

// Frames of a space that is gone are had again, with no word of it.
func TestDropAndTakeAgain(t *testing.T) {
	w := booted(t, 24, true)
	s := w.space(t, 0)
	checkSet(t, s, 0, 9, true)
	first := stateOf(w.m)
	s.Drop()
	o := w.space(t, 0)
	checkSet(t, o, 0, 9, true)
	checkState(t, "once more", w.m, first)
	checkTables(t, o, 15, 16, 17, 18)
	checkGet(t, o, 1, 0)
}

// A dropped space has no frames: it neither writes to what another has now nor
// gives that back.
func TestDroppedLeavesOthersAlone(t *testing.T) {
	w := booted(t, 24, true)
	s := w.space(t, 0)
	checkSet(t, s, 0, 9, true)
	s.Drop()
	o := w.space(t, 1)
	checkSet(t, o, 0, 10, true)
	was := stateOf(w.m)
	s.Drop()
	checkSet(t, s, 0, 11, false)
	checkSet(t, s, 70, 11, false)
	checkGet(t, s, 0, 0)
	checkNeed(t, s, 0, 0, 70)
	checkRoots(t, s, 0, 0)
	checkTables(t, s)
	checkState(t, "a dropped space", w.m, was)
	checkGet(t, o, 0, 10)
}

// A table with a reference more than the space's own stays.
func TestDropGivesOneReference(t *testing.T) {
	w := booted(t, 24, false)
	s := w.space(t, 0)
	w.p.Share(15)
	s.Drop()
	if got := w.p.Refs(15); got != 1 {
		t.Errorf("%d references to 15; want 1", got)
	}
}

func TestTwoSpaces(t *testing.T) {
	for _, kpti := range []bool{false, true} {
		w := booted(t, 40, kpti)
		a, b := w.space(t, 0), w.space(t, 1)
		checkSet(t, a, 5, 50, true)
		checkNeed(t, b, 2, 5)
		checkGet(t, b, 5, 0)
		checkSet(t, b, 5, 51, true)
		checkSet(t, b, 200, 52, true)
		checkGet(t, a, 5, 50)
		checkGet(t, b, 5, 51)
		checkGet(t, a, 200, 0)
		for _, f := range a.Tables() {
			if slices.Contains(b.Tables(), f) || w.m.Owner(f) != 0 {
				t.Errorf("frame %d is of owner %d, and of both spaces", f, w.m.Owner(f))
			}
		}
		checkWalks(t, w, a)
		checkWalks(t, w, b)
		tables := b.Tables()
		a.Drop()
		checkGet(t, b, 5, 51)
		checkTables(t, b, tables...)
		checkLeft(t, w, 25-len(tables))
	}
}

// R1: no call panics, whatever it is given.
func TestNoCallPanics(t *testing.T) {
	odd := []int{math.MinInt, -257, -1, 0, 1, 2, 3, 23, 24, 64, 65, 255, 256, 512, 1 << 40, math.MaxInt}
	for _, frames := range odd {
		for _, cpus := range odd {
			for _, in := range []int{0, 1, 15, 16, 24, 64} {
				Boot(api.Config{Frames: frames, CPUs: cpus}, mem.New(in))
			}
		}
		for _, kpti := range []bool{false, true} {
			m := mem.New(frames)
			p := pool.New(m)
			s, ok := New(api.Config{KPTI: kpti}, Fixed{Map: frames, Gate: -frames}, m, p, frames)
			if !ok {
				continue
			}
			for _, page := range odd {
				s.Need(page, -page)
				s.Set(page, uint64(page))
				s.Get(page)
			}
			s.Tables()
			s.Drop()
		}
	}
}

// R1: a pool of another memory has frames that this one has not.
func TestPoolOfAnotherMemory(t *testing.T) {
	w := booted(t, 24, true)
	m := mem.New(16)
	s, ok := New(w.c, w.f, m, w.p, 0)
	if !ok {
		t.Fatal("New = false")
	}
	s.Set(0, 1)
	checkTables(t, s, 15, 16, 17, 18)
	s.Drop()
	checkLeft(t, w, 9)
}

// A second, plain telling: what there is at a place in the tree goes by a name
// of two numbers, the roots' first one below 0.

type spot struct{ i, j int }

type telling struct {
	owner int
	kpti  bool
	took  map[spot]int
}

// least takes the least frame that is free, as the pool does.
func (a *telling) least(s *state, frames int, at spot) {
	for f := 15; f < frames; f++ {
		if s.class[f] == api.Free {
			s.class[f], s.owner[f] = api.Table, a.owner
			a.took[at] = f
			return
		}
	}
}

func (a *telling) missing(pages []int) map[spot]int {
	l := map[spot]int{}
	for _, page := range pages {
		if page < 0 || page > 255 {
			continue
		}
		for _, at := range []spot{{page / 64, -1}, {page / 64, page / 8 % 8}} {
			if _, ok := a.took[at]; !ok {
				l[at] = 1
			}
		}
	}
	return l
}

func (a *telling) set(s *state, frames, page int, x uint64) bool {
	left := 0
	for f := 15; f < frames; f++ {
		if s.class[f] == api.Free {
			left++
		}
	}
	l := a.missing([]int{page})
	if page < 0 || page > 255 || len(l) > left {
		return false
	}
	up, low := spot{page / 64, -1}, spot{page / 64, page / 8 % 8}
	for _, at := range []spot{up, low} {
		if l[at] == 1 {
			a.least(s, frames, at)
		}
	}
	for _, r := range []spot{{-1, 0}, {-1, 1}} {
		if root, ok := a.took[r]; ok {
			s.words[8*root+page/64] = uint64(a.took[up])<<12 | 7
		}
	}
	s.words[8*a.took[up]+page/8%8] = uint64(a.took[low])<<12 | 7
	s.words[8*a.took[low]+page%8] = x
	return true
}

func (a *telling) get(s *state, page int) uint64 {
	if page < 0 || page > 255 || len(a.missing([]int{page})) > 0 {
		return 0
	}
	return s.words[8*a.took[spot{page / 64, page / 8 % 8}]+page%8]
}

func (a *telling) tables() []int {
	return slices.Sorted(maps.Values(a.took))
}

func (a *telling) make(s *state, frames int) {
	a.took = map[spot]int{}
	a.least(s, frames, spot{-1, 0})
	k := a.took[spot{-1, 0}]
	u := k
	if a.kpti {
		a.least(s, frames, spot{-1, 1})
		u = a.took[spot{-1, 1}]
	}
	*s = rootsOf(*s, a.owner, k, u)
}

func (a *telling) drop(s *state) {
	for _, f := range a.took {
		s.class[f], s.owner[f] = api.Free, -1
		copy(s.words[8*f:8*f+8], make([]uint64, 8))
	}
}

// Two spaces of one memory go through many calls, each as it is told.
func TestRunsAsTold(t *testing.T) {
	r := rand.New(rand.NewPCG(9, 3))
	for range 200 {
		frames := 24 + r.IntN(41)
		w := booted(t, frames, r.IntN(2) == 0)
		now := stateOf(w.m)
		spaces := make([]*Space, 2)
		told := make([]telling, 2)
		for i := range spaces {
			spaces[i] = w.space(t, i)
			told[i] = telling{owner: i, kpti: w.c.KPTI}
			told[i].make(&now, frames)
		}
		near := 1 + r.IntN(300)
		for range 60 {
			i := r.IntN(2)
			s, a := spaces[i], &told[i]
			page, x := r.IntN(near+10)-5, r.Uint64()
			switch r.IntN(8) {
			case 0:
				s.Drop()
				a.drop(&now)
				spaces[i] = w.space(t, i)
				a.make(&now, frames)
			case 1, 2:
				pages := []int{page, r.IntN(300), r.IntN(300), page + 1}[:r.IntN(5)]
				checkNeed(t, s, len(a.missing(pages)), pages...)
			default:
				checkSet(t, s, page, x, a.set(&now, frames, page, x))
			}
			checkGet(t, spaces[i], page, a.get(&now, page))
			checkTables(t, spaces[i], a.tables()...)
			checkState(t, "a run", w.m, now)
			if t.Failed() {
				return
			}
		}
	}
}
