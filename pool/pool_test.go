package pool

import (
	"math"
	"testing"

	"penumbra/api"
	"penumbra/mem"
)

// state is all that can be asked of a pool and of its memory.
type state struct {
	left  int
	refs  [api.MaxFrames]int
	words [api.MaxFrames * api.Words]uint64
	class [api.MaxFrames]int
	owner [api.MaxFrames]int
}

func stateOf(m *mem.Memory, p *Pool) state {
	s := state{left: p.Left()}
	for at := range s.words {
		s.words[at], _ = m.Read(at)
	}
	for f := range s.class {
		s.refs[f] = p.Refs(f)
		s.class[f] = m.Class(f)
		s.owner[f] = m.Owner(f)
	}
	return s
}

func made(frames int) (*mem.Memory, *Pool) {
	m := mem.New(frames)
	return m, New(m)
}

// fill writes into all words of a frame.
func fill(t *testing.T, m *mem.Memory, frame int) {
	t.Helper()
	for o := range api.Words {
		if !m.Write(frame*api.Words+o, 1<<63|uint64(o+1)) {
			t.Fatalf("no word %d of frame %d", o, frame)
		}
	}
}

// checkTake fails where Take does not answer this frame.
func checkTake(t *testing.T, p *Pool, class, owner, want int) {
	t.Helper()
	if f, ok := p.Take(class, owner); f != want || !ok {
		t.Errorf("Take(%d, %d) = %d, %v; want %d, true", class, owner, f, ok, want)
	}
}

func checkNone(t *testing.T, p *Pool, class int) {
	t.Helper()
	if f, ok := p.Take(class, 0); f != 0 || ok {
		t.Errorf("Take(%d, 0) = %d, %v; want 0, false", class, f, ok)
	}
}

func checkDone(t *testing.T, what string, frame int, got, want bool) {
	t.Helper()
	if got != want {
		t.Errorf("%s(%d) = %v; want %v", what, frame, got, want)
	}
}

// checkState fails where anything but what is wanted has changed.
func checkState(t *testing.T, what string, m *mem.Memory, p *Pool, want state) {
	t.Helper()
	got := stateOf(m, p)
	if got == want {
		return
	}
	t.Errorf("%s: left %d; want %d", what, got.left, want.left)
	for f := range got.refs {
		if got.refs[f] != want.refs[f] || got.class[f] != want.class[f] || got.owner[f] != want.owner[f] {
			t.Errorf("%s: frame %d: %d references, class %d, owner %d; want %d, %d, %d", what, f,
				got.refs[f], got.class[f], got.owner[f], want.refs[f], want.class[f], want.owner[f])
		}
	}
	for at := range got.words {
		if got.words[at] != want.words[at] {
			t.Errorf("%s: word at %d: %#x; want %#x", what, at, got.words[at], want.words[at])
		}
	}
}

// P3.1

func TestTakeExample(t *testing.T) {
	_, p := made(24)
	checkTake(t, p, api.Table, 0, 15)
}

func TestNewTakesNothing(t *testing.T) {
	m := mem.New(24)
	for f := range 24 {
		fill(t, m, f)
	}
	m.Mark(16, api.Gate, 3)
	was := stateOf(m, New(mem.New(0)))
	was.left = 8
	checkState(t, "New", m, New(m), was)
}

func TestTakeMarks(t *testing.T) {
	for _, class := range []int{api.Table, api.User} {
		for _, owner := range []int{math.MinInt, -1, 0, 3, api.MaxProcs, math.MaxInt} {
			m, p := made(24)
			want := stateOf(m, p)
			want.left--
			want.refs[15], want.class[15], want.owner[15] = 1, class, owner
			checkTake(t, p, class, owner, 15)
			checkState(t, "Take", m, p, want)
		}
	}
}

func TestTakeRisesFromFirst(t *testing.T) {
	_, p := made(api.MaxFrames)
	for f := api.First; f < api.MaxFrames; f++ {
		if p.Left() != api.MaxFrames-f {
			t.Errorf("Left() = %d; want %d", p.Left(), api.MaxFrames-f)
		}
		checkTake(t, p, api.User, f, f)
	}
}

func TestTakeOfAll(t *testing.T) {
	m, p := made(18)
	for f := api.First; f < 18; f++ {
		checkTake(t, p, api.Table, 0, f)
	}
	want := stateOf(m, p)
	if want.left != 0 {
		t.Errorf("Left() = %d; want 0", want.left)
	}
	checkNone(t, p, api.Table)
	checkNone(t, p, api.User)
	checkState(t, "Take where all is taken", m, p, want)
}

// Frames below api.First are nobody's to give out, free as they are.
func TestFewFrames(t *testing.T) {
	for _, r := range []struct{ frames, left int }{
		{-1, 0}, {0, 0}, {1, 0}, {api.First - 1, 0}, {api.First, 0}, {api.First + 1, 1}, {24, 9},
		{api.MaxFrames, api.MaxFrames - api.First}, {math.MaxInt, api.MaxFrames - api.First},
	} {
		m, p := made(r.frames)
		if p.Left() != r.left {
			t.Errorf("%d frames: Left() = %d; want %d", r.frames, p.Left(), r.left)
		}
		want := stateOf(m, p)
		if r.left > 0 {
			checkTake(t, p, api.User, 1, api.First)
			continue
		}
		checkNone(t, p, api.User)
		checkState(t, "Take of no frame", m, p, want)
	}
}

func TestTakeNoSuchClass(t *testing.T) {
	for _, class := range []int{math.MinInt, -1, api.Free, api.Gate, api.Secret, api.None, api.None + 1, math.MaxInt} {
		m, p := made(24)
		checkTake(t, p, api.User, 2, 15)
		want := stateOf(m, p)
		checkNone(t, p, class)
		checkState(t, "Take of a class that is not given out", m, p, want)
	}
}

// What the memory says when the pool is asked is what counts.
func TestMemoryMarksOthers(t *testing.T) {
	for class := api.Table; class <= api.None; class++ {
		m := mem.New(20)
		m.Mark(api.First-1, class, 1)
		m.Mark(15, class, 1)
		p := New(m)
		m.Mark(17, class, 1)
		if p.Left() != 3 {
			t.Errorf("class %d: Left() = %d; want 3", class, p.Left())
		}
		checkTake(t, p, api.User, 0, 16)
		checkTake(t, p, api.User, 0, 18)
		m.Mark(19, class, 1)
		if p.Left() != 0 {
			t.Errorf("class %d: Left() = %d; want 0", class, p.Left())
		}
		checkNone(t, p, api.User)
		for _, f := range []int{15, 17, 19} {
			if m.Class(f) != class || m.Owner(f) != 1 || p.Refs(f) != 0 {
				t.Errorf("frame %d: class %d, owner %d, %d references; want %d, 1, 0", f, m.Class(f), m.Owner(f), p.Refs(f), class)
			}
		}
		m.Mark(17, api.Free, 1)
		if p.Left() != 1 {
			t.Errorf("class %d: Left() = %d; want 1", class, p.Left())
		}
		checkTake(t, p, api.Table, 5, 17)
	}
}

func TestShareAndGive(t *testing.T) {
	m, p := made(24)
	checkTake(t, p, api.User, 2, 15)
	checkTake(t, p, api.User, 3, 16)
	fill(t, m, 15)
	fill(t, m, 16)
	want := stateOf(m, p)
	for range 5 {
		want.refs[16]++
		checkDone(t, "Share", 16, p.Share(16), true)
		checkState(t, "Share", m, p, want)
	}
	for range 5 {
		want.refs[16]--
		checkDone(t, "Give", 16, p.Give(16), true)
		checkState(t, "Give ahead of the last", m, p, want)
	}
	checkDone(t, "Give", 16, p.Give(16), true)
	want.left++
	want.refs[16], want.class[16], want.owner[16] = 0, api.Free, -1
	for o := range api.Words {
		want.words[16*api.Words+o] = 0
	}
	checkState(t, "Give of the last", m, p, want)
	checkDone(t, "Give", 16, p.Give(16), false)
	checkDone(t, "Share", 16, p.Share(16), false)
	checkState(t, "what is given back", m, p, want)
}

// What is given back lies ahead of what was never taken, the least first.
func TestTakeAgain(t *testing.T) {
	m, p := made(24)
	for f := 15; f < 20; f++ {
		checkTake(t, p, api.User, 1, f)
		checkDone(t, "Share", f, p.Share(f), true)
	}
	for _, f := range []int{18, 16} {
		checkDone(t, "Give", f, p.Give(f), true)
		checkDone(t, "Give", f, p.Give(f), true)
	}
	if p.Left() != 6 {
		t.Errorf("Left() = %d; want 6", p.Left())
	}
	for _, f := range []int{16, 18, 20} {
		checkTake(t, p, api.Table, 4, f)
		if p.Refs(f) != 1 || m.Class(f) != api.Table || m.Owner(f) != 4 {
			t.Errorf("frame %d: %d references, class %d, owner %d", f, p.Refs(f), m.Class(f), m.Owner(f))
		}
	}
}

// A mark that the memory sets on a taken frame is not the pool's to see at Give.
func TestGiveOfMarked(t *testing.T) {
	m, p := made(24)
	checkTake(t, p, api.User, 1, 15)
	m.Mark(15, api.Gate, 6)
	checkDone(t, "Share", 15, p.Share(15), true)
	checkDone(t, "Give", 15, p.Give(15), true)
	if m.Class(15) != api.Gate || m.Owner(15) != 6 || p.Left() != 8 {
		t.Errorf("class %d, owner %d, left %d; want api.Gate, 6, 8", m.Class(15), m.Owner(15), p.Left())
	}
	checkDone(t, "Give", 15, p.Give(15), true)
	if m.Class(15) != api.Free || m.Owner(15) != -1 || p.Left() != 9 {
		t.Errorf("class %d, owner %d, left %d; want api.Free, -1, 9", m.Class(15), m.Owner(15), p.Left())
	}
}

// A taken frame that the memory marks free can be taken: it has one reference then.
func TestTakeOfTakenMarkedFree(t *testing.T) {
	m, p := made(24)
	checkTake(t, p, api.User, 1, 15)
	checkDone(t, "Share", 15, p.Share(15), true)
	m.Mark(15, api.Free, -1)
	if p.Left() != 9 || p.Refs(15) != 2 {
		t.Errorf("left %d, %d references; want 9, 2", p.Left(), p.Refs(15))
	}
	checkTake(t, p, api.Table, 2, 15)
	if p.Refs(15) != 1 {
		t.Errorf("Refs(15) = %d; want 1", p.Refs(15))
	}
}

func TestNotTakenHere(t *testing.T) {
	for _, frames := range []int{0, api.First, 20, api.MaxFrames} {
		m, p := made(frames)
		for f := range m.Frames() {
			fill(t, m, f)
		}
		m.Mark(16, api.User, 1)
		m.Mark(17, api.Table, 1)
		p.Take(api.User, 2)
		want := stateOf(m, p)
		for _, f := range []int{
			math.MinInt, -1 << 40, -16, -1, 0, 1, api.First - 1, 16, 17, 18, 19, 20, frames,
			api.MaxFrames - 1, api.MaxFrames, api.MaxFrames + api.First, 1 << 40, math.MaxInt,
		} {
			checkDone(t, "Share", f, p.Share(f), false)
			checkDone(t, "Give", f, p.Give(f), false)
			if p.Refs(f) != 0 {
				t.Errorf("Refs(%d) = %d; want 0", f, p.Refs(f))
			}
		}
		checkState(t, "a frame that was not taken here", m, p, want)
	}
}

// Two pools of one memory take no frame twice, and know their own alone.
func TestTwoPools(t *testing.T) {
	m, p := made(24)
	q := New(m)
	checkTake(t, p, api.User, 1, 15)
	checkTake(t, q, api.User, 2, 16)
	checkDone(t, "Give", 16, p.Give(16), false)
	checkDone(t, "Share", 15, q.Share(15), false)
	if p.Left() != 7 || q.Left() != 7 || p.Refs(16) != 0 || q.Refs(15) != 0 {
		t.Errorf("left %d, %d; references %d, %d", p.Left(), q.Left(), p.Refs(16), q.Refs(15))
	}
	checkDone(t, "Give", 15, p.Give(15), true)
	checkTake(t, q, api.Table, 2, 15)
}

// T5

func TestTakenAgainIsClean(t *testing.T) {
	for _, shares := range []int{0, 1, 3} {
		for _, class := range []int{api.Table, api.User} {
			m, p := made(api.MaxFrames)
			for f := api.First; f < api.MaxFrames; f++ {
				checkTake(t, p, api.User, 1, f)
				fill(t, m, f)
				for range shares {
					checkDone(t, "Share", f, p.Share(f), true)
				}
			}
			for f := api.First; f < api.MaxFrames; f++ {
				for range shares + 1 {
					checkDone(t, "Give", f, p.Give(f), true)
				}
				checkTake(t, p, class, 2, f)
				for o := range api.Words {
					if x, ok := m.Read(f*api.Words + o); x != 0 || !ok {
						t.Errorf("word %d of frame %d = %#x, %v; want 0, true", o, f, x, ok)
					}
				}
			}
		}
	}
}
