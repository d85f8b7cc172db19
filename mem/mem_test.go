package mem

import (
	"math"
	"testing"

	"penumbra/api"
)

// state is all that can be asked of a memory.
type state struct {
	frames int
	words  [api.MaxFrames * api.Words]uint64
	class  [api.MaxFrames]int
	owner  [api.MaxFrames]int
}

func stateOf(m *Memory) state {
	s := state{frames: m.Frames()}
	for at := range s.words {
		s.words[at], _ = m.Read(at)
	}
	for f := range s.class {
		s.class[f] = m.Class(f)
		s.owner[f] = m.Owner(f)
	}
	return s
}

// filled is a memory in which each word, class and owner tells which it is.
func filled(t *testing.T, frames int) *Memory {
	t.Helper()
	m := New(frames)
	for at := range frames * api.Words {
		if !m.Write(at, tagged(at)) {
			t.Fatalf("Write(%d) = false", at)
		}
	}
	for f := range frames {
		if !m.Mark(f, f%(api.None+1), 10+f) {
			t.Fatalf("Mark(%d) = false", f)
		}
	}
	return m
}

func tagged(at int) uint64 {
	return 1<<63 | uint64(at+1)
}

// noFrames and noPlaces are those that a memory of so many frames does not have.
func noFrames(frames int) []int {
	return []int{math.MinInt, -1 << 40, -api.Words, -1, frames, frames + 1, api.MaxFrames, 1 << 40, math.MaxInt}
}

func noPlaces(frames int) []int {
	end := frames * api.Words
	return []int{math.MinInt, -1 << 40, -api.Words - 1, -api.Words, -api.Words + 1, -1, end, end + 1, end + api.Words, api.MaxFrames * api.Words, 1 << 40, math.MaxInt}
}

// checkSame fails where a call that answered false has left a trace.
func checkSame(t *testing.T, what string, m *Memory, want state) {
	t.Helper()
	if stateOf(m) != want {
		t.Errorf("%s has changed the memory", what)
	}
}

// P2.1

func TestNewFrames(t *testing.T) {
	for _, r := range []struct{ asked, want int }{
		{math.MinInt, 0}, {-2, 0}, {-1, 0}, {0, 0}, {1, 1}, {24, 24},
		{api.MaxFrames - 1, api.MaxFrames - 1}, {api.MaxFrames, api.MaxFrames},
		{api.MaxFrames + 1, api.MaxFrames}, {1 << 50, api.MaxFrames}, {math.MaxInt, api.MaxFrames},
	} {
		m := New(r.asked)
		if got := m.Frames(); got != r.want {
			t.Errorf("New(%d).Frames() = %d; want %d", r.asked, got, r.want)
		}
		if _, ok := m.Read(r.want*api.Words - 1); ok != (r.want > 0) {
			t.Errorf("New(%d): last word there: %v", r.asked, ok)
		}
		if _, ok := m.Read(r.want * api.Words); ok {
			t.Errorf("New(%d): a word behind the last", r.asked)
		}
	}
}

func TestNewIsEmpty(t *testing.T) {
	m := New(api.MaxFrames)
	for at := range api.MaxFrames * api.Words {
		if x, ok := m.Read(at); x != 0 || !ok {
			t.Errorf("Read(%d) = %d, %v; want 0, true", at, x, ok)
		}
	}
	for f := range api.MaxFrames {
		if c, o := m.Class(f), m.Owner(f); c != api.Free || o != -1 {
			t.Errorf("frame %d: class %d, owner %d; want api.Free, -1", f, c, o)
		}
	}
}

func TestReadExample(t *testing.T) {
	if x, ok := New(1).Read(0); x != 0 || !ok {
		t.Errorf("Read(0) of one frame = %d, %v; want 0, true", x, ok)
	}
	if x, ok := New(0).Read(0); x != 0 || ok {
		t.Errorf("Read(0) of no frame = %d, %v; want 0, false", x, ok)
	}
}

func TestWriteThenRead(t *testing.T) {
	for _, frames := range []int{1, 3, api.MaxFrames} {
		m := filled(t, frames)
		for at := range frames * api.Words {
			if x, ok := m.Read(at); x != tagged(at) || !ok {
				t.Errorf("%d frames: Read(%d) = %#x, %v; want %#x, true", frames, at, x, ok, tagged(at))
			}
		}
	}
}

func TestWriteAnyWord(t *testing.T) {
	m := New(2)
	for _, x := range []uint64{1, math.MaxUint64, 1 << 63, 0} {
		if !m.Write(9, x) {
			t.Errorf("Write(9, %#x) = false", x)
		}
		if got, ok := m.Read(9); got != x || !ok {
			t.Errorf("Read(9) = %#x, %v; want %#x, true", got, ok, x)
		}
	}
}

func TestWriteChangesOneWord(t *testing.T) {
	m := filled(t, 3)
	for _, at := range []int{0, 7, 8, 15, 16, 23} {
		want := stateOf(m)
		want.words[at] = 5
		m.Write(at, 5)
		checkSame(t, "Write of one word", m, want)
	}
}

func TestNoSuchPlace(t *testing.T) {
	for _, frames := range []int{0, 1, 3} {
		m := filled(t, frames)
		want := stateOf(m)
		for _, at := range noPlaces(frames) {
			if x, ok := m.Read(at); x != 0 || ok {
				t.Errorf("%d frames: Read(%d) = %d, %v; want 0, false", frames, at, x, ok)
			}
			if m.Write(at, 5) {
				t.Errorf("%d frames: Write(%d) = true", frames, at)
			}
		}
		checkSame(t, "a place that is not there", m, want)
	}
}

func TestZero(t *testing.T) {
	for _, f := range []int{0, 1, api.MaxFrames - 1} {
		m := filled(t, api.MaxFrames)
		want := stateOf(m)
		for o := range api.Words {
			want.words[f*api.Words+o] = 0
		}
		if !m.Zero(f) {
			t.Errorf("Zero(%d) = false", f)
		}
		checkSame(t, "Zero, beside the frame's words,", m, want)
	}
}

func TestCopy(t *testing.T) {
	const last = api.MaxFrames - 1
	for _, r := range [][2]int{{0, last}, {last, 0}, {1, 2}, {2, 1}, {0, 0}, {last, last}} {
		m := filled(t, api.MaxFrames)
		want := stateOf(m)
		for o := range api.Words {
			want.words[r[1]*api.Words+o] = tagged(r[0]*api.Words + o)
		}
		if !m.Copy(r[0], r[1]) {
			t.Errorf("Copy%v = false", r)
		}
		checkSame(t, "Copy, beside to's words,", m, want)
	}
}

// What is copied is the words: later they are each frame's own.
func TestCopyDoesNotTie(t *testing.T) {
	m := filled(t, 2)
	m.Copy(0, 1)
	m.Write(3, 5)
	m.Write(12, 6)
	for _, r := range []struct {
		at   int
		want uint64
	}{{3, 5}, {4, tagged(4)}, {11, tagged(3)}, {12, 6}} {
		if x, _ := m.Read(r.at); x != r.want {
			t.Errorf("Read(%d) = %#x; want %#x", r.at, x, r.want)
		}
	}
}

func TestMark(t *testing.T) {
	for _, f := range []int{0, 1, api.MaxFrames - 1} {
		m := filled(t, api.MaxFrames)
		for class := api.Free; class <= api.None; class++ {
			for _, owner := range []int{math.MinInt, -1, 0, 3, api.MaxProcs, math.MaxInt} {
				want := stateOf(m)
				want.class[f], want.owner[f] = class, owner
				if !m.Mark(f, class, owner) {
					t.Errorf("Mark(%d, %d, %d) = false", f, class, owner)
				}
				checkSame(t, "Mark, beside the frame's class and owner,", m, want)
			}
		}
	}
}

func TestMarkNoSuchClass(t *testing.T) {
	m := filled(t, 3)
	want := stateOf(m)
	for _, class := range []int{math.MinInt, -1, api.None + 1, math.MaxInt} {
		if m.Mark(1, class, 2) {
			t.Errorf("Mark(1, %d, 2) = true", class)
		}
	}
	checkSame(t, "Mark of a class that is none", m, want)
}

func TestNoSuchFrame(t *testing.T) {
	for _, frames := range []int{0, 1, 3} {
		m := filled(t, frames)
		want := stateOf(m)
		for _, f := range noFrames(frames) {
			if m.Zero(f) {
				t.Errorf("%d frames: Zero(%d) = true", frames, f)
			}
			if m.Copy(f, 0) || m.Copy(0, f) || m.Copy(f, f) {
				t.Errorf("%d frames: Copy from or to %d = true", frames, f)
			}
			if m.Mark(f, api.User, 2) {
				t.Errorf("%d frames: Mark(%d) = true", frames, f)
			}
			if c, o := m.Class(f), m.Owner(f); c != -1 || o != -1 {
				t.Errorf("%d frames: frame %d: class %d, owner %d; want -1, -1", frames, f, c, o)
			}
		}
		checkSame(t, "a frame that is not there", m, want)
	}
}

func TestCloneIsAsItIs(t *testing.T) {
	for _, frames := range []int{0, 1, 3, api.MaxFrames} {
		m := filled(t, frames)
		c := m.Clone()
		if c == m {
			t.Fatalf("%d frames: Clone is the same object", frames)
		}
		checkSame(t, "Clone", c, stateOf(m))
	}
}

func TestCloneGoesItsOwnWay(t *testing.T) {
	steps := []struct {
		name string
		do   func(m *Memory) bool
	}{
		{"Write", func(m *Memory) bool { return m.Write(23, 5) }},
		{"Zero", func(m *Memory) bool { return m.Zero(1) }},
		{"Copy", func(m *Memory) bool { return m.Copy(0, 2) }},
		{"Mark", func(m *Memory) bool { return m.Mark(0, api.Secret, 77) }},
	}
	for _, s := range steps {
		for _, ofClone := range []bool{false, true} {
			m := filled(t, 3)
			c := m.Clone()
			was := stateOf(m)
			moved, still := m, c
			if ofClone {
				moved, still = c, m
			}
			if !s.do(moved) || stateOf(moved) == was {
				t.Errorf("%s (of the clone: %v) has done nothing", s.name, ofClone)
			}
			checkSame(t, s.name+" of the other", still, was)
		}
	}
}
