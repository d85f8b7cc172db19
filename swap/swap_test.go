package swap

import (
	"math"
	"math/rand/v2"
	"testing"

	"penumbra/api"
	"penumbra/mem"
)

// far are numbers that are no slot, no frame and no word; times 8 some of them
// come round to places that there are.
var far = []int{-1, -2, -7, -8, -9, -64, api.MaxFrames, api.MaxFrames + 1, 100, 1 << 32, 1 << 61, 1<<61 + 1,
	3 << 61, -1 << 61, 1<<61 - 1, math.MaxInt, math.MaxInt - 1, math.MinInt, math.MinInt + 1}

// state is all that can be asked of a memory and of what is out.
type state struct {
	frames int
	words  [api.MaxFrames * api.Words]uint64
	class  [api.MaxFrames]int
	owner  [api.MaxFrames]int
	left   int
	out    [api.Slots][api.Words]bool
	kept   [api.Slots][api.Words]uint64
}

func stateOf(m *mem.Memory, s *Swap) state {
	st := state{frames: m.Frames(), left: s.Left()}
	for at := range st.words {
		st.words[at], _ = m.Read(at)
	}
	for f := range st.class {
		st.class[f] = m.Class(f)
		st.owner[f] = m.Owner(f)
	}
	for slot := range st.out {
		for o := range st.out[slot] {
			st.kept[slot][o], st.out[slot][o] = s.Word(slot, o)
		}
	}
	return st
}

// putOut writes into a state what Out ought to have done.
func (st *state) putOut(frame, slot int) {
	for o := range api.Words {
		st.kept[slot][o] = st.words[8*frame+o]
		st.out[slot][o] = true
	}
	st.left--
}

// dropped writes into a state that a slot is free.
func (st *state) dropped(slot int) {
	st.kept[slot] = [api.Words]uint64{}
	st.out[slot] = [api.Words]bool{}
	st.left++
}

// cameIn writes into a state what In ought to have done.
func (st *state) cameIn(slot, frame int) {
	for o, x := range st.kept[slot] {
		st.words[8*frame+o] = x
	}
	st.dropped(slot)
}

// checkState fails where anything but what is wanted has changed.
func checkState(t *testing.T, what string, m *mem.Memory, s *Swap, want state) {
	t.Helper()
	got := stateOf(m, s)
	if got == want {
		return
	}
	t.Errorf("%s: %d frames, %d left; want %d, %d", what, got.frames, got.left, want.frames, want.left)
	for f := range got.class {
		if got.class[f] != want.class[f] || got.owner[f] != want.owner[f] {
			t.Errorf("%s: frame %d: class %d, owner %d; want %d, %d", what, f,
				got.class[f], got.owner[f], want.class[f], want.owner[f])
		}
	}
	for at := range got.words {
		if got.words[at] != want.words[at] {
			t.Errorf("%s: word %d of frame %d: %#x; want %#x", what, at%8, at/8, got.words[at], want.words[at])
		}
	}
	for slot := range got.out {
		if got.out[slot] != want.out[slot] || got.kept[slot] != want.kept[slot] {
			t.Errorf("%s: slot %d: %v %#x; want %v %#x", what, slot,
				got.out[slot], got.kept[slot], want.out[slot], want.kept[slot])
		}
	}
}

// filled is a memory of which no two words are the same, nor two frames' marks.
func filled(frames int) *mem.Memory {
	m := mem.New(frames)
	for at := range frames * api.Words {
		m.Write(at, 1<<63|uint64(at+1))
	}
	for f := range frames {
		m.Mark(f, f%(api.None+1), 100+f)
	}
	return m
}

// fullOf puts the frames 0, 1, .. out till no slot is free.
func fullOf(t *testing.T, m *mem.Memory) *Swap {
	t.Helper()
	s := New()
	for f := range api.Slots - 1 {
		checkOut(t, s, m, f, f+1)
	}
	checkLeft(t, s, 0)
	return s
}

// checkOut wants no slot where slot is 0.
func checkOut(t *testing.T, s *Swap, m *mem.Memory, frame, slot int) {
	t.Helper()
	if got, ok := s.Out(m, frame); got != slot || ok != (slot != 0) {
		t.Errorf("Out(m, %d) = %d, %v; want %d, %v", frame, got, ok, slot, slot != 0)
	}
}

func checkIn(t *testing.T, s *Swap, m *mem.Memory, slot, frame int, want bool) {
	t.Helper()
	if got := s.In(m, slot, frame); got != want {
		t.Errorf("In(m, %d, %d) = %v; want %v", slot, frame, got, want)
	}
}

func checkDrop(t *testing.T, s *Swap, slot int, want bool) {
	t.Helper()
	if got := s.Drop(slot); got != want {
		t.Errorf("Drop(%d) = %v; want %v", slot, got, want)
	}
}

func checkWord(t *testing.T, s *Swap, slot, o int, want uint64, there bool) {
	t.Helper()
	if got, ok := s.Word(slot, o); got != want || ok != there {
		t.Errorf("Word(%d, %d) = %#x, %v; want %#x, %v", slot, o, got, ok, want, there)
	}
}

func checkLeft(t *testing.T, s *Swap, want int) {
	t.Helper()
	if got := s.Left(); got != want {
		t.Errorf("Left() = %d; want %d", got, want)
	}
}

// P10.1: New, Left

func TestNewHasAllSlotsFree(t *testing.T) {
	s := New()
	checkLeft(t, s, 7)
	for slot := -1; slot <= api.Slots; slot++ {
		checkWord(t, s, slot, 0, 0, false)
		checkDrop(t, s, slot, false)
		checkIn(t, s, mem.New(1), slot, 0, false)
	}
	checkLeft(t, s, 7)
}

func TestNewOnesGoTheirOwnWays(t *testing.T) {
	m := filled(3)
	a, b := New(), New()
	checkOut(t, a, m, 2, 1)
	checkLeft(t, a, 6)
	checkLeft(t, b, 7)
	checkWord(t, b, 1, 0, 0, false)
	checkOut(t, b, m, 0, 1)
	checkWord(t, a, 1, 0, 1<<63|17, true)
	checkWord(t, b, 1, 0, 1<<63|1, true)
}

// Slots are free again by In as by Drop.
func TestLeftGoesUpAndDown(t *testing.T) {
	m := filled(2)
	s := New()
	for n := range 7 {
		checkLeft(t, s, 7-n)
		checkOut(t, s, m, n%2, n+1)
	}
	checkLeft(t, s, 0)
	checkDrop(t, s, 7, true)
	checkLeft(t, s, 1)
	checkIn(t, s, m, 1, 0, true)
	checkLeft(t, s, 2)
	checkOut(t, s, m, 0, 1)
	checkLeft(t, s, 1)
}

// P10.1: Out

func TestOutTakesTheLeastFreeSlot(t *testing.T) {
	m := filled(10)
	s := fullOf(t, m)
	for _, slot := range []int{6, 2, 4} {
		checkDrop(t, s, slot, true)
	}
	checkOut(t, s, m, 9, 2)
	checkOut(t, s, m, 8, 4)
	checkIn(t, s, m, 1, 0, true)
	checkOut(t, s, m, 7, 1)
	checkOut(t, s, m, 7, 6)
	checkOut(t, s, m, 7, 0)
	for slot, f := range []int{1: 7, 2: 9, 3: 2, 4: 8, 5: 4, 6: 7, 7: 6} {
		if slot == 0 {
			continue
		}
		for o := range api.Words {
			checkWord(t, s, slot, o, 1<<63|uint64(8*f+o+1), true)
		}
	}
}

// The frame, its class and its owner stay, and so do all others.
func TestOutChangesTheSlotAlone(t *testing.T) {
	for _, frames := range []int{1, 2, 24, api.MaxFrames} {
		m := filled(frames)
		s := New()
		want := stateOf(m, s)
		for slot, f := range []int{0: -1, 1: 0, 2: frames - 1, 3: frames / 2} {
			if slot == 0 {
				continue
			}
			checkOut(t, s, m, f, slot)
			want.putOut(f, slot)
			checkState(t, "Out", m, s, want)
		}
	}
}

// One frame can be out as often as there are slots, each time as it was then.
func TestOutOfOneFrameAgainAndAgain(t *testing.T) {
	m := mem.New(1)
	s := New()
	for slot := 1; slot < api.Slots; slot++ {
		m.Write(3, uint64(slot))
		checkOut(t, s, m, 0, slot)
	}
	for slot := 1; slot < api.Slots; slot++ {
		checkWord(t, s, slot, 3, uint64(slot), true)
		checkWord(t, s, slot, 4, 0, true)
	}
}

func TestOutWhereNoSlotIsFree(t *testing.T) {
	m := filled(10)
	s := fullOf(t, m)
	want := stateOf(m, s)
	for f := range 10 {
		checkOut(t, s, m, f, 0)
	}
	for _, f := range far {
		checkOut(t, s, m, f, 0)
	}
	checkState(t, "Out", m, s, want)
}

func TestOutOfNoFrame(t *testing.T) {
	for _, frames := range []int{0, 1, 24, api.MaxFrames} {
		m := filled(frames)
		s := New()
		want := stateOf(m, s)
		checkOut(t, s, m, frames, 0)
		for _, f := range far {
			checkOut(t, s, m, f, 0)
		}
		checkState(t, "Out", m, s, want)
	}
}

// Which memory a frame was of is not kept.
func TestOutAndInOfTwoMemories(t *testing.T) {
	a, b := filled(4), mem.New(2)
	s := New()
	checkOut(t, s, a, 3, 1)
	checkOut(t, s, b, 3, 0)
	checkIn(t, s, b, 1, 2, false)
	before := stateOf(a, New())
	want := stateOf(b, s)
	checkIn(t, s, b, 1, 1, true)
	want.cameIn(1, 1)
	checkState(t, "In", b, s, want)
	checkState(t, "the other memory", a, New(), before)
}

// P10.1: In

func TestInBringsTheFrameAsItWas(t *testing.T) {
	for _, slot := range []int{1, 4, api.Slots - 1} {
		for _, frame := range []int{0, slot - 1, 9} {
			m := filled(10)
			s := fullOf(t, m)
			was := stateOf(m, s)
			for f := range 10 {
				m.Zero(f)
				m.Write(8*f+2, 77)
			}
			want := stateOf(m, s)
			if want.kept != was.kept {
				t.Errorf("what is out has changed with the memory")
			}
			checkIn(t, s, m, slot, frame, true)
			want.cameIn(slot, frame)
			checkState(t, "In", m, s, want)
			for o := range api.Words {
				if x, _ := m.Read(8*frame + o); x != was.words[8*(slot-1)+o] {
					t.Errorf("In(m, %d, %d): word %d is %#x; want %#x", slot, frame, o, x, was.words[8*(slot-1)+o])
				}
			}
		}
	}
}

// A slot is free behind In: it can't come in twice.
func TestInOnce(t *testing.T) {
	m := filled(3)
	s := New()
	checkOut(t, s, m, 1, 1)
	checkIn(t, s, m, 1, 0, true)
	want := stateOf(m, s)
	checkIn(t, s, m, 1, 2, false)
	checkDrop(t, s, 1, false)
	checkWord(t, s, 1, 0, 0, false)
	checkState(t, "In of a free slot", m, s, want)
}

func TestInOfNoSlotOrFrame(t *testing.T) {
	m := filled(api.MaxFrames)
	s := fullOf(t, m)
	for f := range api.MaxFrames {
		m.Zero(f)
	}
	checkDrop(t, s, 2, true)
	want := stateOf(m, s)
	for _, frame := range append([]int{0, 1, api.MaxFrames - 1}, far...) {
		for _, slot := range append([]int{0, 2, api.Slots, api.Slots + 1}, far...) {
			checkIn(t, s, m, slot, frame, false)
		}
	}
	for _, frame := range far {
		for _, slot := range []int{1, 3, api.Slots - 1} {
			checkIn(t, s, m, slot, frame, false)
		}
	}
	checkState(t, "In", m, s, want)
}

// The memory's own bound counts, not the greatest that there may be.
func TestInPastASmallMemory(t *testing.T) {
	m := filled(5)
	s := New()
	checkOut(t, s, m, 4, 1)
	want := stateOf(m, s)
	checkIn(t, s, m, 1, 5, false)
	checkIn(t, s, mem.New(0), 1, 0, false)
	checkState(t, "In", m, s, want)
	checkIn(t, s, m, 1, 4, true)
	want.cameIn(1, 4)
	checkState(t, "In", m, s, want)
}

// P10.1: Drop

func TestDropFreesTheSlotAlone(t *testing.T) {
	for slot := 1; slot < api.Slots; slot++ {
		m := filled(10)
		s := fullOf(t, m)
		want := stateOf(m, s)
		checkDrop(t, s, slot, true)
		want.dropped(slot)
		checkState(t, "Drop", m, s, want)
		checkDrop(t, s, slot, false)
		checkState(t, "Drop of a free slot", m, s, want)
		checkOut(t, s, m, 9, slot)
		want.putOut(9, slot)
		checkState(t, "Out", m, s, want)
	}
}

func TestDropOfNoSlot(t *testing.T) {
	m := filled(10)
	s := fullOf(t, m)
	want := stateOf(m, s)
	for _, slot := range append([]int{0, api.Slots, api.Slots + 1}, far...) {
		checkDrop(t, s, slot, false)
	}
	checkState(t, "Drop", m, s, want)
}

// P10.1: Word

func TestWordOfEachSlot(t *testing.T) {
	m := filled(10)
	s := fullOf(t, m)
	want := stateOf(m, s)
	for slot := 1; slot < api.Slots; slot++ {
		for o := range api.Words {
			checkWord(t, s, slot, o, 1<<63|uint64(8*(slot-1)+o+1), true)
		}
	}
	checkState(t, "Word", m, s, want)
}

func TestWordAtItsBounds(t *testing.T) {
	m := mem.New(1)
	m.Write(0, math.MaxUint64)
	m.Write(7, 1)
	s := New()
	checkOut(t, s, m, 0, 1)
	checkWord(t, s, 1, 0, math.MaxUint64, true)
	checkWord(t, s, 1, 1, 0, true)
	checkWord(t, s, 1, 7, 1, true)
}

func TestWordOfNoSlotOrWord(t *testing.T) {
	m := filled(10)
	s := fullOf(t, m)
	checkDrop(t, s, 3, true)
	want := stateOf(m, s)
	for _, o := range []int{0, 7} {
		for _, slot := range append([]int{0, 3, api.Slots, api.Slots + 1}, far...) {
			checkWord(t, s, slot, o, 0, false)
		}
	}
	for _, o := range append([]int{api.Words, api.Words + 1}, far...) {
		for _, slot := range []int{0, 1, 3, api.Slots - 1, api.Slots} {
			checkWord(t, s, slot, o, 0, false)
		}
	}
	checkState(t, "Word", m, s, want)
}

// Nothing is kept of what was in a slot that is free again.
func TestFreeSlotsKeepNothing(t *testing.T) {
	m := filled(10)
	s := fullOf(t, m)
	for slot := 1; slot < api.Slots; slot++ {
		if slot%2 == 0 {
			checkDrop(t, s, slot, true)
		} else {
			checkIn(t, s, m, slot, 9, true)
		}
	}
	if *s != *New() {
		t.Errorf("all slots are free, but %v is kept", *s)
	}
}

// A second, plain telling: what is out is a map of slots to words.

type telling struct {
	out map[int][api.Words]uint64
}

func (p telling) free() int {
	for slot := 1; slot <= 7; slot++ {
		if _, had := p.out[slot]; !had {
			return slot
		}
	}
	return 0
}

func wordsAt(m *mem.Memory, frame int) (words [api.Words]uint64) {
	for o := range words {
		words[o], _ = m.Read(8*frame + o)
	}
	return words
}

func TestRunsAgainstASecondTelling(t *testing.T) {
	for seed := range uint64(200) {
		r := rand.New(rand.NewPCG(10, seed))
		frames := r.IntN(6)
		m, s := filled(frames), New()
		p := telling{out: map[int][api.Words]uint64{}}
		for range 120 {
			step(t, r, m, s, p)
			if got := s.Left(); got != 7-len(p.out) {
				t.Fatalf("Left() = %d; want %d", got, 7-len(p.out))
			}
			for slot := range api.Slots {
				words, had := p.out[slot]
				for o, x := range words {
					checkWord(t, s, slot, o, x, had)
				}
			}
		}
	}
}

// step does one call, and what it ought to do to the telling; the memory's words
// are asked for ahead of it and behind it.
func step(t *testing.T, r *rand.Rand, m *mem.Memory, s *Swap, p telling) {
	t.Helper()
	slot, frame := r.IntN(api.Slots+2)-1, r.IntN(m.Frames()+3)-1
	has := frame >= 0 && frame < m.Frames()
	words, had := p.out[slot]
	before := stateOf(m, New())
	switch r.IntN(5) {
	case 0, 1:
		free := p.free()
		if !has {
			free = 0
		}
		checkOut(t, s, m, frame, free)
		if free != 0 {
			p.out[free] = wordsAt(m, frame)
		}
	case 2:
		checkIn(t, s, m, slot, frame, had && has)
		if had && has {
			delete(p.out, slot)
			for o, x := range words {
				before.words[8*frame+o] = x
			}
		}
	case 3:
		checkDrop(t, s, slot, had)
		delete(p.out, slot)
	case 4:
		at, x := r.IntN(8*m.Frames()+1), r.Uint64()
		if m.Write(at, x) {
			before.words[at] = x
		}
	}
	checkState(t, "the memory", m, New(), before)
}

// R5: the same calls on others of the kind answer the same.
func TestTheSameCallsAnswerTheSame(t *testing.T) {
	var first state
	for round := range 20 {
		m := filled(9)
		s := fullOf(t, m)
		checkDrop(t, s, 5, true)
		checkIn(t, s, m, 2, 8, true)
		checkOut(t, s, m, 8, 2)
		got := stateOf(m, s)
		if round == 0 {
			first = got
		} else if got != first {
			t.Errorf("round %d answers otherwise than the first", round)
		}
	}
}

// R1: no call panics, at any numbers.
func TestNoCallPanics(t *testing.T) {
	some := append([]int{0, 1, 7, 8, 9}, far...)
	for _, frames := range []int{-1, 0, 1, api.MaxFrames, 1000} {
		m, s := mem.New(frames), New()
		for _, a := range some {
			for _, b := range some {
				s.Out(m, a)
				s.Word(a, b)
				s.In(m, a, b)
				s.Out(m, b)
				s.Drop(b)
				if left := s.Left(); left < 0 || left > 7 {
					t.Fatalf("Left() = %d; want 0 to 7", left)
				}
			}
		}
	}
}
