package entry

import (
	"math"
	"testing"

	"penumbra/api"
)

const lastFrame = 1<<40 - 1

// flagged lists the digits apart from the frame's, and the entry that each one alone adds to a Present one.
var flagged = []struct {
	digit int
	e     Entry
}{
	{1, Entry{Present: true, Write: true}},
	{2, Entry{Present: true, User: true}},
	{8, Entry{Present: true, Global: true}},
}

// mustBeZero tells the document's list the other way round: every digit that it does not name.
func mustBeZero() []int {
	var l []int
	for d := range 64 {
		if d != 0 && d != 1 && d != 2 && d != 8 && (d < 12 || d > 51) {
			l = append(l, d)
		}
	}
	return l
}

func checkBoth(t *testing.T, e Entry, x uint64) {
	t.Helper()
	if got, err := Pack(e); got != x || err != api.OK {
		t.Errorf("Pack(%+v) = %#x, %d; want %#x, OK", e, got, err, x)
	}
	if got, err := Unpack(x); got != e || err != api.OK {
		t.Errorf("Unpack(%#x) = %+v, %d; want %+v, OK", x, got, err, e)
	}
	if got := Raw(x); got != e.Frame {
		t.Errorf("Raw(%#x) = %d; want %d", x, got, e.Frame)
	}
}

// P1.1

func TestPackExample(t *testing.T) {
	checkBoth(t, Entry{Present: true, Frame: 1}, 4097)
}

func TestPackEachFlagAlone(t *testing.T) {
	checkBoth(t, Entry{Present: true}, 1)
	for _, f := range flagged {
		checkBoth(t, f.e, 1|1<<f.digit)
	}
}

func TestPackEachFrameDigitAlone(t *testing.T) {
	for d := range 40 {
		checkBoth(t, Entry{Present: true, Frame: 1 << d}, 1|1<<(12+d))
	}
}

func TestPackAllFlagsAtFrames(t *testing.T) {
	for flags := range 8 {
		e := Entry{Present: true}
		x := uint64(1)
		for i, f := range flagged {
			if flags>>i&1 == 0 {
				continue
			}
			e.Write = e.Write || f.e.Write
			e.User = e.User || f.e.User
			e.Global = e.Global || f.e.Global
			x |= 1 << f.digit
		}
		for _, frame := range []int{0, 1, 5, api.MaxFrames - 1, api.MaxFrames, lastFrame - 1, lastFrame} {
			e.Frame = frame
			checkBoth(t, e, x|uint64(frame)<<12)
		}
	}
}

func TestPackRefuses(t *testing.T) {
	full := Entry{Present: true, Write: true, User: true, Global: true}
	var wrong []Entry
	for _, frame := range []int{-1, lastFrame + 1, -lastFrame - 1, math.MinInt, math.MaxInt, 1 << 52, 1 << 62} {
		e := full
		e.Frame = frame
		wrong = append(wrong, e, Entry{Present: true, Frame: frame}, Entry{Frame: frame})
	}
	for _, frame := range []int{0, 1, lastFrame} {
		wrong = append(wrong, Entry{Frame: frame}, Entry{Write: true, User: true, Global: true, Frame: frame})
	}
	for _, e := range wrong {
		if x, err := Pack(e); x != 0 || err != api.ErrArg {
			t.Errorf("Pack(%+v) = %#x, %d; want 0, ErrArg", e, x, err)
		}
	}
}

func checkUnpackRefuses(t *testing.T, x uint64, want api.Errno) {
	t.Helper()
	if e, err := Unpack(x); e != (Entry{}) || err != want {
		t.Errorf("Unpack(%#x) = %+v, %d; want nothing, %d", x, e, err, want)
	}
}

func TestUnpackRefusesEachDigitThatMustBeZero(t *testing.T) {
	digits := mustBeZero()
	if len(digits) != 20 {
		t.Fatalf("%d digits must be 0; want 20", len(digits))
	}
	for _, d := range digits {
		checkUnpackRefuses(t, 1|1<<d, api.ErrForm)
		checkUnpackRefuses(t, 0xffffffffff107|1<<d, api.ErrForm)
	}
	checkUnpackRefuses(t, math.MaxUint64, api.ErrForm)
}

func TestUnpackRefusesWhatIsNotPresent(t *testing.T) {
	for d := 1; d < 64; d++ {
		checkUnpackRefuses(t, 1<<d, api.ErrNone)
	}
	for _, x := range []uint64{0, 0xffffffffff106, Absent(5, false), Absent(5, true)} {
		checkUnpackRefuses(t, x, api.ErrNone)
	}
}

// Not present is named ahead of digits that must be 0, so it is the answer where both hold.
func TestUnpackNotPresentComesFirst(t *testing.T) {
	for _, d := range mustBeZero() {
		checkUnpackRefuses(t, 0x1000|1<<d, api.ErrNone)
	}
	checkUnpackRefuses(t, math.MaxUint64-1, api.ErrNone)
}

func TestRawLooksAtItsDigitsAlone(t *testing.T) {
	for _, r := range []struct {
		x    uint64
		want int
	}{
		{0, 0},
		{0xfff, 0},
		{0xfff0000000000fff, 0},
		{0x1000, 1},
		{0xfff0000000001fff, 1},
		{1 << 51, 1 << 39},
		{1 << 52, 0},
		{0x000ffffffffff000, lastFrame},
		{math.MaxUint64, lastFrame},
	} {
		if got := Raw(r.x); got != r.want {
			t.Errorf("Raw(%#x) = %d; want %d", r.x, got, r.want)
		}
	}
}

// P1.2

func TestAbsent(t *testing.T) {
	const all = 0x000ffffffffff000
	for _, r := range []struct {
		frame         int
		plain, turned uint64
	}{
		{0, 0, all},
		{1, 0x1000, 0x000fffffffffe000},
		{api.MaxFrames, 0x40000, 0x000ffffffffbf000},
		{lastFrame - 1, 0x000fffffffffe000, 0x1000},
		{lastFrame, all, 0},
		{lastFrame + 1, 0, all},
		{lastFrame + 2, 0x1000, 0x000fffffffffe000},
		{-1, all, 0},
		{-2, 0x000fffffffffe000, 0x1000},
		{-lastFrame, 0x1000, 0x000fffffffffe000},
		{-lastFrame - 1, 0, all},
		{-lastFrame - 2, all, 0},
		{math.MaxInt, all, 0},
		{math.MinInt, 0, all},
	} {
		if got := Absent(r.frame, false); got != r.plain {
			t.Errorf("Absent(%d, false) = %#x; want %#x", r.frame, got, r.plain)
		}
		if got := Absent(r.frame, true); got != r.turned {
			t.Errorf("Absent(%d, true) = %#x; want %#x", r.frame, got, r.turned)
		}
	}
}

func TestAbsentEachDigit(t *testing.T) {
	for d := range 63 {
		want := uint64(0)
		if d < 40 {
			want = 1 << (12 + d)
		}
		if got := Absent(1<<d, false); got != want {
			t.Errorf("Absent(1<<%d, false) = %#x; want %#x", d, got, want)
		}
		if got := Absent(1<<d, true); got != 0x000ffffffffff000-want {
			t.Errorf("Absent(1<<%d, true) = %#x; want %#x", d, got, 0x000ffffffffff000-want)
		}
	}
}

// A turned entry leads to no frame that memory may have.
func TestAbsentTurnedLeadsNowhere(t *testing.T) {
	for frame := range api.MaxFrames {
		if got := Raw(Absent(frame, false)); got != frame {
			t.Errorf("Raw(Absent(%d, false)) = %d; want %d", frame, got, frame)
		}
		if got := Raw(Absent(frame, true)); got != lastFrame-frame {
			t.Errorf("Raw(Absent(%d, true)) = %d; want %d", frame, got, lastFrame-frame)
		}
	}
}

func TestOfIsAbsentsFrame(t *testing.T) {
	frames := []int{0, 1, 2, 7, 14, api.MaxFrames - 1, api.MaxFrames, lastFrame - 1, lastFrame}
	for d := range 40 {
		frames = append(frames, 1<<d, 1<<d^lastFrame)
	}
	for _, frame := range frames {
		for _, invert := range []bool{false, true} {
			if got := Of(Absent(frame, invert), invert); got != frame {
				t.Errorf("Of(Absent(%d, %t)) = %d", frame, invert, got)
			}
		}
	}
}

// Of a frame outside 0 .. 2^40 - 1 the entry knows the lowest 40 digits alone.
func TestOfIsModulo(t *testing.T) {
	for _, r := range []struct{ frame, want int }{
		{-1, lastFrame},
		{-2, lastFrame - 1},
		{-lastFrame - 1, 0},
		{lastFrame + 1, 0},
		{lastFrame + 6, 5},
		{math.MaxInt, lastFrame},
		{math.MinInt, 0},
		{math.MinInt + 3, 3},
	} {
		for _, invert := range []bool{false, true} {
			if got := Of(Absent(r.frame, invert), invert); got != r.want {
				t.Errorf("Of(Absent(%d, %t)) = %d; want %d", r.frame, invert, got, r.want)
			}
		}
	}
}

func TestOfLooksAtTheFramesDigitsAlone(t *testing.T) {
	for _, r := range []struct {
		x             uint64
		plain, turned int
	}{
		{0, 0, lastFrame},
		{0x5007, 5, lastFrame - 5},
		{0xfff0000000005fff, 5, lastFrame - 5},
		{0xfff0000000000fff, 0, lastFrame},
		{math.MaxUint64, lastFrame, 0},
	} {
		if got := Of(r.x, false); got != r.plain {
			t.Errorf("Of(%#x, false) = %d; want %d", r.x, got, r.plain)
		}
		if got := Of(r.x, true); got != r.turned {
			t.Errorf("Of(%#x, true) = %d; want %d", r.x, got, r.turned)
		}
	}
}
