package pipe

import (
	"math"
	"math/rand/v2"
	"slices"
	"testing"
	"testing/synctest"
)

// edges are the words at the ends, and such as would be another one if bits of
// them were lost.
var edges = []uint64{0, math.MaxUint64, 1, math.MaxUint64 - 1, 1 << 63, 1<<63 - 1, 1 << 32, 1<<32 - 1, 1 << 31, 1 << 53, 1<<53 + 1,
	1 << 16, 256, 255, 1<<64 - 4}

// checkWaiting fails where anything else waits, or waits in another order.
func checkWaiting(t *testing.T, p *Pipe, want ...uint64) {
	t.Helper()
	if got := p.Len(); got != len(want) {
		t.Errorf("Len() = %d; want %d", got, len(want))
	}
	if got := p.Words(); !slices.Equal(got, want) {
		t.Errorf("Words() = %d; want %d", got, want)
	}
}

func checkSend(t *testing.T, p *Pipe, x uint64, want bool) {
	t.Helper()
	if got := p.Send(x); got != want {
		t.Errorf("Send(%d) = %v; want %v", x, got, want)
	}
}

func checkRecv(t *testing.T, p *Pipe, want uint64) {
	t.Helper()
	if got, ok := p.Recv(); got != want || !ok {
		t.Errorf("Recv() = %d, %v; want %d, true", got, ok, want)
	}
}

func checkRecvNone(t *testing.T, p *Pipe) {
	t.Helper()
	if got, ok := p.Recv(); got != 0 || ok {
		t.Errorf("Recv() = %d, %v; want 0, false", got, ok)
	}
}

// of has these words waiting.
func of(t *testing.T, words ...uint64) *Pipe {
	t.Helper()
	p := New()
	for _, x := range words {
		checkSend(t, p, x, true)
	}
	checkWaiting(t, p, words...)
	return p
}

// P13.1 and R1: no call waits. In a bubble a call that does is told at once,
// and so is whatever still goes on when the calls have answered.

func TestNoCallWaits(t *testing.T) {
	synctest.Test(t, func(t *testing.T) {
		p := New()
		for range 3 {
			checkRecvNone(t, p)
			checkWaiting(t, p)
		}
		for x := range uint64(4) {
			checkSend(t, p, x, true)
		}
		for range 3 {
			checkSend(t, p, 9, false)
			checkWaiting(t, p, 0, 1, 2, 3)
		}
		for x := range uint64(4) {
			checkRecv(t, p, x)
		}
		checkRecvNone(t, p)
	})
}

// P13.1: New

func TestExample(t *testing.T) {
	if _, ok := New().Recv(); ok {
		t.Error("Recv of a new one: true; want false")
	}
}

func TestNewHasNothing(t *testing.T) {
	p := New()
	checkWaiting(t, p)
	checkRecvNone(t, p)
	checkWaiting(t, p)
}

func TestNewOnesAreApart(t *testing.T) {
	a, b := New(), New()
	if a == b {
		t.Fatal("New answers the same pipe twice")
	}
	checkSend(t, a, 1, true)
	checkWaiting(t, b)
	checkRecvNone(t, b)
	for x := range uint64(4) {
		checkSend(t, b, 20+x, true)
	}
	checkSend(t, b, 24, false)
	checkWaiting(t, a, 1)
	checkSend(t, a, 2, true)
	checkRecv(t, b, 20)
	checkWaiting(t, a, 1, 2)
	checkWaiting(t, b, 21, 22, 23)
	checkRecv(t, a, 1)
	checkRecv(t, a, 2)
	checkRecvNone(t, a)
	checkWaiting(t, b, 21, 22, 23)
	checkWaiting(t, New())
}

// P13.1: Send

func TestSendPutsBehind(t *testing.T) {
	p := New()
	checkSend(t, p, 30, true)
	checkWaiting(t, p, 30)
	checkSend(t, p, 10, true)
	checkWaiting(t, p, 30, 10)
	checkSend(t, p, 40, true)
	checkWaiting(t, p, 30, 10, 40)
	checkSend(t, p, 20, true)
	checkWaiting(t, p, 30, 10, 40, 20)
}

func TestSendRefusesTheFifth(t *testing.T) {
	p := of(t, 1, 2, 3, 4)
	for _, x := range append([]uint64{1, 4, 5}, edges...) {
		checkSend(t, p, x, false)
		checkWaiting(t, p, 1, 2, 3, 4)
	}
	for x := uint64(1); x <= 4; x++ {
		checkRecv(t, p, x)
	}
	checkRecvNone(t, p)
}

func TestSendBehindOneReceived(t *testing.T) {
	p := of(t, 1, 2, 3, 4)
	checkSend(t, p, 5, false)
	checkRecv(t, p, 1)
	checkWaiting(t, p, 2, 3, 4)
	checkSend(t, p, 6, true)
	checkWaiting(t, p, 2, 3, 4, 6)
	checkSend(t, p, 7, false)
	checkWaiting(t, p, 2, 3, 4, 6)
	for _, x := range []uint64{2, 3, 4, 6} {
		checkRecv(t, p, x)
	}
	checkRecvNone(t, p)
}

func TestSendTakesAnyWord(t *testing.T) {
	for _, x := range edges {
		p := of(t, x)
		checkRecv(t, p, x)
		checkRecvNone(t, p)
	}
	p := of(t, 0, math.MaxUint64, math.MaxUint64, 0)
	checkSend(t, p, 0, false)
	checkSend(t, p, math.MaxUint64, false)
	for _, x := range []uint64{0, math.MaxUint64, math.MaxUint64, 0} {
		checkRecv(t, p, x)
	}
	checkRecvNone(t, p)
}

func TestSendTakesTheSameWordAgain(t *testing.T) {
	for _, x := range edges {
		p := of(t, x, x, x, x)
		checkSend(t, p, x, false)
		for left := 3; left >= 0; left-- {
			checkRecv(t, p, x)
			checkWaiting(t, p, slices.Repeat([]uint64{x}, left)...)
		}
		checkRecvNone(t, p)
	}
}

// P13.1: Recv

func TestRecvTakesTheFirst(t *testing.T) {
	p := of(t, 30, 10, 40, 20)
	checkRecv(t, p, 30)
	checkWaiting(t, p, 10, 40, 20)
	checkRecv(t, p, 10)
	checkWaiting(t, p, 40, 20)
	checkRecv(t, p, 40)
	checkWaiting(t, p, 20)
	checkRecv(t, p, 20)
	checkWaiting(t, p)
}

func TestRecvOfNone(t *testing.T) {
	p := of(t, 7, math.MaxUint64)
	checkRecv(t, p, 7)
	checkRecv(t, p, math.MaxUint64)
	for range 6 {
		checkRecvNone(t, p)
		checkWaiting(t, p)
	}
	for x := range uint64(4) {
		checkSend(t, p, 50+x, true)
	}
	checkSend(t, p, 54, false)
	checkWaiting(t, p, 50, 51, 52, 53)
}

func TestRecvTellsZeroFromNone(t *testing.T) {
	p := of(t, 0)
	checkRecv(t, p, 0)
	checkRecvNone(t, p)
}

func TestInTurn(t *testing.T) {
	p := New()
	for x := range uint64(100) {
		checkSend(t, p, x, true)
		checkWaiting(t, p, x)
		checkRecv(t, p, x)
		checkWaiting(t, p)
		checkRecvNone(t, p)
	}
}

// The order is kept over many rounds, each of them from empty to full and back.
func TestRoundsFullAndEmpty(t *testing.T) {
	p := New()
	for round := range uint64(50) {
		first := 10 * round
		for x := range uint64(4) {
			checkSend(t, p, first+x, true)
		}
		checkSend(t, p, first+4, false)
		checkWaiting(t, p, first, first+1, first+2, first+3)
		for x := range uint64(4) {
			checkRecv(t, p, first+x)
		}
		checkRecvNone(t, p)
		checkWaiting(t, p)
	}
}

// With so many words left waiting the others come and go for long.
func TestRoundsPartlyFull(t *testing.T) {
	for level := range uint64(4) {
		p := New()
		for x := range level {
			checkSend(t, p, x, true)
		}
		for first := range uint64(50) {
			var want []uint64
			for x := range level + 1 {
				want = append(want, first+x)
			}
			checkSend(t, p, first+level, true)
			checkWaiting(t, p, want...)
			checkRecv(t, p, first)
			checkWaiting(t, p, want[1:]...)
		}
	}
}

// P13.1: Len and Words

func TestLenAndWordsLeaveAll(t *testing.T) {
	for n := range 5 {
		words := []uint64{8, 0, math.MaxUint64, 8}[:n]
		p := of(t, words...)
		for range 9 {
			checkWaiting(t, p, words...)
		}
		for range 9 {
			p.Len()
		}
		for range 9 {
			p.Words()
		}
		checkSend(t, p, 77, n < 4)
		for _, x := range words {
			checkRecv(t, p, x)
		}
		if n < 4 {
			checkRecv(t, p, 77)
		}
		checkRecvNone(t, p)
	}
}

func TestLenAlone(t *testing.T) {
	p := New()
	for _, want := range []int{1, 2, 3, 4, 4, 4} {
		p.Send(5)
		if got := p.Len(); got != want {
			t.Errorf("Len() = %d; want %d", got, want)
		}
	}
	for _, want := range []int{3, 2, 1, 0, 0, 0} {
		p.Recv()
		if got := p.Len(); got != want {
			t.Errorf("Len() = %d; want %d", got, want)
		}
	}
}

// R4: what Words hands out is the caller's own.

func TestWordsChangedByTheCaller(t *testing.T) {
	for n := range 5 {
		words := []uint64{1, 2, 3, 4}[:n]
		p := of(t, words...)
		got := p.Words()
		whole := got[:cap(got)]
		for i := range whole {
			whole[i] = 99
		}
		checkWaiting(t, p, words...)
		got = append(p.Words()[:0], 98, 97, 96, 95, 94)
		checkWaiting(t, p, words...)
		for _, x := range words {
			checkRecv(t, p, x)
		}
		checkRecvNone(t, p)
		if len(got) != 5 {
			t.Errorf("%d words; want 5", len(got))
		}
	}
}

func TestWordsAreNewMemoryEachTime(t *testing.T) {
	p := of(t, 1, 2, 3)
	a, b := p.Words(), p.Words()
	a[0], a[2] = 99, 98
	if want := []uint64{1, 2, 3}; !slices.Equal(b, want) {
		t.Errorf("Words() = %d behind a change of another answer; want %d", b, want)
	}
	a = append(a, 97)
	b = append(b, 4)
	if want := []uint64{99, 2, 98, 97}; !slices.Equal(a, want) {
		t.Errorf("%d behind a word more in another answer; want %d", a, want)
	}
	checkWaiting(t, p, 1, 2, 3)
}

func TestWordsStayAsTheyWereTold(t *testing.T) {
	p := of(t, 1, 2, 3)
	told := p.Words()
	checkSend(t, p, 4, true)
	checkRecv(t, p, 1)
	checkRecv(t, p, 2)
	checkSend(t, p, 5, true)
	checkSend(t, p, 6, true)
	checkWaiting(t, p, 3, 4, 5, 6)
	if want := []uint64{1, 2, 3}; !slices.Equal(told, want) {
		t.Errorf("%d behind other calls; want %d", told, want)
	}
}

// P13.1 and R5, against a second, plain telling of the pipe.

type plain []uint64

func (l *plain) send(x uint64) bool {
	if len(*l) == 4 {
		return false
	}
	*l = append(*l, x)
	return true
}

func (l *plain) recv() (uint64, bool) {
	if len(*l) == 0 {
		return 0, false
	}
	x := (*l)[0]
	*l = (*l)[1:]
	return x, true
}

// step does the same to both, and fails where they differ.
func step(t *testing.T, p *Pipe, l *plain, sends bool, x uint64) {
	t.Helper()
	if sends {
		checkSend(t, p, x, l.send(x))
		return
	}
	if want, ok := l.recv(); ok {
		checkRecv(t, p, want)
	} else {
		checkRecvNone(t, p)
	}
}

// Each way of so many sends and receives is gone; one time all is looked at
// behind each step, the other time at the end alone.
func TestAllShortWays(t *testing.T) {
	const steps = 12
	for way := range 1 << steps {
		for _, looks := range []bool{true, false} {
			p, l := New(), &plain{}
			for i := range steps {
				step(t, p, l, way>>i&1 == 1, uint64(100+i))
				if looks {
					checkWaiting(t, p, *l...)
				}
			}
			checkWaiting(t, p, *l...)
		}
		if t.Failed() {
			t.Fatalf("way %b", way)
		}
	}
}

// Two pipes go their long ways side by side, words of all kinds among them.
func TestLongWays(t *testing.T) {
	for seed := range uint64(20) {
		r := rand.New(rand.NewPCG(13, seed))
		pipes := []*Pipe{New(), New()}
		plains := []*plain{{}, {}}
		for range 2000 {
			x := r.Uint64()
			if r.IntN(3) == 0 {
				x = edges[r.IntN(len(edges))]
			}
			i := r.IntN(2)
			step(t, pipes[i], plains[i], r.IntN(2) == 0, x)
			checkWaiting(t, pipes[0], *plains[0]...)
			checkWaiting(t, pipes[1], *plains[1]...)
		}
		if t.Failed() {
			t.Fatalf("seed %d", seed)
		}
	}
}

// The same calls are answered the same on each pipe.
func TestSameEachTime(t *testing.T) {
	a, b := New(), New()
	r := rand.New(rand.NewPCG(13, 13))
	for range 500 {
		x := r.Uint64()
		if r.IntN(2) == 0 {
			checkSend(t, b, x, a.Send(x))
		} else {
			x, ok := a.Recv()
			if y, is := b.Recv(); x != y || ok != is {
				t.Errorf("Recv() = %d, %v and %d, %v", x, ok, y, is)
			}
		}
		checkWaiting(t, b, a.Words()...)
	}
}
