package regs

import (
	"math"
	"math/big"
	"math/rand/v2"
	"reflect"
	"slices"
	"testing"

	"penumbra/api"
	"penumbra/insn"
)

// top is the greatest word.
const top = math.MaxUint64

// words are registers, the rest of which are 0.
func words(r ...uint64) [api.Regs]uint64 {
	var all [api.Regs]uint64
	copy(all[:], r)
	return all
}

// code is that of a text which must be one.
func code(t *testing.T, text string) []api.Insn {
	t.Helper()
	l, line, e := insn.Code(text)
	if e != api.OK {
		t.Fatalf("insn.Code(%q): line %d, %d", text, line, e)
	}
	return l
}

// same holds two states against each other: a code of none may be nil or empty.
func same(a, b State) bool {
	return a.R == b.R && a.PC == b.PC && slices.Equal(a.Code, b.Code)
}

func checkNext(t *testing.T, s State, want api.Insn) {
	t.Helper()
	if x, ok := Next(s); x != want || !ok {
		t.Errorf("Next(%+v) = %+v, %t; want %+v, true", s, x, ok, want)
	}
}

func checkNoNext(t *testing.T, s State) {
	t.Helper()
	if x, ok := Next(s); x != (api.Insn{}) || ok {
		t.Errorf("Next(%+v) = %+v, %t; want nothing, false", s, x, ok)
	}
	checkNotPlain(t, s)
}

func checkPlain(t *testing.T, s, want State) {
	t.Helper()
	if got, ok := Plain(s); !same(got, want) || !ok {
		t.Errorf("Plain(%+v) = %+v, %t; want %+v, true", s, got, ok, want)
	}
}

func checkNotPlain(t *testing.T, s State) {
	t.Helper()
	if got, ok := Plain(s); !same(got, State{}) || ok {
		t.Errorf("Plain(%+v) = %+v, %t; want nothing, false", s, got, ok)
	}
}

func checkDone(t *testing.T, s State, x api.Insn, v uint64, want State) {
	t.Helper()
	if got := Done(s, x, v); !same(got, want) {
		t.Errorf("Done(%+v, %+v, %d) = %+v; want %+v", s, x, v, got, want)
	}
}

func checkFault(t *testing.T, s State, fault int, want State) {
	t.Helper()
	if got := Fault(s, fault); !same(got, want) {
		t.Errorf("Fault(%+v, %d) = %+v; want %+v", s, fault, got, want)
	}
}

func checkAddress(t *testing.T, s State, x api.Insn, want uint64) {
	t.Helper()
	if got := Address(s, x); got != want {
		t.Errorf("Address(%+v, %+v) = %d; want %d", s, x, got, want)
	}
}

// others has an instruction of each op that Plain leaves to others.
func others() []api.Insn {
	l := []api.Insn{
		{Op: api.Load, A: 1, B: 2, N: 5},
		{Op: api.Store, A: 1, B: 2, N: 5},
		{Op: api.Clear, B: 2, N: 5},
	}
	for n := api.Map; n <= api.Recv; n++ {
		l = append(l, api.Insn{Op: api.Call, N: n})
	}
	return l
}

// refused has instructions that insn.Check refuses, of each op and of none.
func refused() []api.Insn {
	return []api.Insn{
		{},
		{Op: -1},
		{Op: 8},
		{Op: math.MaxInt},
		{Op: math.MinInt},
		{Op: api.Set, A: -1},
		{Op: api.Set, A: 8},
		{Op: api.Set, A: 1, B: 1},
		{Op: api.Set, A: 1, N: -1},
		{Op: api.Set, A: 1, N: 65536},
		{Op: api.Add, A: 8, B: 1},
		{Op: api.Add, A: 1, B: 8},
		{Op: api.Add, A: 1, B: -1},
		{Op: api.Add, A: 1, B: 2, N: 1},
		{Op: api.Load, A: -1, B: 1},
		{Op: api.Load, A: 1, B: 8},
		{Op: api.Load, A: 1, B: 1, N: 65536},
		{Op: api.Store, A: 8, B: 1},
		{Op: api.Store, A: 1, B: -1},
		{Op: api.Store, A: 1, B: 1, N: -1},
		{Op: api.Clear, A: 1, B: 1},
		{Op: api.Clear, B: 8},
		{Op: api.Jump, A: 8},
		{Op: api.Jump, A: 1, B: 1},
		{Op: api.Jump, A: 1, N: -1},
		{Op: api.Jump, A: 1, N: api.MaxCode},
		{Op: api.Call},
		{Op: api.Call, N: 10},
		{Op: api.Call, A: 1, N: api.Map},
		{Op: api.Call, B: 1, N: api.Map},
	}
}

// farPlaces lists places that are in no code.
func farPlaces() []int {
	return []int{-1, -2, -24, math.MinInt, math.MinInt + 1, api.MaxCode, 1000, 1 << 32, math.MaxInt - 1, math.MaxInt}
}

// P8.1: Next

func TestNextIsTheInstructionAtPC(t *testing.T) {
	l := code(t, "set r2 7\nadd r0 r1\njump r0 1\nload r1 r0 3\nstore r1 r0 3\nclear r0 3\ncall recv\n")
	for pc, want := range l {
		checkNext(t, State{R: words(1, 2, 3), Code: l, PC: pc}, want)
	}
}

func TestNextOutsideOfTheCode(t *testing.T) {
	l := code(t, "set r2 7\nadd r0 r1\n")
	for _, pc := range append(farPlaces(), 2, 3) {
		checkNoNext(t, State{R: words(1), Code: l, PC: pc})
	}
	for _, pc := range append(farPlaces(), 0, 1) {
		checkNoNext(t, State{R: words(1), PC: pc})
		checkNoNext(t, State{R: words(1), Code: []api.Insn{}, PC: pc})
	}
}

func TestNextReadsNothingBehindTheCode(t *testing.T) {
	l := code(t, "set r2 7\nset r3 8\n")
	checkNoNext(t, State{Code: l[:1], PC: 1})
	checkNoNext(t, State{Code: l[:0], PC: 0})
}

func TestNextIsNoneWhereItIsRefused(t *testing.T) {
	good := api.Insn{Op: api.Set, A: 1, N: 1}
	for _, x := range refused() {
		l := []api.Insn{good, x, good}
		checkNext(t, State{R: words(1, 1), Code: l}, good)
		checkNoNext(t, State{R: words(1, 1), Code: l, PC: 1})
		checkNext(t, State{R: words(1, 1), Code: l, PC: 2}, good)
		checkNoNext(t, State{R: words(1, 1), Code: []api.Insn{x}})
	}
}

func TestNextInTheLongestCode(t *testing.T) {
	l := slices.Repeat([]api.Insn{{Op: api.Set, A: 1, N: 1}}, api.MaxCode)
	l[api.MaxCode-1].N = 2
	checkNext(t, State{Code: l, PC: api.MaxCode - 1}, l[api.MaxCode-1])
	checkNoNext(t, State{Code: l, PC: api.MaxCode})
}

// P8.1: Plain

func TestExample(t *testing.T) {
	l := code(t, "set r3 10\nset r0 1\n")
	checkPlain(t, State{R: words(1, 2, 3, 4, 5), Code: l}, State{R: words(1, 2, 3, 10, 5), Code: l, PC: 1})
}

func TestSetOfEachRegister(t *testing.T) {
	before := words(11, 12, 13, 14, 15, 16, 17, 18)
	for a := range api.Regs {
		for _, n := range []int{0, 1, 65534, 65535} {
			l := []api.Insn{{Op: api.Set, A: a, N: n}, {Op: api.Add}}
			after := before
			after[a] = uint64(n)
			checkPlain(t, State{R: before, Code: l}, State{R: after, Code: l, PC: 1})
		}
	}
}

func TestAddOfEachTwoRegisters(t *testing.T) {
	before := words(1, 2, 4, 8, 16, 32, 64, 128)
	for a := range api.Regs {
		for b := range api.Regs {
			l := []api.Insn{{Op: api.Set}, {Op: api.Add, A: a, B: b}, {Op: api.Set}}
			after := before
			after[a] = 1<<a + 1<<b
			checkPlain(t, State{R: before, Code: l, PC: 1}, State{R: after, Code: l, PC: 2})
		}
	}
}

func TestAddComesRound(t *testing.T) {
	l := code(t, "add r0 r7\nset r1 1\n")
	for _, r := range []struct{ a, b, want uint64 }{
		{0, 0, 0}, {0, top, top}, {top, 0, top}, {top, 1, 0}, {1, top, 0}, {2, top, 1}, {top, top, top - 1},
		{1 << 63, 1 << 63, 0}, {1 << 63, 1<<63 - 1, top}, {1<<63 - 1, 1, 1 << 63}, {1<<32 - 1, 1, 1 << 32},
	} {
		checkPlain(t, State{R: words(r.a, 0, 0, 0, 0, 0, 0, r.b), Code: l}, State{R: words(r.want, 0, 0, 0, 0, 0, 0, r.b), Code: l, PC: 1})
	}
	twice := code(t, "add r0 r0\nset r1 1\n")
	checkPlain(t, State{R: words(1 << 63), Code: twice}, State{Code: twice, PC: 1})
	checkPlain(t, State{R: words(top), Code: twice}, State{R: words(top - 1), Code: twice, PC: 1})
}

func TestJumpIsTakenIfTheRegisterIsNot0(t *testing.T) {
	for a := range api.Regs {
		l := []api.Insn{{Op: api.Set}, {Op: api.Jump, A: a, N: 3}, {Op: api.Set}, {Op: api.Set}}
		for _, v := range []uint64{1, 2, 1 << 32, 1 << 63, top} {
			var r [api.Regs]uint64
			r[a] = v
			checkPlain(t, State{R: r, Code: l, PC: 1}, State{R: r, Code: l, PC: 3})
		}
		r := words(1, 1, 1, 1, 1, 1, 1, 1)
		r[a] = 0
		checkPlain(t, State{R: r, Code: l, PC: 1}, State{R: r, Code: l, PC: 2})
	}
}

func TestJumpToEachPlace(t *testing.T) {
	for n := range api.MaxCode {
		for _, pc := range []int{0, 2, 4} {
			l := slices.Repeat([]api.Insn{{Op: api.Jump, A: 6, N: n}}, 5)
			to := n
			if n >= 5 {
				to = 0
			}
			r := words(0, 0, 0, 0, 0, 0, 1)
			checkPlain(t, State{R: r, Code: l, PC: pc}, State{R: r, Code: l, PC: to})
			checkPlain(t, State{Code: l, PC: pc}, State{Code: l, PC: (pc + 1) % 5})
		}
	}
}

func TestJumpInTheLongestCode(t *testing.T) {
	l := slices.Repeat([]api.Insn{{Op: api.Jump, A: 0, N: api.MaxCode - 1}}, api.MaxCode)
	checkPlain(t, State{R: words(1), Code: l}, State{R: words(1), Code: l, PC: api.MaxCode - 1})
	checkPlain(t, State{Code: l, PC: api.MaxCode - 1}, State{Code: l})
}

func TestBehindTheLastComesTheFirst(t *testing.T) {
	for _, last := range []string{"set r1 5\n", "add r1 r2\n", "jump r1 1\n"} {
		one := code(t, last)
		got, ok := Plain(State{Code: one})
		if got.PC != 0 || !ok {
			t.Errorf("%q alone: PC %d, %t; want 0, true", last, got.PC, ok)
		}
		three := code(t, "set r0 1\nset r0 1\n"+last)
		got, ok = Plain(State{Code: three, PC: 2})
		if got.PC != 0 || !ok {
			t.Errorf("%q as the last: PC %d, %t; want 0, true", last, got.PC, ok)
		}
	}
}

func TestOtherOpsAreNotPlain(t *testing.T) {
	for _, x := range others() {
		l := []api.Insn{{Op: api.Set}, x, {Op: api.Set}}
		checkNext(t, State{Code: l, PC: 1}, x)
		checkNotPlain(t, State{R: words(1, 1, 1), Code: l, PC: 1})
		checkNotPlain(t, State{Code: []api.Insn{x}})
	}
}

// run does Plain till it is false, which must be in so many steps.
func run(t *testing.T, s State, steps int) State {
	t.Helper()
	for range steps {
		next, ok := Plain(s)
		if !ok {
			t.Fatalf("Plain(%+v) is false ahead of %d steps", s, steps)
		}
		s = next
	}
	checkNotPlain(t, s)
	return s
}

func TestALoopIsRunToItsEnd(t *testing.T) {
	// 3 and 5 times 7, counted down by a register that is 2^64 - 1.
	text := "set r1 3\nset r2 5\nset r3 7\nadd r1 r3\nadd r2 r4\njump r2 3\ncall exit\n"
	l := code(t, text)
	got := run(t, State{R: words(0, 0, 0, 0, top), Code: l}, 3+3*5)
	if want := (State{R: words(0, 38, 0, 7, top), Code: l, PC: 6}); !same(got, want) {
		t.Errorf("at the end %+v; want %+v", got, want)
	}
}

func TestACodeGoesRound(t *testing.T) {
	l := code(t, "add r0 r1\nadd r1 r0\n")
	s := State{R: words(0, 1), Code: l}
	a, b := uint64(0), uint64(1)
	for i := range 200 {
		next, ok := Plain(s)
		if !ok {
			t.Fatalf("Plain(%+v) is false", s)
		}
		s = next
		if i%2 == 0 {
			a += b
		} else {
			b += a
		}
		if want := (State{R: words(a, b), Code: l, PC: (i + 1) % 2}); !same(s, want) {
			t.Fatalf("step %d: %+v; want %+v", i, s, want)
		}
	}
}

// P8.1: Address

func TestAddress(t *testing.T) {
	s := State{R: words(1, 20, 300, 4000, 50000, 600000, 7000000, 80000000)}
	for b, v := range s.R {
		for _, n := range []int{0, 1, 5, 65535} {
			for _, op := range []int{api.Load, api.Store, api.Clear} {
				checkAddress(t, s, api.Insn{Op: op, B: b, N: n}, v+uint64(n))
			}
			checkAddress(t, s, api.Insn{Op: api.Load, A: 7 - b, B: b, N: n}, v+uint64(n))
		}
	}
}

func TestAddressComesRound(t *testing.T) {
	for _, r := range []struct {
		v    uint64
		n    int
		want uint64
	}{
		{top, 0, top}, {top, 1, 0}, {top, 2, 1}, {top, 65535, 65534}, {top - 65535, 65535, top}, {top - 65534, 65535, 0}, {1<<63 - 1, 1, 1 << 63},
	} {
		checkAddress(t, State{R: words(0, 0, 0, 0, 0, 0, 0, r.v)}, api.Insn{Op: api.Load, B: 7, N: r.n}, r.want)
	}
}

func TestAddressHangsOnNeitherCodeNorPC(t *testing.T) {
	x := api.Insn{Op: api.Store, A: 3, B: 2, N: 5}
	for _, pc := range append(farPlaces(), 0) {
		checkAddress(t, State{R: words(9, 9, 3, 9), PC: pc}, x, 8)
		checkAddress(t, State{R: words(9, 9, 3, 9), Code: []api.Insn{{Op: api.Set}}, PC: pc}, x, 8)
	}
}

func TestAddressOfWhatIsRefused(t *testing.T) {
	s := State{R: words(10, 11, 12, 13, 14, 15, 16, 17)}
	for _, op := range []int{0, -1, 8, api.Set, api.Load, math.MinInt} {
		checkAddress(t, s, api.Insn{Op: op, B: 2, N: 65536}, 12+65536)
		checkAddress(t, s, api.Insn{Op: op, B: 2, N: -1}, 11)
		checkAddress(t, s, api.Insn{Op: op, B: 2, N: -13}, top)
		checkAddress(t, s, api.Insn{Op: op, B: 2, N: math.MaxInt}, 1<<63+11)
		checkAddress(t, s, api.Insn{Op: op, B: 2, N: math.MinInt}, 1<<63+12)
		for _, a := range []int{-1, 8, math.MaxInt, math.MinInt} {
			checkAddress(t, s, api.Insn{Op: op, A: a, B: 2, N: 5}, 17)
			checkAddress(t, s, api.Insn{Op: op, B: a, N: 5}, 5)
		}
	}
}

// P8.1: Done

func TestDoneOfALoad(t *testing.T) {
	before := words(11, 12, 13, 14, 15, 16, 17, 18)
	for a := range api.Regs {
		for _, v := range []uint64{0, 1, 77, 1 << 63, top} {
			x := api.Insn{Op: api.Load, A: a, B: 7 - a, N: 5}
			l := []api.Insn{x, {Op: api.Set}}
			after := before
			after[a] = v
			checkDone(t, State{R: before, Code: l}, x, v, State{R: after, Code: l, PC: 1})
		}
	}
}

func TestDoneOfACall(t *testing.T) {
	for n := api.Map; n <= api.Recv; n++ {
		x := api.Insn{Op: api.Call, N: n}
		l := []api.Insn{{Op: api.Set}, x, {Op: api.Set}}
		for _, v := range []uint64{0, 1, 88, top, top - 4} {
			checkDone(t, State{R: words(1, 2, 3, 4, 5, 6, 7, 8), Code: l, PC: 1}, x, v, State{R: words(v, 2, 3, 4, 5, 6, 7, 8), Code: l, PC: 2})
		}
	}
}

func TestDoneOfOthersIsNothing(t *testing.T) {
	r := words(11, 12, 13, 14, 15, 16, 17, 18)
	for _, x := range []api.Insn{
		{Op: api.Set, A: 1, N: 5}, {Op: api.Set, N: 5}, {Op: api.Add, A: 1, B: 2}, {Op: api.Jump, A: 1, N: 0},
		{Op: api.Jump, A: 1, N: 2}, {Op: api.Store, A: 1, B: 2, N: 5}, {Op: api.Clear, B: 2, N: 5},
	} {
		l := []api.Insn{x, {Op: api.Set}, {Op: api.Set}}
		for _, v := range []uint64{0, 1, 99, top} {
			checkDone(t, State{R: r, Code: l}, x, v, State{R: r, Code: l, PC: 1})
		}
	}
}

func TestDoneIsOfWhatIsHandedIn(t *testing.T) {
	l := code(t, "load r1 r2 5\nset r1 1\n")
	r := words(1, 2, 3)
	checkDone(t, State{R: r, Code: l}, api.Insn{Op: api.Load, A: 4}, 9, State{R: words(1, 2, 3, 0, 9), Code: l, PC: 1})
	checkDone(t, State{R: r, Code: l}, api.Insn{Op: api.Store, A: 1}, 9, State{R: r, Code: l, PC: 1})
	checkDone(t, State{R: r, Code: l}, api.Insn{Op: api.Call, N: api.Recv}, 9, State{R: words(9, 2, 3), Code: l, PC: 1})
}

func TestDoneOfWhatIsRefused(t *testing.T) {
	l := code(t, "load r1 r2 5\nset r1 1\n")
	r := words(11, 12, 13, 14, 15, 16, 17, 18)
	for _, x := range refused() {
		want := State{R: r, Code: l, PC: 1}
		if x.Op == api.Load && x.A == 1 {
			want.R[1] = 9
		}
		if x.Op == api.Call {
			want.R[0] = 9
		}
		checkDone(t, State{R: r, Code: l}, x, 9, want)
	}
	for _, a := range []int{-1, 8, math.MaxInt, math.MinInt} {
		checkDone(t, State{R: r, Code: l}, api.Insn{Op: api.Load, A: a}, 9, State{R: r, Code: l, PC: 1})
	}
}

// P8.1: Fault

func TestFaultCodes(t *testing.T) {
	l := code(t, "load r1 r2 5\nset r1 1\n")
	for fault, want := range map[int]uint64{
		api.FaultNone: 101, api.FaultRight: 102, api.FaultOutside: 103, api.FaultForm: 104, api.FaultNoMem: 105,
		0: 100, 6: 106, 1000: 1100, -1: 99, -100: 0, -101: top, math.MaxInt: 1<<63 + 99, math.MinInt: 1<<63 + 100,
	} {
		checkFault(t, State{R: words(1, 2, 3, 4, 5, 6, 7, 8), Code: l}, fault, State{R: words(1, 2, 3, 4, 5, 6, 7, want), Code: l, PC: 1})
	}
}

func TestFaultOfEachInstruction(t *testing.T) {
	for _, x := range append(others(), refused()...) {
		l := []api.Insn{x, x, x}
		for pc := range l {
			checkFault(t, State{R: words(1, 2), Code: l, PC: pc}, api.FaultOutside, State{R: words(1, 2, 0, 0, 0, 0, 0, 103), Code: l, PC: (pc + 1) % 3})
		}
	}
}

// P8.1: PC, of Done and Fault

func TestDoneAndFaultGoOn(t *testing.T) {
	l := code(t, "load r1 r2 5\nstore r1 r2 5\nclear r1 5\ncall recv\n")
	for _, r := range []struct{ pc, want int }{
		{0, 1}, {1, 2}, {2, 3}, {3, 0}, {4, 0}, {5, 0}, {1000, 0}, {math.MaxInt - 1, 0}, {math.MaxInt, 0},
		{-1, 0}, {-2, -1}, {-1000, -999}, {math.MinInt, math.MinInt + 1},
	} {
		s := State{R: words(1), Code: l, PC: r.pc}
		checkDone(t, s, l[1], 9, State{R: words(1), Code: l, PC: r.want})
		checkDone(t, s, l[3], 9, State{R: words(9), Code: l, PC: r.want})
		checkFault(t, s, api.FaultNone, State{R: words(1, 0, 0, 0, 0, 0, 0, 101), Code: l, PC: r.want})
	}
}

func TestDoneAndFaultWithoutACode(t *testing.T) {
	for _, r := range []struct{ pc, want int }{
		{0, 0}, {1, 0}, {math.MaxInt, 0}, {-1, 0}, {-2, -1}, {math.MinInt, math.MinInt + 1},
	} {
		for _, l := range [][]api.Insn{nil, {}} {
			s := State{R: words(1), Code: l, PC: r.pc}
			checkDone(t, s, api.Insn{Op: api.Load, A: 1}, 9, State{R: words(1, 9), PC: r.want})
			checkFault(t, s, api.FaultNone, State{R: words(1, 0, 0, 0, 0, 0, 0, 101), PC: r.want})
		}
	}
}

// R4

// calls does each call once, and answers the states that they handed out.
func calls(s State, x api.Insn) []State {
	Next(s)
	Address(s, x)
	plain, _ := Plain(s)
	return []State{plain, Done(s, x, 99), Fault(s, 3)}
}

func TestWhatIsHandedInIsAsItWas(t *testing.T) {
	all := append(append(others(), refused()...), code(t, "set r1 5\nadd r1 r2\njump r1 0\njump r1 9\njump r3 0\n")...)
	for _, x := range all {
		l := append(make([]api.Insn, 0, 8), api.Insn{Op: api.Set, A: 2, N: 1}, x, x)
		whole := l[:cap(l)]
		for i := 3; i < len(whole); i++ {
			whole[i] = api.Insn{Op: api.Set, A: i, N: i}
		}
		kept := slices.Clone(whole)
		for pc := -1; pc <= 8; pc++ {
			s := State{R: words(1, 2, 3, 0, 5, 6, 7, 8), Code: l, PC: pc}
			was := s
			calls(s, x)
			if s.R != was.R || s.PC != was.PC || len(s.Code) != 3 || !slices.Equal(whole, kept) {
				t.Fatalf("of %+v at %d: %+v, %+v is left", x, pc, s, whole)
			}
		}
	}
}

func TestEachCodeIsNewMemory(t *testing.T) {
	for _, x := range code(t, "set r1 5\nadd r1 r2\njump r1 0\njump r3 0\nload r1 r2 3\ncall recv\n") {
		l := append(make([]api.Insn, 0, 8), x, x)
		kept := slices.Clone(l)
		for _, pc := range []int{0, 1, 2} {
			states := calls(State{R: words(1, 2), Code: l, PC: pc}, x)
			for i, got := range states {
				whole := got.Code[:cap(got.Code)]
				for j := range whole {
					whole[j] = api.Insn{Op: api.Clear, N: i}
				}
			}
			if !slices.Equal(l, kept) || !slices.Equal(l[:8][2:], make([]api.Insn, 6)) {
				t.Fatalf("of %+v: a code that was handed out is that which was handed in", x)
			}
			for i, got := range states {
				for _, y := range got.Code {
					if y.N != i {
						t.Fatalf("of %+v: two codes that were handed out are one", x)
					}
				}
			}
		}
	}
}

// R5, and all against a second, plain telling

// plainNext tells a second time which PC is next: reckoned without bounds.
func plainNext(s State, to *big.Int) int {
	if to.Cmp(big.NewInt(int64(len(s.Code)))) >= 0 {
		return 0
	}
	return int(to.Int64())
}

// plainOne is the number behind PC.
func plainOne(s State) int {
	return plainNext(s, new(big.Int).Add(big.NewInt(int64(s.PC)), big.NewInt(1)))
}

// plainSum adds modulo 2^64, likewise without bounds on the way.
func plainSum(a, b *big.Int) uint64 {
	sum := new(big.Int).Add(a, b)
	return sum.Mod(sum, new(big.Int).Lsh(big.NewInt(1), 64)).Uint64()
}

func word(v uint64) *big.Int {
	return new(big.Int).SetUint64(v)
}

func plainPlain(s State) (State, bool) {
	if s.PC < 0 || s.PC > len(s.Code)-1 || insn.Check(s.Code[s.PC]) != api.OK {
		return State{}, false
	}
	x := s.Code[s.PC]
	if x.Op != api.Set && x.Op != api.Add && x.Op != api.Jump {
		return State{}, false
	}
	next := plainOne(s)
	if x.Op == api.Set {
		s.R[x.A] = uint64(x.N)
	}
	if x.Op == api.Add {
		s.R[x.A] = plainSum(word(s.R[x.A]), word(s.R[x.B]))
	}
	if x.Op == api.Jump && s.R[x.A] != 0 {
		next = plainNext(s, big.NewInt(int64(x.N)))
	}
	s.PC = next
	return s, true
}

func plainDone(s State, x api.Insn, v uint64) State {
	next := plainOne(s)
	for i := range s.R {
		if x.Op == api.Load && x.A == i || x.Op == api.Call && i == 0 {
			s.R[i] = v
		}
	}
	s.PC = next
	return s
}

func plainFault(s State, fault int) State {
	s.R[7], s.PC = plainSum(big.NewInt(100), big.NewInt(int64(fault))), plainOne(s)
	return s
}

func plainAddress(s State, x api.Insn) uint64 {
	v := big.NewInt(0)
	if 0 <= x.B && x.B <= 7 {
		v = word(s.R[x.B])
	}
	return plainSum(v, big.NewInt(int64(x.N)))
}

// some picks a number, the small ones more often.
func some(r *rand.Rand, most int) int {
	switch r.IntN(12) {
	case 0:
		return -1 - r.IntN(3)
	case 1:
		return most + r.IntN(3)
	case 2:
		return int(r.Uint64())
	}
	return r.IntN(most)
}

// someInsn picks one that mostly, but not always, insn.Check allows.
func someInsn(r *rand.Rand) api.Insn {
	x := api.Insn{Op: some(r, 8), A: some(r, 8), B: some(r, 8), N: some(r, 12)}
	if r.IntN(4) > 0 && (x.Op == api.Set || x.Op == api.Jump || x.Op == api.Call) {
		x.B = 0
	}
	if r.IntN(4) > 0 && (x.Op == api.Clear || x.Op == api.Call) {
		x.A = 0
	}
	if r.IntN(4) > 0 && x.Op == api.Add {
		x.N = 0
	}
	return x
}

// someState has words near both ends, and zeros.
func someState(r *rand.Rand) State {
	s := State{}
	for i := range s.R {
		s.R[i] = []uint64{0, 0, uint64(r.IntN(4)), top - uint64(r.IntN(4)), r.Uint64()}[r.IntN(5)]
	}
	for range r.IntN(10) {
		s.Code = append(s.Code, someInsn(r))
	}
	s.PC = some(r, len(s.Code)+1)
	return s
}

func TestAgainstAPlainTelling(t *testing.T) {
	r := rand.New(rand.NewPCG(8, 1))
	plain := 0
	for range 200000 {
		s, x, v := someState(r), someInsn(r), r.Uint64()
		if want, ok := plainPlain(s); ok {
			plain++
			checkPlain(t, s, want)
			checkNext(t, s, s.Code[s.PC])
		} else {
			checkNotPlain(t, s)
		}
		checkAddress(t, s, x, plainAddress(s, x))
		checkDone(t, s, x, v, plainDone(s, x, v))
		fault := some(r, 6)
		checkFault(t, s, fault, plainFault(s, fault))
		if t.Failed() {
			return
		}
	}
	if plain < 10000 {
		t.Errorf("Plain was true of %d states alone", plain)
	}
}

func TestTheSameEachTime(t *testing.T) {
	r := rand.New(rand.NewPCG(8, 2))
	for range 2000 {
		s, x := someState(r), someInsn(r)
		first := calls(s, x)
		calls(someState(r), someInsn(r))
		if again := calls(s, x); !reflect.DeepEqual(first, again) {
			t.Fatalf("of %+v, %+v: %+v, then %+v", s, x, first, again)
		}
	}
}

// R1

func TestNoCallPanics(t *testing.T) {
	edges := []int{math.MinInt, -9, -1, 0, 1, 6, 7, 8, 24, 65536, math.MaxInt}
	for op := -1; op <= 8; op++ {
		for _, a := range edges {
			for _, b := range edges {
				for _, n := range edges {
					x := api.Insn{Op: op, A: a, B: b, N: n}
					for _, pc := range []int{math.MinInt, -1, 0, 1, 2, math.MaxInt} {
						calls(State{R: words(1, 1), Code: []api.Insn{x, x}, PC: pc}, x)
						calls(State{PC: pc}, x)
						Fault(State{PC: pc}, a)
					}
				}
			}
		}
	}
}
