package insn

import (
	"fmt"
	"math"
	"math/rand/v2"
	"regexp"
	"slices"
	"strconv"
	"strings"
	"testing"

	"penumbra/api"
)

// row is an instruction and its text.
type row struct {
	x api.Insn
	s string
}

// rows has each op at its edges, and each call.
func rows() []row {
	return []row{
		{api.Insn{Op: api.Set}, "set r0 0"},
		{api.Insn{Op: api.Set, A: 7}, "set r7 0"},
		{api.Insn{Op: api.Set, A: 3, N: 10}, "set r3 10"},
		{api.Insn{Op: api.Set, N: 65535}, "set r0 65535"},
		{api.Insn{Op: api.Add}, "add r0 r0"},
		{api.Insn{Op: api.Add, A: 7, B: 1}, "add r7 r1"},
		{api.Insn{Op: api.Add, A: 1, B: 7}, "add r1 r7"},
		{api.Insn{Op: api.Load}, "load r0 r0 0"},
		{api.Insn{Op: api.Load, A: 1, B: 2, N: 5}, "load r1 r2 5"},
		{api.Insn{Op: api.Load, A: 7, B: 7, N: 65535}, "load r7 r7 65535"},
		{api.Insn{Op: api.Store}, "store r0 r0 0"},
		{api.Insn{Op: api.Store, A: 4, B: 5, N: 64}, "store r4 r5 64"},
		{api.Insn{Op: api.Store, A: 7, B: 7, N: 65535}, "store r7 r7 65535"},
		{api.Insn{Op: api.Clear}, "clear r0 0"},
		{api.Insn{Op: api.Clear, B: 6, N: 9}, "clear r6 9"},
		{api.Insn{Op: api.Clear, B: 7, N: 65535}, "clear r7 65535"},
		{api.Insn{Op: api.Jump}, "jump r0 0"},
		{api.Insn{Op: api.Jump, A: 3, N: 10}, "jump r3 10"},
		{api.Insn{Op: api.Jump, A: 7, N: api.MaxCode - 1}, "jump r7 23"},
		{api.Insn{Op: api.Call, N: 1}, "call map"},
		{api.Insn{Op: api.Call, N: 2}, "call unmap"},
		{api.Insn{Op: api.Call, N: 3}, "call protect"},
		{api.Insn{Op: api.Call, N: 4}, "call out"},
		{api.Insn{Op: api.Call, N: 5}, "call fork"},
		{api.Insn{Op: api.Call, N: 6}, "call exit"},
		{api.Insn{Op: api.Call, N: 7}, "call yield"},
		{api.Insn{Op: api.Call, N: 8}, "call send"},
		{api.Insn{Op: api.Call, N: 9}, "call recv"},
	}
}

func checkRefused(t *testing.T, x api.Insn) {
	t.Helper()
	if e := Check(x); e != api.ErrArg {
		t.Errorf("Check(%+v) = %d; want ErrArg", x, e)
	}
	if s, e := Print(x); s != "" || e != api.ErrArg {
		t.Errorf("Print(%+v) = %q, %d; want nothing, ErrArg", x, s, e)
	}
}

func checkTold(t *testing.T, x api.Insn, want string) {
	t.Helper()
	if e := Check(x); e != api.OK {
		t.Errorf("Check(%+v) = %d; want OK", x, e)
	}
	if s, e := Print(x); s != want || e != api.OK {
		t.Errorf("Print(%+v) = %q, %d; want %q, OK", x, s, e, want)
	}
	if got, e := Parse(want); got != x || e != api.OK {
		t.Errorf("Parse(%q) = %+v, %d; want %+v, OK", want, got, e, x)
	}
}

func checkNoText(t *testing.T, s string) {
	t.Helper()
	if x, e := Parse(s); x != (api.Insn{}) || e != api.ErrForm {
		t.Errorf("Parse(%q) = %+v, %d; want nothing, ErrForm", s, x, e)
	}
}

func checkCode(t *testing.T, text string, want []api.Insn) {
	t.Helper()
	if l, line, e := Code(text); !slices.Equal(l, want) || line != 0 || e != api.OK {
		t.Errorf("Code(%q) = %v, %d, %d; want %v, 0, OK", text, l, line, e, want)
	}
}

func checkNoCode(t *testing.T, text string, want int) {
	t.Helper()
	if l, line, e := Code(text); len(l) != 0 || line != want || e != api.ErrForm {
		t.Errorf("Code(%q) = %v, %d, %d; want nothing, %d, ErrForm", text, l, line, e, want)
	}
}

// P7.1: Check, Print

func TestExample(t *testing.T) {
	checkTold(t, api.Insn{Op: api.Load, A: 1, B: 2, N: 5}, "load r1 r2 5")
}

func TestEachOpAndCallIsToldAndRead(t *testing.T) {
	for _, r := range rows() {
		checkTold(t, r.x, r.s)
	}
}

func TestOpsThatAreNone(t *testing.T) {
	for _, op := range []int{0, 8, -1, 9, -7, 100, math.MaxInt, math.MinInt} {
		checkRefused(t, api.Insn{Op: op})
		checkRefused(t, api.Insn{Op: op, A: 1, B: 1, N: 1})
	}
}

// outside lists what is no register, and no 0.
func outside() []int {
	return []int{-1, 8, -8, 9, 64, math.MaxInt, math.MinInt}
}

func TestRegistersThatTheOpHas(t *testing.T) {
	for _, op := range []int{api.Set, api.Add, api.Load, api.Store, api.Jump} {
		for a := range api.Regs {
			if e := Check(api.Insn{Op: op, A: a}); e != api.OK {
				t.Errorf("op %d, A %d: %d; want OK", op, a, e)
			}
		}
		for _, a := range outside() {
			checkRefused(t, api.Insn{Op: op, A: a})
		}
	}
	for _, op := range []int{api.Add, api.Load, api.Store, api.Clear} {
		for b := range api.Regs {
			if e := Check(api.Insn{Op: op, B: b}); e != api.OK {
				t.Errorf("op %d, B %d: %d; want OK", op, b, e)
			}
		}
		for _, b := range outside() {
			checkRefused(t, api.Insn{Op: op, B: b})
		}
	}
}

func TestRegistersThatTheOpHasNot(t *testing.T) {
	wrong := append(outside(), 1, 2, 7)
	for _, v := range wrong {
		checkRefused(t, api.Insn{Op: api.Clear, A: v})
		checkRefused(t, api.Insn{Op: api.Call, A: v, N: api.Map})
		checkRefused(t, api.Insn{Op: api.Set, B: v})
		checkRefused(t, api.Insn{Op: api.Jump, B: v})
		checkRefused(t, api.Insn{Op: api.Call, B: v, N: api.Map})
	}
}

func TestNumbersThatTheOpHas(t *testing.T) {
	for _, op := range []int{api.Set, api.Load, api.Store, api.Clear} {
		for _, n := range []int{0, 1, 23, 24, 65534, 65535} {
			if e := Check(api.Insn{Op: op, N: n}); e != api.OK {
				t.Errorf("op %d, N %d: %d; want OK", op, n, e)
			}
		}
		for _, n := range []int{-1, 65536, -65536, 1 << 20, math.MaxInt, math.MinInt} {
			checkRefused(t, api.Insn{Op: op, N: n})
		}
	}
}

func TestAddHasNoNumber(t *testing.T) {
	for _, n := range []int{-1, 1, 7, 65535, 65536, math.MaxInt, math.MinInt} {
		checkRefused(t, api.Insn{Op: api.Add, A: 1, B: 2, N: n})
	}
}

func TestJumpLeadsIntoTheLongestCode(t *testing.T) {
	for n := range api.MaxCode {
		checkTold(t, api.Insn{Op: api.Jump, A: 2, N: n}, "jump r2 "+strconv.Itoa(n))
	}
	for _, n := range []int{-1, api.MaxCode, api.MaxCode + 1, 65535, 65536, math.MaxInt, math.MinInt} {
		checkRefused(t, api.Insn{Op: api.Jump, A: 2, N: n})
	}
}

func TestCallsThatAreNone(t *testing.T) {
	for _, n := range []int{0, 10, -1, 11, 65535, math.MaxInt, math.MinInt} {
		checkRefused(t, api.Insn{Op: api.Call, N: n})
	}
}

// plainPrint tells an instruction a second time, op by op.
func plainPrint(x api.Insn) string {
	calls := strings.Fields("none map unmap protect out fork exit yield send recv")
	switch x.Op {
	case api.Set:
		return fmt.Sprintf("set r%d %d", x.A, x.N)
	case api.Add:
		return fmt.Sprintf("add r%d r%d", x.A, x.B)
	case api.Load:
		return fmt.Sprintf("load r%d r%d %d", x.A, x.B, x.N)
	case api.Store:
		return fmt.Sprintf("store r%d r%d %d", x.A, x.B, x.N)
	case api.Clear:
		return fmt.Sprintf("clear r%d %d", x.B, x.N)
	case api.Jump:
		return fmt.Sprintf("jump r%d %d", x.A, x.N)
	}
	return "call " + calls[x.N]
}

// plainCheck tells a second time what is an instruction.
func plainCheck(x api.Insn) bool {
	register := func(r int) bool { return 0 <= r && r <= 7 }
	number := func(n int) bool { return 0 <= n && n <= 65535 }
	switch x.Op {
	case api.Set:
		return register(x.A) && x.B == 0 && number(x.N)
	case api.Add:
		return register(x.A) && register(x.B) && x.N == 0
	case api.Load, api.Store:
		return register(x.A) && register(x.B) && number(x.N)
	case api.Clear:
		return x.A == 0 && register(x.B) && number(x.N)
	case api.Jump:
		return register(x.A) && x.B == 0 && 0 <= x.N && x.N <= 23
	case api.Call:
		return x.A == 0 && x.B == 0 && 1 <= x.N && x.N <= 9
	}
	return false
}

func TestAgainstAPlainTelling(t *testing.T) {
	numbers := []int{math.MinInt, -1, 0, 1, 2, 7, 8, 9, 10, 22, 23, 24, 25, 99, 100, 9999, 10000, 65534, 65535, 65536, math.MaxInt}
	for op := -1; op <= 9; op++ {
		for a := -2; a <= 9; a++ {
			for b := -2; b <= 9; b++ {
				for _, n := range numbers {
					x := api.Insn{Op: op, A: a, B: b, N: n}
					if plainCheck(x) {
						checkTold(t, x, plainPrint(x))
					} else {
						checkRefused(t, x)
					}
				}
			}
		}
	}
}

func TestEveryNumberIsToldAndRead(t *testing.T) {
	for n := range 65536 {
		for _, x := range []api.Insn{
			{Op: api.Set, A: n % 8, N: n},
			{Op: api.Load, A: n % 8, B: n / 8 % 8, N: n},
			{Op: api.Store, A: n % 8, B: n / 8 % 8, N: n},
			{Op: api.Clear, B: n % 8, N: n},
		} {
			checkTold(t, x, plainPrint(x))
		}
	}
}

// P7.1: Parse

func TestParseBlanks(t *testing.T) {
	for _, r := range rows() {
		checkNoText(t, " "+r.s)
		checkNoText(t, r.s+" ")
		for i := range len(r.s) {
			if r.s[i] == ' ' {
				checkNoText(t, r.s[:i]+" "+r.s[i:])
				checkNoText(t, r.s[:i]+r.s[i+1:])
				checkNoText(t, r.s[:i]+"\t"+r.s[i+1:])
				checkNoText(t, r.s[:i]+"\u00a0"+r.s[i+1:])
			}
		}
	}
}

func TestParseEndsWhereTheTextEnds(t *testing.T) {
	for _, r := range rows() {
		for _, behind := range []string{"\n", "\r", "\x00", "\t", "x", " 0", " r0", "\u00e9", "\xff"} {
			checkNoText(t, r.s+behind)
			checkNoText(t, behind+r.s)
		}
		for n := range len(r.s) {
			if s := r.s[:n]; !plainParse(s) {
				checkNoText(t, s)
			}
		}
	}
}

func TestParseWordsLeftOutOrTooMany(t *testing.T) {
	for _, r := range rows() {
		words := strings.Split(r.s, " ")
		for i := range words {
			checkNoText(t, strings.Join(slices.Delete(slices.Clone(words), i, i+1), " "))
			checkNoText(t, strings.Join(slices.Insert(slices.Clone(words), i, words[i]), " "))
			checkNoText(t, strings.Join(slices.Insert(slices.Clone(words), i, ""), " "))
		}
		for _, more := range []string{"0", "r0", "5", "r5", "map", "r"} {
			checkNoText(t, r.s+" "+more)
		}
	}
}

func TestParseOtherNumbers(t *testing.T) {
	wrong := []string{
		"", "00", "01", "007", "+0", "-0", "+1", "-1", "65536", "99999", "100000", "1_0", "0x1", "1e2", "1.0", "0b1", "0o7",
		"2147483648", "4294967296", "4294967297", "9223372036854775807", "9223372036854775808", "-9223372036854775808",
		"18446744073709551615", "18446744073709551616", "18446744073709551617", strings.Repeat("9", 1000), strings.Repeat("0", 1000) + "1",
		"r1", "one", "map", "\u0661", "\uff11", "\u00b2", "1\x00", "\x001", "1,", "'1'",
	}
	for _, n := range wrong {
		for _, ahead := range []string{"set r1 ", "load r1 r2 ", "store r1 r2 ", "clear r1 ", "jump r1 "} {
			checkNoText(t, ahead+n)
		}
	}
	for _, n := range []string{"24", "25", "023", "65535", "-1", "+23"} {
		checkNoText(t, "jump r1 "+n)
	}
}

func TestParseOtherRegisters(t *testing.T) {
	wrong := []string{
		"", "r", "1", "R1", "r8", "r9", "r10", "r01", "r00", "r+1", "r-1", "r-0", "rr1", "1r", "r1r", "r1,", "r\u0661", "\uff521",
		"r18446744073709551616", "r4294967297", "r" + strings.Repeat("7", 1000), "x1", "a1", "r 1", "r\x001",
	}
	for _, r := range wrong {
		for _, s := range []string{
			"set " + r + " 1", "add " + r + " r1", "add r1 " + r, "load " + r + " r1 1", "load r1 " + r + " 1",
			"store " + r + " r1 1", "store r1 " + r + " 1", "clear " + r + " 1", "jump " + r + " 1",
		} {
			checkNoText(t, s)
		}
	}
}

func TestParseOtherOpsAndCalls(t *testing.T) {
	for _, s := range []string{
		"", " ", "  ", "set", "add", "load", "store", "clear", "jump", "call", "call ", "call  map", "map", "recv", "1", "1 0 0 0",
		"Set r1 1", "SET r1 1", "sET r1 1", "sets r1 1", "se r1 1", "move r1 1", "r1 1", " r1 1", "none r1 r1 1", "nop",
		"call Map", "call MAP", "call 0", "call 1", "call 9", "call 10", "call -1", "call r0", "call none", "call nothing",
		"call map map", "call maps", "call ma", "call r0 map", "call map 0", "Call map",
		"set r1 r1", "set r1 r2 3", "add r1 2", "add r1 r2 0", "load r1 5", "load 1 2 5", "store r1 r2", "clear r1 r2 5", "clear 5", "jump 5", "jump r1 r2", "jump r1 r2 5",
	} {
		checkNoText(t, s)
	}
	for _, r := range rows() {
		checkNoText(t, strings.ToUpper(r.s))
		checkNoText(t, strings.ToUpper(r.s[:1])+r.s[1:])
	}
}

func TestParseLongTexts(t *testing.T) {
	const n = 1 << 20
	for _, s := range []string{
		strings.Repeat(" ", n), strings.Repeat("r", n), strings.Repeat("\xff", n), strings.Repeat("set r1 1 ", n),
		"set r1 " + strings.Repeat("1", n), "set r1 " + strings.Repeat("x", n), "set r" + strings.Repeat("0", n) + " 1", "call " + strings.Repeat("map", n),
	} {
		if x, e := Parse(s); x != (api.Insn{}) || e != api.ErrForm {
			t.Errorf("Parse(%q..) = %+v, %d; want nothing, ErrForm", s[:20], x, e)
		}
		if l, line, e := Code(s + "\n"); len(l) != 0 || line != 1 || e != api.ErrForm {
			t.Errorf("Code(%q..) = %v, %d, %d; want nothing, 1, ErrForm", s[:20], l, line, e)
		}
	}
}

var (
	withNumber = regexp.MustCompile(`\A(?:set r[0-7]|(?:load|store) r[0-7] r[0-7]|clear r[0-7]) (0|[1-9][0-9]{0,4})\z`)
	without    = regexp.MustCompile(`\A(?:add r[0-7] r[0-7]|jump r[0-7] (?:[0-9]|1[0-9]|2[0-3])|call (?:map|unmap|protect|out|fork|exit|yield|send|recv))\z`)
)

// plainParse tells a second time whether a text is an instruction's.
func plainParse(s string) bool {
	if without.MatchString(s) {
		return true
	}
	m := withNumber.FindStringSubmatch(s)
	if m == nil {
		return false
	}
	n, err := strconv.Atoi(m[1])
	return err == nil && n <= 65535
}

// bent changes a text a little: a byte goes, comes, or is another, or two parts change their places.
func bent(r *rand.Rand, s string) string {
	const bytes = " \n\x00\t0123456789rRsetaddloadstoreclearjumpcallmap+-_\xff"
	i := r.IntN(len(s) + 1)
	c := string(bytes[r.IntN(len(bytes))])
	switch r.IntN(5) {
	case 0:
		return s[:i] + c + s[i:]
	case 1:
		return s[:i] + s[min(i+1, len(s)):]
	case 2:
		return s[:i] + c + s[min(i+1, len(s)):]
	case 3:
		return s[i:] + s[:i]
	}
	return s
}

func TestParseAgainstAPlainTelling(t *testing.T) {
	r := rand.New(rand.NewPCG(7, 1))
	texts := rows()
	read := 0
	for range 200000 {
		s := texts[r.IntN(len(texts))].s
		for range r.IntN(3) {
			s = bent(r, s)
		}
		if !plainParse(s) {
			checkNoText(t, s)
			continue
		}
		read++
		x, e := Parse(s)
		if again, f := Print(x); e != api.OK || f != api.OK || again != s || plainPrint(x) != s {
			t.Errorf("Parse(%q) = %+v, %d; it prints as %q, %d", s, x, e, again, f)
		}
	}
	if read < 1000 {
		t.Errorf("%d texts were instructions: too few to tell", read)
	}
}

// P7.1: Code

func TestCodeOfSomeLines(t *testing.T) {
	checkCode(t, "load r1 r2 5\n", []api.Insn{{Op: api.Load, A: 1, B: 2, N: 5}})
	checkCode(t, "set r0 3\nadd r1 r0\njump r1 1\ncall exit\n", []api.Insn{
		{Op: api.Set, N: 3}, {Op: api.Add, A: 1}, {Op: api.Jump, A: 1, N: 1}, {Op: api.Call, N: api.Exit},
	})
}

func TestCodeKeepsTheOrder(t *testing.T) {
	var text strings.Builder
	var want []api.Insn
	for i, r := range rows() {
		text.WriteString(r.s + "\n")
		want = append(want, r.x)
		if i+1 == api.MaxCode {
			break
		}
	}
	checkCode(t, text.String(), want)
}

func TestCodeLengths(t *testing.T) {
	x := api.Insn{Op: api.Call, N: api.Yield}
	for n := 1; n <= api.MaxCode; n++ {
		checkCode(t, strings.Repeat("call yield\n", n), slices.Repeat([]api.Insn{x}, n))
	}
	for _, n := range []int{1, 2, 3, 100, 10000} {
		checkNoCode(t, strings.Repeat("call yield\n", api.MaxCode+n), api.MaxCode+1)
	}
}

func TestCodeWithOneLineTooMany(t *testing.T) {
	full := strings.Repeat("call yield\n", api.MaxCode)
	for _, behind := range []string{"\n", "x\n", " ", "x", "call yield", "call yield\n", "x\nx\n", "\n\n"} {
		checkNoCode(t, full+behind, api.MaxCode+1)
	}
	for n := range api.MaxCode {
		text := strings.Repeat("call yield\n", n) + "x\n" + full
		checkNoCode(t, text, n+1)
	}
}

func TestCodeWithoutAnyLine(t *testing.T) {
	checkNoCode(t, "", 1)
}

func TestCodeLastLineThatIsNotEnded(t *testing.T) {
	for _, last := range []string{"call map", "x", " ", "set r1", "\x00", "call map\r"} {
		for n := range api.MaxCode + 1 {
			checkNoCode(t, strings.Repeat("set r1 2\n", n)+last, n+1)
		}
	}
}

func TestCodeEmptyLines(t *testing.T) {
	checkNoCode(t, "\n", 1)
	checkNoCode(t, "\n\n\n", 1)
	checkNoCode(t, "\ncall map\n", 1)
	checkNoCode(t, "call map\n\ncall map\n", 2)
	checkNoCode(t, "call map\ncall map\n\n", 3)
}

func TestCodeTellsTheFirstLineThatIsNone(t *testing.T) {
	for _, wrong := range []string{"", " ", "call", "call map ", " call map", "call 1", "set r8 1", "jump r1 24", "call map\r", "\xff"} {
		for first := range api.MaxCode {
			lines := slices.Repeat([]string{"call map"}, api.MaxCode)
			for i := first; i < api.MaxCode; i += 3 {
				lines[i] = wrong
			}
			checkNoCode(t, strings.Join(lines, "\n")+"\n", first+1)
			checkNoCode(t, strings.Join(lines, "\n")+"\nx", first+1)
		}
	}
}

func TestCodeIsNewMemory(t *testing.T) {
	const text = "set r1 2\ncall map\n"
	a, _, _ := Code(text)
	b, _, _ := Code(text)
	for i := range a {
		a[i] = api.Insn{Op: 99}
	}
	_ = append(a[:1], api.Insn{Op: 98})
	want := []api.Insn{{Op: api.Set, A: 1, N: 2}, {Op: api.Call, N: api.Map}}
	if !slices.Equal(b, want) {
		t.Errorf("the second list is %v, behind a change of the first; want %v", b, want)
	}
	checkCode(t, text, want)
}

// plainCode tells a second time: the instructions' texts, or the first line that is none.
func plainCode(text string) ([]string, int) {
	lines := strings.Split(text, "\n")
	last := len(lines) - 1
	for i, s := range lines[:last] {
		if i == 24 || !plainParse(s) {
			return nil, i + 1
		}
	}
	if last == 0 || lines[last] != "" {
		return nil, last + 1
	}
	return lines[:last], 0
}

func TestCodeAgainstAPlainTelling(t *testing.T) {
	r := rand.New(rand.NewPCG(7, 2))
	texts := rows()
	whole := 0
	for range 50000 {
		var text string
		for range r.IntN(28) {
			text += texts[r.IntN(len(texts))].s + "\n"
		}
		for range r.IntN(3) {
			text = bent(r, text)
		}
		want, at := plainCode(text)
		if at != 0 {
			checkNoCode(t, text, at)
			continue
		}
		whole++
		l, line, e := Code(text)
		var got []string
		for _, x := range l {
			got = append(got, plainPrint(x))
		}
		if line != 0 || e != api.OK || !slices.Equal(got, want) {
			t.Errorf("Code(%q) = %v, %d, %d; want %q, 0, OK", text, l, line, e, want)
		}
	}
	if whole < 1000 {
		t.Errorf("%d texts were codes: too few to tell", whole)
	}
}

// R1

func TestNoTextMakesAPanic(t *testing.T) {
	r := rand.New(rand.NewPCG(7, 3))
	for range 100000 {
		b := make([]byte, r.IntN(40))
		for i := range b {
			b[i] = byte(r.IntN(256))
		}
		s := string(b)
		x, e := Parse(s)
		if (e == api.OK) != plainParse(s) || (e != api.OK && (x != api.Insn{} || e != api.ErrForm)) {
			t.Errorf("Parse(%q) = %+v, %d", s, x, e)
		}
		_, want := plainCode(s)
		if _, line, _ := Code(s); line != want {
			t.Errorf("Code(%q): line %d; want %d", s, line, want)
		}
	}
}

func TestNoInstructionMakesAPanic(t *testing.T) {
	r := rand.New(rand.NewPCG(7, 4))
	for range 100000 {
		x := api.Insn{Op: int(r.Uint64()), A: int(r.Uint64()), B: int(r.Uint64()), N: int(r.Uint64())}
		if r.IntN(2) == 0 {
			x.Op = r.IntN(10) - 1
		}
		if Check(x) == api.OK && !plainCheck(x) {
			t.Errorf("Check(%+v) = OK", x)
		}
		if s, e := Print(x); (e == api.OK) != plainCheck(x) || (e != api.OK && s != "") {
			t.Errorf("Print(%+v) = %q, %d", x, s, e)
		}
	}
}
