package tlb

import (
	"math"
	"math/rand/v2"
	"slices"
	"testing"

	"penumbra/api"
)

// own is an item of one PCID; its frame tells which one it is.
func own(pcid, page, frame int) Item {
	return Item{PCID: pcid, Page: page, Frame: frame}
}

func global(pcid, page, frame int) Item {
	return Item{PCID: pcid, Page: page, Frame: frame, Global: true}
}

// with makes a TLB into which so many items were put, one by one.
func with(items ...Item) *TLB {
	t := New()
	for _, x := range items {
		t.Put(x)
	}
	return t
}

// full is as many items as there may be: of PCID 2 the pages 10, 11, ..
func full() []Item {
	var items []Item
	for i := range api.TLBSize {
		items = append(items, own(2, 10+i, 20+i))
	}
	return items
}

func checkList(t *testing.T, what string, x *TLB, want ...Item) {
	t.Helper()
	if got := x.List(); !slices.Equal(got, want) {
		t.Errorf("%s: %v; want %v", what, got, want)
	}
}

func checkFound(t *testing.T, what string, x *TLB, pcid, page int, want Item) {
	t.Helper()
	if got, ok := x.Find(pcid, page); !ok || got != want {
		t.Errorf("%s: Find(%d, %d) = %v, %v; want %v, true", what, pcid, page, got, ok, want)
	}
}

func checkNone(t *testing.T, what string, x *TLB, pcid, page int) {
	t.Helper()
	if got, ok := x.Find(pcid, page); ok || got != (Item{}) {
		t.Errorf("%s: Find(%d, %d) = %v, %v; want nothing", what, pcid, page, got, ok)
	}
}

func checkForget(t *testing.T, x *TLB, n int, want bool) {
	t.Helper()
	if got := x.Forget(n); got != want {
		t.Errorf("Forget(%d) = %v; want %v", n, got, want)
	}
}

// P6.1

func TestFindExample(t *testing.T) {
	x := New()
	for pcid := range 8 {
		for page := range 8 {
			checkNone(t, "a new one", x, pcid, page)
		}
	}
}

func TestNewHasNothing(t *testing.T) {
	x := New()
	checkList(t, "New", x)
	checkForget(t, x, 0, false)
	x.Put(own(1, 2, 3))
	checkList(t, "another New", New())
}

func TestPutIsFoundWhole(t *testing.T) {
	for _, want := range []Item{
		{PCID: 2, Page: 5, Frame: 17, Write: true, User: true, Global: true},
		{PCID: 2, Page: 5, Frame: 17, Write: true},
		{PCID: 2, Page: 5, Frame: 17, User: true},
		{PCID: 2, Page: 5, Frame: 17, Global: true},
		{PCID: 2, Page: 5, Frame: 17},
		{PCID: 7, Page: 511, Frame: 63, Write: true, User: true},
		{PCID: 2, Page: 5},
		{},
	} {
		x := with(want)
		checkFound(t, "one item", x, want.PCID, want.Page, want)
		checkList(t, "one item", x, want)
	}
}

func TestTwoPCIDsOfOnePage(t *testing.T) {
	a, b := own(2, 5, 17), own(4, 5, 18)
	x := with(a, b)
	checkFound(t, "the eldest", x, 2, 5, a)
	checkFound(t, "the youngest", x, 4, 5, b)
	checkNone(t, "a third PCID", x, 3, 5)
	checkNone(t, "another page", x, 2, 6)
	checkNone(t, "pcid and page the other way", x, 5, 2)
	checkList(t, "both", x, a, b)
}

func TestListEldestFirst(t *testing.T) {
	items := []Item{own(4, 9, 1), own(2, 3, 5), global(3, 7, 2), own(2, 1, 9), own(1, 3, 4)}
	x := New()
	for i, item := range items {
		x.Put(item)
		checkList(t, "one by one", x, items[:i+1]...)
	}
}

func TestFindChangesNothing(t *testing.T) {
	items := []Item{own(2, 1, 10), global(4, 2, 11), own(2, 3, 12)}
	x := with(items...)
	for pcid := range 5 {
		for page := range 5 {
			x.Find(pcid, page)
		}
	}
	checkList(t, "Find", x, items...)
	for i := range api.TLBSize - 2 {
		x.Find(2, 1)
		x.Put(own(5, 20+i, i))
	}
	checkNone(t, "what was found is no younger", x, 2, 1)
}

func TestGlobalServesEveryPCID(t *testing.T) {
	g := Item{PCID: 3, Page: 5, Frame: 17, User: true, Global: true}
	x := with(own(2, 4, 16), g)
	for _, pcid := range []int{math.MinInt, -1, 0, 2, 3, 4, 7, math.MaxInt} {
		checkFound(t, "Global", x, pcid, 5, g)
		checkNone(t, "another page", x, pcid, 6)
	}
	checkFound(t, "beside it", x, 2, 4, own(2, 4, 16))
	checkNone(t, "beside it", x, 3, 4)
}

// Of a PCID's own item and a Global one the eldest is found. It is the own one:
// had it been put later, the Global one would have gone.
func TestEldestOfTwoThatServe(t *testing.T) {
	mine, g, other := own(4, 5, 11), global(2, 5, 12), own(6, 5, 13)
	x := with(mine, g)
	checkList(t, "both", x, mine, g)
	checkFound(t, "whose own is the eldest", x, 4, 5, mine)
	checkFound(t, "another PCID", x, 6, 5, g)
	checkFound(t, "the Global one's own PCID", x, 2, 5, g)

	x = with(mine, other, g)
	checkFound(t, "the eldest", x, 4, 5, mine)
	checkFound(t, "the second", x, 6, 5, other)
	checkFound(t, "a third PCID", x, 8, 5, g)
	checkForget(t, x, 0, true)
	checkFound(t, "whose own is gone", x, 4, 5, g)
}

func TestPutWherePageIsThere(t *testing.T) {
	a, b, c := own(2, 5, 11), own(4, 5, 12), own(2, 6, 13)
	again := Item{PCID: 2, Page: 5, Frame: 14, Write: true, User: true}
	x := with(a, b, c, again)
	checkList(t, "the eldest again", x, b, c, again)
	checkFound(t, "the eldest again", x, 2, 5, again)
	checkFound(t, "the other PCID's", x, 4, 5, b)
	x.Put(again)
	checkList(t, "the youngest again", x, b, c, again)
	x.Put(c)
	checkList(t, "a middle one again", x, b, again, c)
}

func TestPutWhereGlobalIsThere(t *testing.T) {
	g, h := global(2, 5, 11), global(2, 6, 12)
	other := own(6, 6, 13)
	mine := own(4, 5, 14)
	x := with(g, other, h, mine)
	checkList(t, "an own one", x, other, h, mine)
	checkNone(t, "the PCID of the Global one that went", x, 2, 5)
	checkFound(t, "an own one", x, 4, 5, mine)

	youngest := global(7, 6, 15)
	x.Put(youngest)
	checkList(t, "a Global one", x, other, mine, youngest)
}

// A PCID's own item and a Global one of that page both go.
func TestPutWhereBothAreThere(t *testing.T) {
	mine, other, g := own(4, 5, 11), own(6, 5, 12), global(2, 5, 13)
	beside := own(4, 6, 14)
	for _, x := range []Item{own(4, 5, 15), global(4, 5, 15)} {
		checkList(t, "both", with(mine, beside, other, g, x), beside, other, x)
	}
}

func TestPutGlobalLeavesOthersOwn(t *testing.T) {
	a, b, c := own(2, 5, 11), own(4, 5, 12), own(6, 5, 13)
	g := global(8, 5, 14)
	checkList(t, "of a fourth PCID", with(a, b, c, g), a, b, c, g)
	g.PCID = 4
	checkList(t, "of the second one's PCID", with(a, b, c, g), a, c, g)
}

func TestEldestGoesWhenFull(t *testing.T) {
	items := full()
	x := with(items...)
	checkList(t, "full", x, items...)
	checkFound(t, "full", x, 2, 10, items[0])
	for i := range 2 * api.TLBSize {
		items = append(items, own(4, 10+i, 40+i))
		x.Put(items[len(items)-1])
		checkList(t, "one more", x, items[i+1:]...)
		checkNone(t, "who went", x, items[i].PCID, items[i].Page)
	}
}

// A Global item is let go as any other, by its age alone.
func TestEldestGoesThoughGlobal(t *testing.T) {
	items := full()
	items[0].Global = true
	more := own(2, 40, 41)
	checkList(t, "one more", with(append(items, more)...), append(items[1:], more)...)

	items = full()
	g := global(2, 40, 41)
	checkList(t, "one more", with(append(items, g)...), append(items[1:], g)...)
}

func TestPutAgainWhenFull(t *testing.T) {
	for n := range api.TLBSize {
		items := full()
		x := with(items...)
		again := own(2, 10+n, 50)
		x.Put(again)
		want := append(slices.Delete(items, n, n+1), again)
		checkList(t, "own again", x, want...)

		items = full()
		items[n].Global = true
		x = with(items...)
		again = own(4, 10+n, 50)
		x.Put(again)
		want = append(slices.Delete(items, n, n+1), again)
		checkList(t, "where a Global one is", x, want...)
	}
}

// What Put lets go of its page is enough room: the eldest stays.
func TestPutOfTwoWhenFull(t *testing.T) {
	items := full()
	items[3] = own(4, 30, 31)
	items[6] = global(2, 30, 32)
	again := own(4, 30, 33)
	want := []Item{items[0], items[1], items[2], items[4], items[5], items[7], again}
	checkList(t, "two go", with(append(items, again)...), want...)
}

func TestDropPage(t *testing.T) {
	a, b, c, d := own(2, 5, 11), own(4, 5, 12), own(2, 6, 13), own(4, 6, 14)
	x := with(a, b, c, d)
	x.DropPage(2, 5)
	checkList(t, "the first", x, b, c, d)
	checkNone(t, "the first", x, 2, 5)
	x.DropPage(2, 5)
	checkList(t, "again", x, b, c, d)
	x.DropPage(2, 6)
	checkList(t, "a middle one", x, b, d)
	x.DropPage(4, 6)
	checkList(t, "the last", x, b)
	x.DropPage(4, 5)
	checkList(t, "all", x)
}

func TestDropPageOfGlobal(t *testing.T) {
	for _, pcid := range []int{math.MinInt, -1, 0, 2, 4, 9, math.MaxInt} {
		other, g, beside := own(6, 5, 11), global(2, 5, 12), global(2, 6, 13)
		x := with(other, g, beside)
		x.DropPage(pcid, 5)
		checkList(t, "Global", x, other, beside)
	}
}

// A PCID's own item and a Global one of that page both go.
func TestDropPageOfBoth(t *testing.T) {
	mine, other, g := own(4, 5, 11), own(6, 5, 12), global(2, 5, 13)
	x := with(mine, other, g)
	x.DropPage(4, 5)
	checkList(t, "both", x, other)
}

func TestDropPCID(t *testing.T) {
	a, b, c, d := own(2, 5, 11), own(4, 5, 12), own(2, 6, 13), own(4, 6, 14)
	x := with(a, b, c, d)
	x.DropPCID(2)
	checkList(t, "PCID 2", x, b, d)
	x.DropPCID(2)
	checkList(t, "again", x, b, d)
	x.DropPCID(4)
	checkList(t, "PCID 4", x)
}

func TestDropPCIDSparesGlobal(t *testing.T) {
	a, g, b := own(2, 5, 11), global(2, 6, 12), own(2, 7, 13)
	other, h := own(4, 8, 14), global(4, 9, 15)
	x := with(a, g, b, other, h)
	x.DropPCID(2)
	checkList(t, "PCID 2", x, g, other, h)
	checkFound(t, "Global", x, 2, 6, g)
	x.DropPCID(4)
	checkList(t, "PCID 4", x, g, h)
}

func TestDropAll(t *testing.T) {
	x := New()
	x.DropAll()
	checkList(t, "of none", x)
	for _, items := range [][]Item{{own(2, 5, 11)}, {global(2, 5, 11), own(4, 5, 12), global(4, 6, 13)}, full()} {
		x := with(items...)
		x.DropAll()
		checkList(t, "of many", x)
		for _, item := range items {
			checkNone(t, "of many", x, item.PCID, item.Page)
		}
		checkForget(t, x, 0, false)
	}
}

// Who leaves makes room: nobody else goes for the next one.
func TestRoomBehindWhoLeft(t *testing.T) {
	leave := []func(x *TLB){
		func(x *TLB) { x.DropPage(2, 12) },
		func(x *TLB) { x.Forget(2) },
	}
	for _, do := range leave {
		items := full()
		x := with(items...)
		do(x)
		more, last := own(4, 30, 31), own(4, 32, 33)
		x.Put(more)
		want := append(slices.Delete(items, 2, 3), more)
		checkList(t, "one more", x, want...)
		x.Put(last)
		checkList(t, "and another", x, append(want[1:], last)...)
	}
	for _, do := range []func(x *TLB){(*TLB).DropAll, func(x *TLB) { x.DropPCID(2) }} {
		x := with(full()...)
		do(x)
		checkList(t, "all went", x)
		for _, item := range full() {
			x.Put(item)
		}
		checkList(t, "full again", x, full()...)
	}
}

func TestForget(t *testing.T) {
	for n := range api.TLBSize {
		items := full()
		items[1].Global = true
		x := with(items...)
		checkForget(t, x, n, true)
		checkNone(t, "who went", x, 2, 10+n)
		checkList(t, "Forget", x, slices.Delete(items, n, n+1)...)
	}
	a, b, c := own(2, 5, 11), own(4, 5, 12), own(2, 6, 13)
	x := with(a, b, c)
	checkForget(t, x, 1, true)
	checkList(t, "a middle one", x, a, c)
	checkForget(t, x, 1, true)
	checkList(t, "the last", x, a)
	checkForget(t, x, 1, false)
	checkForget(t, x, 0, true)
	checkList(t, "the first", x)
	checkForget(t, x, 0, false)
}

func TestForgetOfNone(t *testing.T) {
	for _, items := range [][]Item{nil, {own(2, 5, 11)}, {own(2, 5, 11), global(4, 6, 12)}, full()} {
		x := with(items...)
		for _, n := range []int{math.MinInt, -2, -1, len(items), len(items) + 1, 64, math.MaxInt} {
			checkForget(t, x, n, false)
		}
		checkList(t, "Forget of none", x, items...)
	}
}

func TestPagesAndPCIDsNotThere(t *testing.T) {
	items := []Item{own(2, 5, 11), own(0, 0, 12), global(4, 6, 13)}
	x := with(items...)
	none := []int{math.MinInt, -6, -5, -2, -1, 1, 3, 7, api.Pages, math.MaxInt}
	for _, n := range none {
		for _, pcid := range []int{0, 2, 4, n} {
			checkNone(t, "no such page", x, pcid, n)
			x.DropPage(pcid, n)
		}
		for _, page := range []int{0, 5, n} {
			checkNone(t, "no such PCID", x, n, page)
			x.DropPage(n, page)
		}
		x.DropPCID(n)
	}
	checkList(t, "nothing of that kind", x, items...)
	for _, n := range none {
		x := New()
		checkNone(t, "a new one", x, n, n)
		x.DropPage(n, n)
		x.DropPCID(n)
		checkList(t, "a new one", x)
	}
}

// R4

func TestListIsNew(t *testing.T) {
	items := []Item{own(2, 5, 11), global(4, 6, 12)}
	x := with(items...)
	a, b := x.List(), x.List()
	for i := range a {
		a[i] = own(9, 99, 98)
	}
	_ = append(a, own(9, 97, 96))
	if !slices.Equal(b, items) {
		t.Errorf("two lists share memory: %v", b)
	}
	checkList(t, "a list that was changed", x, items...)
	checkNone(t, "what was written into a list", x, 9, 99)
	checkFound(t, "what was there", x, 2, 5, items[0])

	_ = append(x.List(), own(9, 97, 96))
	x.Put(own(2, 7, 13))
	checkList(t, "Put behind a list that grew", x, items[0], items[1], own(2, 7, 13))
}

// A list that was handed out does not follow what is done later.
func TestListStays(t *testing.T) {
	items := full()
	x := with(items...)
	list := x.List()
	x.Put(own(2, 10, 40))
	x.Put(own(2, 30, 41))
	x.Forget(0)
	x.DropPage(2, 14)
	x.DropPCID(2)
	x.DropAll()
	if !slices.Equal(list, items) {
		t.Errorf("List() = %v behind later steps; want %v", list, items)
	}
}

func TestCloneIsAsItIs(t *testing.T) {
	for _, items := range [][]Item{nil, {own(2, 5, 11)}, {own(2, 5, 11), own(4, 5, 12), global(6, 5, 13)}, full()} {
		x := with(items...)
		c := x.Clone()
		if c == x {
			t.Fatal("Clone is the same object")
		}
		checkList(t, "the clone", c, items...)
		checkList(t, "what was cloned", x, items...)
	}
	x := with(full()...)
	c := x.Clone()
	c.Put(own(4, 30, 31))
	checkList(t, "one more in a clone that is full", c, append(full()[1:], own(4, 30, 31))...)
}

func TestCloneGoesItsOwnWay(t *testing.T) {
	steps := []struct {
		name string
		do   func(x *TLB)
	}{
		{"Put", func(x *TLB) { x.Put(own(8, 30, 31)) }},
		{"Put again", func(x *TLB) { x.Put(own(2, 10, 31)) }},
		{"DropPage", func(x *TLB) { x.DropPage(2, 11) }},
		{"DropPCID", func(x *TLB) { x.DropPCID(2) }},
		{"DropAll", (*TLB).DropAll},
		{"Forget of the first", func(x *TLB) { x.Forget(0) }},
		{"Forget of another", func(x *TLB) { x.Forget(2) }},
	}
	for _, s := range steps {
		for _, ofClone := range []bool{false, true} {
			for size := 3; size <= api.TLBSize; size++ {
				items := full()[:size]
				x := with(items...)
				moved, still := x, x.Clone()
				if ofClone {
					moved, still = still, moved
				}
				s.do(moved)
				if slices.Equal(moved.List(), items) {
					t.Errorf("%s (of the clone: %v) has done nothing", s.name, ofClone)
				}
				checkList(t, s.name+" of the other", still, items...)
			}
		}
	}
}

// Both put behind the same items: neither writes over the other's.
func TestCloneAndItsOriginBothPut(t *testing.T) {
	a, b, c := own(2, 5, 11), own(4, 5, 12), own(2, 6, 13)
	x := with(a, b, c)
	d := x.Clone()
	x.Put(own(2, 7, 14))
	d.Put(own(2, 8, 15))
	checkList(t, "what was cloned", x, a, b, c, own(2, 7, 14))
	checkList(t, "the clone", d, a, b, c, own(2, 8, 15))
}

// plain is a TLB told another way: each item with the hour at which it was
// put, in no order.
type plain struct {
	hour int
	at   map[int]Item
}

func (p *plain) drop(goes func(Item) bool) {
	for hour, x := range p.at {
		if goes(x) {
			delete(p.at, hour)
		}
	}
}

func (p *plain) dropPage(pcid, page int) {
	p.drop(func(x Item) bool {
		if x.Page != page {
			return false
		}
		return x.Global || x.PCID == pcid
	})
}

func (p *plain) hours() []int {
	var list []int
	for hour := range p.at {
		list = append(list, hour)
	}
	slices.Sort(list)
	return list
}

func (p *plain) put(x Item) {
	p.dropPage(x.PCID, x.Page)
	p.hour++
	p.at[p.hour] = x
	if hours := p.hours(); len(hours) > 8 {
		delete(p.at, hours[0])
	}
}

func (p *plain) forget(n int) bool {
	hours := p.hours()
	if n < 0 || n >= len(hours) {
		return false
	}
	delete(p.at, hours[n])
	return true
}

func (p *plain) find(pcid, page int) (Item, bool) {
	for _, x := range p.list() {
		if x.Page == page && x.PCID == pcid || x.Page == page && x.Global {
			return x, true
		}
	}
	return Item{}, false
}

func (p *plain) list() []Item {
	var items []Item
	for _, hour := range p.hours() {
		items = append(items, p.at[hour])
	}
	return items
}

// Long ways of putting, dropping and forgetting: as in the plain telling
// behind each step.
func TestAsPlain(t *testing.T) {
	for seed := range uint64(20) {
		r := rand.New(rand.NewPCG(seed, 6))
		x, p := New(), &plain{at: map[int]Item{}}
		for step := range 1000 {
			pcid, page := r.IntN(4), r.IntN(6)
			switch r.IntN(24) {
			case 0, 1:
				x.DropPage(pcid, page)
				p.dropPage(pcid, page)
			case 2:
				x.DropPCID(pcid)
				p.drop(func(y Item) bool { return y.PCID == pcid && !y.Global })
			case 3:
				if r.IntN(8) == 0 {
					x.DropAll()
					p.drop(func(Item) bool { return true })
				}
			case 4:
				n := r.IntN(12) - 2
				if got, want := x.Forget(n), p.forget(n); got != want {
					t.Fatalf("seed %d, step %d: Forget(%d) = %v; want %v", seed, step, n, got, want)
				}
			case 5:
				x = x.Clone()
			default:
				item := Item{PCID: pcid, Page: page, Frame: step, Write: r.IntN(2) == 0, User: r.IntN(2) == 0, Global: r.IntN(4) == 0}
				x.Put(item)
				p.put(item)
			}
			if got, want := x.List(), p.list(); !slices.Equal(got, want) {
				t.Fatalf("seed %d, step %d: %v; want %v", seed, step, got, want)
			}
			for pcid := range 5 {
				for page := range 7 {
					got, ok := x.Find(pcid, page)
					if want, has := p.find(pcid, page); got != want || ok != has {
						t.Fatalf("seed %d, step %d: Find(%d, %d) = %v, %v; want %v, %v", seed, step, pcid, page, got, ok, want, has)
					}
				}
			}
		}
	}
}
