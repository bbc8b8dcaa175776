package trail

import (
	"math"
	"math/rand"
	"slices"
	"testing"

	"portreeve/api"
	"portreeve/phys"
	"portreeve/walk"
)

const all = ^uint64(0)

// wrongLevels are next to the levels that a mark may have, and far away.
var wrongLevels = []int{math.MinInt, math.MinInt + 1, math.MinInt32, -64, -3, -1, 0, 4, 5, 7, 64, 1 << 32, 1<<32 + 1, math.MaxInt}

// wrongAsids are next to the right ones, and far away.
var wrongAsids = []int{math.MinInt, math.MinInt32, -256, -2, -1, 256, 257, 511, 512, 1 << 16, 1 << 32, 1<<32 + 1, math.MaxInt}

// wide is how many bytes a mark of the level leads: those of an entry one level above.
func wide(level int) uint64 { return []uint64{0, 1 << 39, 1 << 30, 1 << 21, 1 << 12}[level] }

// mark is one of a level from 1 to 3, with the base that is the n-th one of its stretches, and the page-th table.
func mark(asid, level int, n uint64, page uint64) Mark {
	return Mark{Asid: asid, Va: n * wide(level), Level: level, Table: page << 12}
}

func path(t *testing.T, most int, l ...Mark) *Trail {
	t.Helper()
	x, e := New(most)
	if e != api.OK || x == nil {
		t.Fatal(most, x, e)
	}
	add(t, x, l...)
	return x
}

func add(t *testing.T, x *Trail, l ...Mark) {
	t.Helper()
	for _, k := range l {
		if e := x.Add(k); e != api.OK {
			t.Fatal(k, e)
		}
	}
}

func wantList(t *testing.T, x *Trail, want ...Mark) {
	t.Helper()
	if got := x.List(); !slices.Equal(got, want) {
		t.Fatal("got", got, "want", want)
	}
}

// plainRight is the chapter's rightness, with addresses taken apart by division.
func plainRight(k Mark) bool {
	if k.Asid < 0 || k.Asid > 255 || k.Level < 1 || k.Level > 3 {
		return false
	}
	return k.Va < 1<<48 && k.Va%wide(k.Level) == 0 && k.Table < 1<<48 && k.Table%4096 == 0
}

// plainLead is the chapter's leading: the address is one of the stretch's own.
func plainLead(k Mark, asid int, va uint64) bool {
	if k.Level < 1 || k.Level > 4 || va >= 1<<48 {
		return false
	}
	return k.Asid == asid && va/wide(k.Level)*wide(k.Level) == k.Va
}

// plainTable tells whether a word is a Table at a level, bit by bit.
func plainTable(level int, word uint64) bool {
	return level >= 0 && level <= 2 && word%4096 == 3 && word < 1<<48
}

// plain is a trail that is gone through anew for each question.
type plain struct {
	most int
	l    []Mark
}

func (p *plain) add(k Mark) api.Errno {
	if !plainRight(k) {
		return api.ErrForm
	}
	if !slices.Contains(p.l, k) {
		p.l = append(p.l, k)
	}
	if len(p.l) > p.most {
		p.l = p.l[1:]
	}
	return api.OK
}

// best looks from the deepest level up, and at each from the last mark on.
func (p *plain) best(asid int, va uint64) (Mark, bool) {
	for level := 3; level >= 1; level-- {
		for i := len(p.l) - 1; i >= 0; i-- {
			if k := p.l[i]; k.Level == level && plainLead(k, asid, va) {
				return k, true
			}
		}
	}
	return Mark{}, false
}

func (p *plain) walked(asid int, va uint64, level int, steps []walk.Step) int {
	n := 0
	for n < len(steps) && plainTable(level+n, steps[n].Word) {
		if va < 1<<48 {
			w := wide(level + n + 1)
			p.add(Mark{Asid: asid, Va: va / w * w, Level: level + n + 1, Table: steps[n].Word - 3})
		}
		n++
	}
	return n
}

func (p *plain) flush(such func(Mark) bool) int {
	var kept []Mark
	for _, k := range p.l {
		if !such(k) {
			kept = append(kept, k)
		}
	}
	n := len(p.l) - len(kept)
	p.l = kept
	return n
}

// P8.1: a mark is right at each level that it may have, from the first to the last stretch and table.
func TestRight(t *testing.T) {
	for level := 1; level <= 3; level++ {
		last := (1<<48)/wide(level) - 1
		for _, asid := range []int{0, 1, 127, 128, 254, 255} {
			for _, n := range []uint64{0, 1, 2, 255, last - 1, last} {
				for _, page := range []uint64{0, 1, 7, 1 << 35, 1<<36 - 1} {
					if k := mark(asid, level, n, page); !k.Right() || !plainRight(k) {
						t.Error(k)
					}
				}
			}
		}
	}
}

// P8.1: a mark with one thing that isn't so is not right, and is not made.
func TestNotRight(t *testing.T) {
	x := path(t, 4, mark(1, 3, 1, 1))
	for level := 1; level <= 3; level++ {
		for _, k := range wrong(level) {
			if k.Right() || plainRight(k) {
				t.Error(k)
			}
			if got := x.Add(k); got != api.ErrForm {
				t.Error(k, got)
			}
		}
	}
	wantList(t, x, mark(1, 3, 1, 1))
}

// wrong are marks that would be right at a level but for one thing.
func wrong(level int) []Mark {
	var l []Mark
	change := func(with func(k *Mark)) {
		k := mark(1, level, 0, 0)
		with(&k)
		l = append(l, k)
	}
	for _, asid := range wrongAsids {
		change(func(k *Mark) { k.Asid = asid })
	}
	for _, other := range wrongLevels {
		change(func(k *Mark) { k.Level = other })
	}
	// A base of the level itself is no base of the one above it.
	for _, va := range []uint64{1, 8, wide(level + 1), wide(level) - 1, wide(level) + 1, wide(level) / 2, 1 << 48, 1<<48 + wide(level), 1 << 63, all, -wide(level)} {
		change(func(k *Mark) { k.Va = va })
	}
	for _, table := range []uint64{1, 8, 3, 0x800, 0xfff, 0x1001, 1 << 48, 1<<48 + 0x1000, 1 << 63, all, all - 0xfff} {
		change(func(k *Mark) { k.Table = table })
	}
	change(func(k *Mark) { *k = Mark{} })
	return l
}

// P8.1: a mark leads the addresses of its stretch from the first to the last one, of its ASID alone.
func TestLeads(t *testing.T) {
	for level := 1; level <= 3; level++ {
		w := wide(level)
		last := (1<<48)/w - 1
		for _, n := range []uint64{0, 1, 5, last} {
			k := mark(9, level, n, 1)
			for _, va := range []uint64{k.Va, k.Va + 1, k.Va + 8, k.Va + wide(level+1), k.Va + w/2, k.Va + w - 1} {
				if !k.Leads(9, va) {
					t.Error(k, va)
				}
				for _, asid := range append([]int{0, 8, 10, 9 - 256, 9 + 256, 9 + 1<<32}, wrongAsids...) {
					if k.Leads(asid, va) {
						t.Error(k, asid, va)
					}
				}
				if k.Leads(9, va|1<<48) || k.Leads(9, va|1<<63) || k.Leads(9, va|0xffff<<48) {
					t.Error(k, va, "isn't low")
				}
			}
			for _, va := range []uint64{k.Va - 1, k.Va + w, k.Va - w, k.Va ^ w, k.Va ^ 1<<47} {
				if k.Leads(9, va) {
					t.Error(k, va)
				}
			}
		}
	}
}

// P8.1: what a mark leads hangs on its ASID, address and level alone, whether it is right or not.
func TestLeadsOfWrong(t *testing.T) {
	page := Mark{Asid: -3, Va: 0x1000, Level: 4, Table: all}
	if !page.Leads(-3, 0x1000) || !page.Leads(-3, 0x1fff) || page.Leads(-3, 0x2000) || page.Leads(-3, 0xfff) || page.Leads(0, 0x1000) {
		t.Error("a mark of the level 4")
	}
	if k := (Mark{Level: 3, Va: 8}); k.Leads(0, 8) || k.Leads(0, 0) {
		t.Error("no base leads")
	}
	if k := (Mark{Level: 3, Va: 1 << 48}); k.Leads(0, 1<<48) || k.Leads(0, 0) {
		t.Error("an address that isn't low leads")
	}
	for _, level := range wrongLevels {
		for _, va := range []uint64{0, 8, 0x1000, 1 << 47, all} {
			if level != 4 && ((Mark{Level: level}).Leads(0, va) || (Mark{Level: level, Va: va}).Leads(0, va)) {
				t.Error("there is no base above the level", level, va)
			}
		}
	}
}

// P8.1: a trail is made of 1 to MaxTlb marks; the first goes where they would be more.
func TestNew(t *testing.T) {
	for _, most := range []int{math.MinInt, -64, -1, 0, api.MaxTlb + 1, 128, 1<<32 + 1, math.MaxInt} {
		if x, e := New(most); x != nil || e != api.ErrRange {
			t.Error(most, x, e)
		}
	}
	for most := 1; most <= api.MaxTlb; most++ {
		x := path(t, most)
		wantList(t, x)
		var l []Mark
		for n := range uint64(api.MaxTlb + 2) {
			l = append(l, mark(1, 3, n, n))
			add(t, x, l[n])
			wantList(t, x, l[max(0, len(l)-most):]...)
		}
	}
}

// P8.1: what is among the marks isn't made again: it keeps its place, and nothing goes.
func TestAddTwice(t *testing.T) {
	a, b, c := mark(1, 3, 1, 1), mark(1, 2, 1, 1), mark(2, 1, 1, 1)
	x := path(t, 3, a, b, c)
	add(t, x, a, c, b, a)
	wantList(t, x, a, b, c)
	// A mark that differs in one thing is another one.
	for _, change := range []func(k *Mark){
		func(k *Mark) { k.Asid = 2 },
		func(k *Mark) { k.Va = 0 },
		func(k *Mark) { k.Level, k.Va = 2, 0 },
		func(k *Mark) { k.Table = 0x2000 },
	} {
		y := path(t, 3, a, b)
		other := a
		change(&other)
		add(t, y, other)
		wantList(t, y, a, b, other)
	}
	// One that went is made anew.
	add(t, x, mark(3, 3, 1, 1), a)
	wantList(t, x, c, mark(3, 3, 1, 1), a)
}

// P8.2: the deepest mark that leads is the best one, wherever it stands; of one level the last one.
func TestBest(t *testing.T) {
	one, two, three := mark(1, 1, 0, 1), mark(1, 2, 0, 2), mark(1, 3, 1, 3)
	newer, foreign := mark(1, 2, 0, 9), mark(2, 3, 1, 4)
	l := []Mark{one, two, three, newer, foreign}
	for _, order := range [][]int{{0, 1, 2, 3, 4}, {2, 4, 1, 3, 0}, {4, 1, 0, 3, 2}, {1, 2, 3, 0, 4}} {
		x := path(t, 8)
		for _, i := range order {
			add(t, x, l[i])
		}
		for _, c := range []struct {
			asid int
			va   uint64
			want Mark
		}{
			{1, 0x200000, three},
			{1, 0x3fffff, three},
			{1, 0x1fffff, newer},
			{1, 0x400000, newer},
			{1, 1<<30 - 1, newer},
			{1, 1 << 30, one},
			{1, 1<<39 - 1, one},
			{1, 1 << 39, Mark{}},
			{2, 0x200000, foreign},
			{2, 0x1fffff, Mark{}},
			{0, 0, Mark{}},
			{-1, 0x200000, Mark{}},
			{257, 0x200000, Mark{}},
			{1, 1<<48 | 0x200000, Mark{}},
			{1, all, Mark{}},
		} {
			if k, ok := x.Best(c.asid, c.va); k != c.want || ok != (c.want != Mark{}) {
				t.Error(order, c, k, ok)
			}
		}
	}
	if k, ok := path(t, 1).Best(0, 0); ok || k != (Mark{}) {
		t.Error("an empty trail has", k, ok)
	}
}

// P8.2: made last is where a mark stands, not when it was asked for again.
func TestBestIsTheLastMade(t *testing.T) {
	a, b := mark(1, 2, 0, 1), mark(1, 2, 0, 2)
	x := path(t, 4, a, b)
	add(t, x, a)
	if k, ok := x.Best(1, 8); k != b || !ok {
		t.Error(k, ok)
	}
	x.Drop(0)
	add(t, x, a)
	if k, ok := x.Best(1, 8); k != a || !ok {
		t.Error(k, ok)
	}
}

// words are steps that read these.
func words(l ...uint64) []walk.Step {
	steps := make([]walk.Step, len(l))
	for i, w := range l {
		steps[i] = walk.Step{At: uint64(i)<<12 | 8, Word: w}
	}
	return steps
}

// P8.2, the chapter's example: a walk through three tables, from the level 0, as layer 6 traces it.
func TestWalkedByTrace(t *testing.T) {
	m, e := phys.New(api.MinMemory)
	if e != api.OK {
		t.Fatal(e)
	}
	for at, w := range map[uint64]uint64{0x1000: 0x2003, 0x2008: 0x3003, 0x3008: 0x4003, 0x4008: 0x60000000005f43} {
		if e := m.Write(at, w); e != api.OK {
			t.Fatal(e)
		}
	}
	const va = 0x40201008
	x := path(t, 8)
	if n := x.Walked(1, va, 0, walk.Trace(m, 0, 0x1000, va)); n != 3 {
		t.Error(n)
	}
	want := []Mark{
		{Asid: 1, Va: 0, Level: 1, Table: 0x2000},
		{Asid: 1, Va: 0x40000000, Level: 2, Table: 0x3000},
		{Asid: 1, Va: 0x40200000, Level: 3, Table: 0x4000},
	}
	wantList(t, x, want...)
	// Each mark leads a walk to the end of the whole one.
	leaf, fault := walk.Walk(m, 0x1000, va)
	for _, k := range want {
		if l, f := walk.From(m, k.Level, k.Table, va); l != leaf || f != fault || l.Desc.Out != 0x5000 {
			t.Error(k, l, f)
		}
	}
	// A walk that goes on at a mark leaves those behind that are deeper.
	for i, k := range want {
		y := path(t, 8)
		if n := y.Walked(1, va, k.Level, walk.Trace(m, k.Level, k.Table, va)); n != 2-i {
			t.Error(k, n)
		}
		wantList(t, y, want[i+1:]...)
	}
	// A walk that comes to nothing leaves the tables behind that it came through.
	y := path(t, 8)
	if n := y.Walked(1, 0x40000000, 0, walk.Trace(m, 0, 0x1000, 0x40000000)); n != 2 {
		t.Error(n)
	}
	wantList(t, y, want[:2]...)
}

// P8.2: a word leaves a mark only if it is a Table at its level and all ahead of it are.
func TestWalkedWords(t *testing.T) {
	const table = 0xffff_ffff_f003
	for _, c := range []struct {
		level int
		l     []uint64
		n     int
	}{
		{0, nil, 0},
		{0, []uint64{table}, 1},
		{0, []uint64{table, table, table, table, table}, 3},
		{1, []uint64{table, table, table}, 2},
		{2, []uint64{table, table}, 1},
		{3, []uint64{table}, 0},
		{0, []uint64{3}, 1},
		{0, []uint64{0, table}, 0},
		{0, []uint64{table, 0, table}, 1},
		{0, []uint64{table, table, 0x60000000200f01}, 2},
		{0, []uint64{table, 0x60000040000f01, table}, 1},
		{0, []uint64{0x5002, table}, 0},
		{0, []uint64{0x5001, table}, 0},
		{0, []uint64{0x5007, table}, 0},
		{0, []uint64{0x5803, table}, 0},
		{0, []uint64{1<<48 | 0x5003, table}, 0},
		{0, []uint64{1<<63 | 0x5003, table}, 0},
		{0, []uint64{all, table}, 0},
		{0, []uint64{table, table, 0x5403}, 2},
		{1, []uint64{table, 0x5083, table}, 1},
	} {
		x, p := path(t, 16), &plain{most: 16}
		for _, va := range []uint64{0, 0x7fff_ffff_ffff, 1<<48 - 1} {
			steps := words(c.l...)
			if n, m := x.Walked(5, va, c.level, steps), p.walked(5, va, c.level, steps); n != c.n || m != c.n {
				t.Error(c, n, m)
			}
			wantList(t, x, p.l...)
			if !slices.Equal(steps, words(c.l...)) {
				t.Error("the steps are changed")
			}
		}
		if len(p.l) != 3*c.n {
			t.Error(c, p.l)
		}
	}
}

// P8.2: an address that isn't low, and an ASID that there isn't, leave nothing behind: the Tables are counted.
func TestWalkedLeavesNothing(t *testing.T) {
	old := mark(5, 1, 0, 1)
	x := path(t, 1, old)
	steps := words(0x2003, 0x3003, 0x4003, 0x5003)
	for _, va := range []uint64{1 << 48, 1<<48 | 0x40201008, 1 << 63, all} {
		if n := x.Walked(5, va, 0, steps); n != 3 {
			t.Error(va, n)
		}
		wantList(t, x, old)
	}
	for _, asid := range wrongAsids {
		if n := x.Walked(asid, 0x40201008, 1, steps); n != 2 {
			t.Error(asid, n)
		}
		wantList(t, x, old)
	}
	for _, level := range wrongLevels {
		if level == 0 {
			continue
		}
		if n := x.Walked(5, 0x40201008, level, steps); n != 0 {
			t.Error(level, n)
		}
		wantList(t, x, old)
	}
	if n := x.Walked(5, 0, 0, nil) + x.Walked(5, 0, 0, []walk.Step{}); n != 0 {
		t.Error(n)
	}
	wantList(t, x, old)
}

// P8.2: marks are made in the order of the levels, so that where there is little room the deepest stay.
func TestWalkedWithLittleRoom(t *testing.T) {
	want := []Mark{{Asid: 0, Va: 0, Level: 1, Table: 0x2000}, {Va: 1 << 30, Level: 2, Table: 0x3000}, {Va: 1<<30 + 1<<21, Level: 3, Table: 0x4000}}
	for most := 1; most <= 4; most++ {
		x := path(t, most, mark(7, 1, 0, 0))
		for range 2 {
			if n := x.Walked(0, 0x40201008, 0, words(0x2003, 0x3003, 0x4003)); n != 3 {
				t.Error(n)
			}
		}
		wantList(t, x, slices.Concat([]Mark{mark(7, 1, 0, 0)}, want)[4-most:]...)
	}
}

// P8.3: the mark at a place goes, and the others keep their order.
func TestDrop(t *testing.T) {
	var l []Mark
	for n := range uint64(5) {
		l = append(l, mark(1, 3, n, n))
	}
	for n := range l {
		x := path(t, 5, l...)
		for _, none := range []int{math.MinInt, -5, -1, 5, 6, 1 << 32, 1<<32 + n, math.MaxInt} {
			if x.Drop(none) {
				t.Error(none)
			}
		}
		wantList(t, x, l...)
		if !x.Drop(n) {
			t.Error(n)
		}
		wantList(t, x, slices.Concat(l[:n], l[n+1:])...)
		if x.Drop(4) {
			t.Error("there are but four")
		}
		// What went makes room.
		add(t, x, l[n])
		wantList(t, x, slices.Concat(l[:n], l[n+1:], l[n:n+1])...)
	}
	if x := path(t, 1); x.Drop(0) || x.Drop(-1) {
		t.Error("an empty trail has nothing to drop")
	}
}

// P8.3: all that lead an address go, whatever their levels are, and no other.
func TestFlushVa(t *testing.T) {
	three, other := mark(1, 3, 512, 1), mark(1, 3, 512, 2)
	two, one := mark(1, 2, 1, 1), mark(1, 1, 0, 1)
	foreign, next := mark(2, 3, 512, 1), mark(1, 3, 513, 1)
	l := []Mark{three, foreign, two, next, other, one}
	for _, c := range []struct {
		asid int
		va   uint64
		want []Mark
	}{
		{1, 0x40000008, []Mark{foreign, next}},
		{1, 0x403fffff, []Mark{three, foreign, other}},
		{1, 0x40400000, []Mark{three, foreign, next, other}},
		{1, 0, []Mark{three, foreign, two, next, other}},
		{2, 0x40000000, []Mark{three, two, next, other, one}},
		{1, 1 << 39, l},
		{1, 1<<48 | 0x40000000, l},
		{1, all, l},
		{0, 0x40000000, l},
		{-1, 0x40000000, l},
		{257, 0x40000000, l},
	} {
		x := path(t, 6, l...)
		if n := x.FlushVa(c.asid, c.va); n != len(l)-len(c.want) {
			t.Error(c, n)
		}
		wantList(t, x, c.want...)
		if n := x.FlushVa(c.asid, c.va); n != 0 {
			t.Error(c, n, "a second time")
		}
		if _, ok := x.Best(c.asid, c.va); ok {
			t.Error(c, "is still led")
		}
	}
}

// P8.3: all of an ASID go; all go; and marks can be made again.
func TestFlushAsidAndAll(t *testing.T) {
	l := []Mark{mark(1, 3, 1, 1), mark(0, 3, 1, 1), mark(1, 2, 7, 1), mark(255, 1, 1, 1), mark(1, 3, 1, 2)}
	for asid, n := range map[int]int{0: 1, 1: 3, 2: 0, 254: 0, 255: 1, 256: 0, -1: 0, 1<<32 + 1: 0, math.MinInt: 0, math.MaxInt: 0} {
		x := path(t, 5, l...)
		if got := x.FlushAsid(asid); got != n {
			t.Error(asid, got)
		}
		wantList(t, x, slices.DeleteFunc(slices.Clone(l), func(k Mark) bool { return k.Asid == asid })...)
		if got := x.FlushAll(); got != len(l)-n {
			t.Error(asid, got)
		}
		wantList(t, x)
		if x.FlushAll() != 0 || x.FlushAsid(1) != 0 || x.FlushVa(1, 1<<21) != 0 {
			t.Error("nothing is left")
		}
		add(t, x, l...)
		add(t, x, mark(3, 3, 0, 0))
		wantList(t, x, append(slices.Clone(l[1:]), mark(3, 3, 0, 0))...)
	}
}

// P8.3: what is told is new memory, spare room too: writing to it changes nothing.
func TestListIsNew(t *testing.T) {
	l := []Mark{mark(1, 3, 1, 1), mark(1, 3, 2, 1), mark(1, 3, 3, 1)}
	x := path(t, 8, l...)
	one, two := x.List(), x.List()
	for _, told := range [][]Mark{one, two} {
		told = told[:cap(told)]
		for i := range told {
			told[i] = mark(9, 1, 9, 9)
		}
		wantList(t, x, l...)
		if x.FlushAsid(9) != 0 {
			t.Error("what is told is kept")
		}
	}
	three := x.List()
	x.FlushVa(1, 1<<21)
	add(t, x, mark(4, 3, 1, 1))
	if !slices.Equal(three, l) {
		t.Error("what was told changed", three)
	}
	// Room that was left when marks went isn't told.
	short := x.List()
	for i := range short {
		short[i] = Mark{}
	}
	wantList(t, x, l[1], l[2], mark(4, 3, 1, 1))
}

// What is handed in isn't kept, and no two trails have anything in common.
func TestApart(t *testing.T) {
	a, b := path(t, 4, mark(1, 3, 1, 1)), path(t, 4)
	steps := words(0x2003, 0x3003)
	b.Walked(2, 0, 0, steps)
	steps[0], steps[1] = walk.Step{}, walk.Step{}
	wantList(t, b, mark(2, 1, 0, 2), mark(2, 2, 0, 3))
	wantList(t, a, mark(1, 3, 1, 1))
	a.FlushAll()
	wantList(t, b, mark(2, 1, 0, 2), mark(2, 2, 0, 3))
}

// some is a mark of few ASIDs and stretches, so that many meet; now and then one that isn't right.
func some(r *rand.Rand) Mark {
	level := 1 + r.Intn(3)
	k := mark(r.Intn(3), level, []uint64{0, 1, 1<<48/wide(level) - 1}[r.Intn(3)], uint64(r.Intn(2)))
	if level > 1 && r.Intn(2) == 0 {
		k.Va += wide(level - 1)
	}
	switch r.Intn(16) {
	case 0:
		k.Asid = wrongAsids[r.Intn(len(wrongAsids))]
	case 1:
		k.Level = r.Intn(7) - 1
	case 2:
		k.Va |= 1 << r.Intn(64)
	case 3:
		k.Table |= 1 << r.Intn(64)
	}
	return k
}

// someSteps are words, most of them Tables.
func someSteps(r *rand.Rand) []walk.Step {
	l := make([]uint64, r.Intn(6))
	for i := range l {
		l[i] = uint64(r.Intn(2))<<12 | 3
		if r.Intn(6) == 0 {
			l[i] ^= 1 << r.Intn(64)
		}
	}
	return words(l...)
}

// P8.1 to P8.3: whatever is done in whatever order, a trail answers as one that is gone through plainly.
func TestAgainstPlain(t *testing.T) {
	r := rand.New(rand.NewSource(8))
	for range 400 {
		p := &plain{most: 1 + r.Intn(9)}
		x := path(t, p.most)
		for range 100 {
			do(t, r, x, p)
			agree(t, r, x, p)
		}
	}
}

// do changes both trails, and holds what they tell against each other.
func do(t *testing.T, r *rand.Rand, x *Trail, p *plain) {
	t.Helper()
	k := some(r)
	asid, va := k.Asid, k.Va+uint64(r.Intn(3))*8
	switch n := r.Intn(20); n {
	case 0:
		if got, want := x.FlushVa(asid, va), p.flush(func(k Mark) bool { return plainLead(k, asid, va) }); got != want {
			t.Fatal("FlushVa", asid, va, got, want)
		}
	case 1:
		if got, want := x.FlushAsid(asid), p.flush(func(k Mark) bool { return k.Asid == asid }); got != want {
			t.Fatal("FlushAsid", asid, got, want)
		}
	case 2:
		if r.Intn(4) == 0 {
			if got, want := x.FlushAll(), p.flush(func(Mark) bool { return true }); got != want {
				t.Fatal("FlushAll", got, want)
			}
		}
	case 3, 4:
		at := r.Intn(12) - 1
		want := at >= 0 && at < len(p.l)
		if want {
			p.l = slices.Concat(p.l[:at], p.l[at+1:])
		}
		if x.Drop(at) != want {
			t.Fatal("Drop", at, want)
		}
	case 5, 6, 7, 8:
		steps, level := someSteps(r), r.Intn(6)-1
		if got, want := x.Walked(asid, va, level, steps), p.walked(asid, va, level, steps); got != want {
			t.Fatal("Walked", asid, va, level, steps, got, want)
		}
	default:
		if got, want := x.Add(k), p.add(k); got != want || k.Right() != (want == api.OK) {
			t.Fatal("Add", k, got, want)
		}
	}
}

// agree holds all that can be asked without a change against each other.
func agree(t *testing.T, r *rand.Rand, x *Trail, p *plain) {
	t.Helper()
	wantList(t, x, p.l...)
	k := some(r)
	va := k.Va + uint64(r.Intn(3))*0x800
	got, ok := x.Best(k.Asid, va)
	if want, yes := p.best(k.Asid, va); got != want || ok != yes {
		t.Fatal("Best", k.Asid, va, got, ok, want, yes)
	}
	if k.Leads(k.Asid, va) != plainLead(k, k.Asid, va) {
		t.Fatal("Leads", k, va)
	}
}
