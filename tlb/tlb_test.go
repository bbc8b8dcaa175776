package tlb

import (
	"math"
	"math/rand"
	"slices"
	"testing"

	"portreeve/api"
	"portreeve/desc"
)

const all = ^uint64(0)

// wrongLevels are next to the levels that there are, and far away.
var wrongLevels = []int{math.MinInt, math.MinInt32, -64, -4, -2, -1, 4, 5, 7, 8, 64, 1 << 32, 1<<32 + 1, math.MaxInt}

// wrongAsids are next to the right ones, and far away.
var wrongAsids = []int{math.MinInt, math.MinInt32, -256, -2, -1, 256, 257, 511, 512, 1 << 16, 1 << 32, 1<<32 + 1, math.MaxInt}

// wide is how many bytes a stretch of the level has.
func wide(level int) uint64 { return []uint64{1 << 39, 1 << 30, 1 << 21, 1 << 12}[level] }

// kindOf is the kind of leaf that a level from 1 to 3 has.
func kindOf(level int) int { return []int{0, desc.Block, desc.Block, desc.Page}[level] }

// leaf is an entry of a level from 1 to 3, with the base that is the n-th one of its stretches.
func leaf(asid, level int, n uint64, out uint64) Entry {
	return Entry{Asid: asid, Va: n * wide(level), Level: level, Desc: desc.Desc{Kind: kindOf(level), Out: out * wide(level), Used: true}}
}

func buffer(t *testing.T, most int, l ...Entry) *Tlb {
	t.Helper()
	b, e := New(most)
	if e != api.OK || b == nil {
		t.Fatal(most, b, e)
	}
	fill(t, b, l...)
	return b
}

func fill(t *testing.T, b *Tlb, l ...Entry) {
	t.Helper()
	for _, x := range l {
		if e := b.Fill(x); e != api.OK {
			t.Fatal(x, e)
		}
	}
}

func wantList(t *testing.T, b *Tlb, want ...Entry) {
	t.Helper()
	if got := b.List(); !slices.Equal(got, want) {
		t.Fatal("got", got, "want", want)
	}
}

// plainRight is the chapter's rightness, with addresses taken apart by division.
func plainRight(e Entry) bool {
	if e.Asid < 0 || e.Asid > 255 || e.Level < 1 || e.Level > 3 {
		return false
	}
	w, d := wide(e.Level), e.Desc
	return e.Va < 1<<48 && e.Va%w == 0 && d.Kind == kindOf(e.Level) && d.Out < 1<<48 && d.Out%w == 0 && d.Attr >= 0 && d.Attr <= 7 && d.Used
}

// plainMatch is the chapter's matching: the address is one of the stretch's own.
func plainMatch(e Entry, asid int, va uint64) bool {
	if e.Level < 0 || e.Level > 3 || va >= 1<<48 {
		return false
	}
	return e.Asid == asid && va/wide(e.Level)*wide(e.Level) == e.Va
}

// plain is a buffer that is gone through anew for each question.
type plain struct {
	most int
	l    []Entry
}

func (p *plain) fill(e Entry) api.Errno {
	if !plainRight(e) {
		return api.ErrForm
	}
	if !slices.Contains(p.l, e) {
		p.l = append(p.l, e)
	}
	if len(p.l) > p.most {
		p.l = p.l[1:]
	}
	return api.OK
}

func (p *plain) find(asid int, va uint64) (Entry, int) {
	var got []Entry
	for _, e := range p.l {
		if plainMatch(e, asid, va) {
			got = append(got, e)
		}
	}
	if got == nil {
		return Entry{}, 0
	}
	return got[0], len(got)
}

func (p *plain) flush(such func(Entry) bool) int {
	var kept []Entry
	for _, e := range p.l {
		if !such(e) {
			kept = append(kept, e)
		}
	}
	n := len(p.l) - len(kept)
	p.l = kept
	return n
}

// clash holds each entry against each other one by the bytes of their stretches.
func (p *plain) clash() (Entry, Entry, bool) {
	for i, a := range p.l {
		for j, b := range p.l {
			if i != j && a.Asid == b.Asid && a.Va < b.Va+wide(b.Level) && b.Va < a.Va+wide(a.Level) {
				return a, b, true
			}
		}
	}
	return Entry{}, Entry{}, false
}

// P7.1: an entry is right for its level with each of the rights and attributes that a leaf may have.
func TestRight(t *testing.T) {
	for level := 1; level <= 3; level++ {
		last := (1<<48)/wide(level) - 1
		for _, asid := range []int{0, 1, 127, 128, 254, 255} {
			for _, n := range []uint64{0, 1, 2, 255, last - 1, last} {
				for _, out := range []uint64{0, 1, last} {
					if e := leaf(asid, level, n, out); !e.Right() || !plainRight(e) {
						t.Error(e)
					}
				}
			}
		}
		for bits := range 64 {
			e := leaf(7, level, 3, 5)
			e.Desc.User, e.Desc.Write, e.Desc.Exec, e.Desc.Attr = bits&1 != 0, bits&2 != 0, bits&4 != 0, bits>>3
			if !e.Right() {
				t.Error(e)
			}
			e.Desc.Used = false
			if e.Right() {
				t.Error(e, "isn't Used")
			}
		}
	}
}

// P7.1: an entry with one thing that isn't so is not right, and is not filled in.
func TestNotRight(t *testing.T) {
	b := buffer(t, 4, leaf(1, 3, 1, 1))
	for level := 1; level <= 3; level++ {
		for _, e := range wrong(level) {
			if e.Right() || plainRight(e) {
				t.Error(e)
			}
			if got := b.Fill(e); got != api.ErrForm {
				t.Error(e, got)
			}
		}
	}
	wantList(t, b, leaf(1, 3, 1, 1))
}

// wrong are entries that would be right at a level but for one thing.
func wrong(level int) []Entry {
	var l []Entry
	add := func(change func(e *Entry)) {
		e := leaf(1, level, 0, 0)
		change(&e)
		l = append(l, e)
	}
	for _, asid := range wrongAsids {
		add(func(e *Entry) { e.Asid = asid })
	}
	for _, other := range append([]int{0}, wrongLevels...) {
		add(func(e *Entry) { e.Level = other })
	}
	for _, va := range []uint64{1, 8, wide(level) - 1, wide(level) + 1, wide(level) / 2, 1 << 48, 1<<48 + wide(level), 1 << 63, all, -wide(level)} {
		add(func(e *Entry) { e.Va = va })
	}
	for _, out := range []uint64{1, 8, wide(level) - 1, wide(level) / 2, 1 << 48, 1 << 63, all, -wide(level)} {
		add(func(e *Entry) { e.Desc.Out = out })
	}
	for _, attr := range []int{math.MinInt, -8, -1, 8, 9, 1 << 32, math.MaxInt} {
		add(func(e *Entry) { e.Desc.Attr = attr })
	}
	for _, kind := range []int{math.MinInt, -1, desc.Invalid, desc.Table, 5 - kindOf(level), 4, math.MaxInt} {
		add(func(e *Entry) { e.Desc.Kind = kind })
	}
	add(func(e *Entry) { e.Desc.Used = false })
	add(func(e *Entry) { e.Desc = desc.Desc{} })
	add(func(e *Entry) { e.Desc = desc.Desc{Kind: desc.Table} })
	add(func(e *Entry) { *e = Entry{} })
	return l
}

// P7.1: an entry matches the addresses of its stretch from the first to the last one, of its ASID alone.
func TestMatches(t *testing.T) {
	for level := 1; level <= 3; level++ {
		w := wide(level)
		last := (1<<48)/w - 1
		for _, n := range []uint64{0, 1, 5, last} {
			e := leaf(9, level, n, 1)
			for _, va := range []uint64{e.Va, e.Va + 1, e.Va + 8, e.Va + w/2, e.Va + w - 1} {
				if !e.Matches(9, va) {
					t.Error(e, va)
				}
				for _, asid := range append([]int{0, 8, 10, 9 - 256, 9 + 256, 9 + 1<<32}, wrongAsids...) {
					if e.Matches(asid, va) {
						t.Error(e, asid, va)
					}
				}
				if e.Matches(9, va|1<<48) || e.Matches(9, va|1<<63) || e.Matches(9, va|0xffff<<48) {
					t.Error(e, va, "isn't low")
				}
			}
			for _, va := range []uint64{e.Va - 1, e.Va + w, e.Va - w, e.Va ^ w, e.Va ^ 1<<47} {
				if e.Matches(9, va) {
					t.Error(e, va)
				}
			}
		}
	}
}

// P7.1: what an entry matches hangs on its ASID, address and level alone, whether it is right or not.
func TestMatchesOfWrong(t *testing.T) {
	whole := Entry{Asid: -3, Va: 1 << 39}
	if !whole.Matches(-3, 1<<39) || !whole.Matches(-3, 1<<40-1) || whole.Matches(-3, 1<<40) || whole.Matches(-3, 1<<39-1) || whole.Matches(0, 1<<39) {
		t.Error("an entry of the level 0")
	}
	if e := (Entry{Level: 3, Va: 8}); e.Matches(0, 8) || e.Matches(0, 0) {
		t.Error("no base matches")
	}
	if e := (Entry{Level: 3, Va: 1 << 48}); e.Matches(0, 1<<48) || e.Matches(0, 0) {
		t.Error("an address that isn't low matches")
	}
	for _, level := range wrongLevels {
		for _, va := range []uint64{0, 8, 0x1000, 1 << 47, all} {
			if (Entry{Level: level}).Matches(0, va) || (Entry{Level: level, Va: va}).Matches(0, va) {
				t.Error("there is no base at the level", level, va)
			}
		}
	}
}

// P7.1: a buffer is made of 1 to MaxTlb entries.
func TestNew(t *testing.T) {
	for _, most := range []int{math.MinInt, -64, -1, 0, api.MaxTlb + 1, 128, 1<<32 + 1, math.MaxInt} {
		if b, e := New(most); b != nil || e != api.ErrRange {
			t.Error(most, b, e)
		}
	}
	for most := 1; most <= api.MaxTlb; most++ {
		b := buffer(t, most)
		wantList(t, b)
		var l []Entry
		for n := range uint64(api.MaxTlb + 2) {
			l = append(l, leaf(1, 3, n, n))
			fill(t, b, l[n])
			wantList(t, b, l[max(0, len(l)-most):]...)
		}
	}
}

// P7.1: what is among the entries isn't filled in again: it keeps its place, and nothing goes.
func TestFillTwice(t *testing.T) {
	x, y, z := leaf(1, 3, 1, 1), leaf(1, 2, 1, 1), leaf(2, 1, 1, 1)
	b := buffer(t, 3, x, y, z)
	fill(t, b, x, z, y, x)
	wantList(t, b, x, y, z)
	// An entry that differs in one thing is another one.
	for _, change := range []func(e *Entry){
		func(e *Entry) { e.Asid = 2 },
		func(e *Entry) { e.Va = 0x2000 },
		func(e *Entry) { e.Desc.Out = 0x2000 },
		func(e *Entry) { e.Desc.User = true },
		func(e *Entry) { e.Desc.Write = true },
		func(e *Entry) { e.Desc.Exec = true },
		func(e *Entry) { e.Desc.Attr = 1 },
	} {
		c := buffer(t, 3, x, y)
		other := x
		change(&other)
		fill(t, c, other)
		wantList(t, c, x, y, other)
	}
	// One that went is filled in anew.
	fill(t, b, leaf(3, 3, 1, 1), x)
	wantList(t, b, z, leaf(3, 3, 1, 1), x)
}

// P7.2: the first entry that matches is found, and how many do, be they of one level or of several.
func TestFind(t *testing.T) {
	page, other := leaf(1, 3, 512, 1), leaf(1, 3, 512, 2)
	block, giga := leaf(1, 2, 1, 1), leaf(1, 1, 0, 1)
	b := buffer(t, 8, leaf(2, 3, 512, 1), page, other, block, giga)
	for _, c := range []struct {
		asid int
		va   uint64
		want Entry
		n    int
	}{
		{1, 0x200000, page, 4},
		{1, 0x200fff, page, 4},
		{1, 0x201000, block, 2},
		{1, 0x3fffff, block, 2},
		{1, 0x400000, giga, 1},
		{1, 0x1fffff, giga, 1},
		{1, 1<<30 - 1, giga, 1},
		{1, 1 << 30, Entry{}, 0},
		{2, 0x200000, leaf(2, 3, 512, 1), 1},
		{2, 0x201000, Entry{}, 0},
		{0, 0, Entry{}, 0},
		{3, 0x200000, Entry{}, 0},
		{-1, 0x200000, Entry{}, 0},
		{257, 0x200000, Entry{}, 0},
		{1, 1<<48 | 0x200000, Entry{}, 0},
		{1, all, Entry{}, 0},
	} {
		if e, n := b.Find(c.asid, c.va); e != c.want || n != c.n {
			t.Error(c, e, n)
		}
	}
	if e, n := buffer(t, 1).Find(0, 0); e != (Entry{}) || n != 0 {
		t.Error("an empty buffer has", e, n)
	}
}

// P7.2, the chapter's example: two entries of one stretch, of different pages.
func TestExample(t *testing.T) {
	b := buffer(t, 4, leaf(1, 3, 1, 7), leaf(1, 3, 1, 8))
	if e, n := b.Find(1, 0x1008); e != leaf(1, 3, 1, 7) || n != 2 {
		t.Error(e, n)
	}
}

// P7.2: the entry at a place goes, and the others keep their order.
func TestDrop(t *testing.T) {
	var l []Entry
	for n := range uint64(5) {
		l = append(l, leaf(1, 3, n, n))
	}
	for n := range l {
		b := buffer(t, 5, l...)
		for _, none := range []int{math.MinInt, -5, -1, 5, 6, 1 << 32, 1<<32 + n, math.MaxInt} {
			if b.Drop(none) {
				t.Error(none)
			}
		}
		wantList(t, b, l...)
		if !b.Drop(n) {
			t.Error(n)
		}
		wantList(t, b, slices.Concat(l[:n], l[n+1:])...)
		if b.Drop(4) {
			t.Error("there are but four")
		}
		// What went makes room.
		fill(t, b, l[n])
		wantList(t, b, slices.Concat(l[:n], l[n+1:], l[n:n+1])...)
	}
	if b := buffer(t, 1); b.Drop(0) || b.Drop(-1) {
		t.Error("an empty buffer has nothing to drop")
	}
}

// P7.3: all that match go, whatever their levels are, and no other.
func TestFlushVa(t *testing.T) {
	page, other := leaf(1, 3, 512, 1), leaf(1, 3, 512, 2)
	block, giga := leaf(1, 2, 1, 1), leaf(1, 1, 0, 1)
	foreign, next := leaf(2, 3, 512, 1), leaf(1, 3, 513, 1)
	l := []Entry{page, foreign, block, next, other, giga}
	for _, c := range []struct {
		asid int
		va   uint64
		want []Entry
	}{
		{1, 0x200008, []Entry{foreign, next}},
		{1, 0x201fff, []Entry{page, foreign, other}},
		{1, 0x202000, []Entry{page, foreign, next, other}},
		{1, 0, []Entry{page, foreign, block, next, other}},
		{2, 0x200000, []Entry{page, block, next, other, giga}},
		{1, 1 << 30, l},
		{1, 1<<48 | 0x200000, l},
		{1, all, l},
		{0, 0x200000, l},
		{-1, 0x200000, l},
		{257, 0x200000, l},
	} {
		b := buffer(t, 6, l...)
		if n := b.FlushVa(c.asid, c.va); n != len(l)-len(c.want) {
			t.Error(c, n)
		}
		wantList(t, b, c.want...)
		if n := b.FlushVa(c.asid, c.va); n != 0 {
			t.Error(c, n, "a second time")
		}
	}
}

// P7.3: all of an ASID go; all go; and the buffer can be filled again. P7.4: they are counted.
func TestFlushAsidAndAll(t *testing.T) {
	l := []Entry{leaf(1, 3, 1, 1), leaf(0, 3, 1, 1), leaf(1, 2, 7, 1), leaf(255, 1, 1, 1), leaf(1, 3, 1, 2)}
	for asid, n := range map[int]int{0: 1, 1: 3, 2: 0, 254: 0, 255: 1, 256: 0, -1: 0, 1<<32 + 1: 0, math.MinInt: 0, math.MaxInt: 0} {
		b := buffer(t, 5, l...)
		if got := b.Count(asid); got != n {
			t.Error(asid, got)
		}
		if got := b.FlushAsid(asid); got != n || b.Count(asid) != 0 {
			t.Error(asid, got)
		}
		wantList(t, b, slices.DeleteFunc(slices.Clone(l), func(e Entry) bool { return e.Asid == asid })...)
		if got := b.FlushAll(); got != len(l)-n {
			t.Error(asid, got)
		}
		wantList(t, b)
		if b.FlushAll() != 0 || b.FlushAsid(1) != 0 || b.FlushVa(1, 0x1000) != 0 || b.Count(1) != 0 {
			t.Error("nothing is left")
		}
		fill(t, b, l...)
		fill(t, b, leaf(3, 3, 0, 0))
		wantList(t, b, append(slices.Clone(l[1:]), leaf(3, 3, 0, 0))...)
	}
}

// P7.4: entries clash if their stretches of one ASID have an address in common, in either order.
func TestClash(t *testing.T) {
	giga, block, page := leaf(1, 1, 1, 1), leaf(1, 2, 513, 1), leaf(1, 3, 513*512+7, 1)
	for _, pair := range [][2]Entry{{giga, block}, {giga, page}, {block, page}, {page, leaf(1, 3, 513*512+7, 9)}} {
		for _, way := range [][2]Entry{pair, {pair[1], pair[0]}} {
			b := buffer(t, 4, way[0], leaf(2, 1, 1, 1), way[1])
			if x, y, ok := b.Clash(); !ok || x != way[0] || y != way[1] {
				t.Error(way, x, y, ok)
			}
		}
	}
	for _, l := range [][]Entry{
		nil,
		{page},
		{page, page},
		{page, leaf(1, 3, 513*512+8, 1), leaf(1, 3, 513*512+6, 1)},
		{block, leaf(1, 3, 514*512, 1), leaf(1, 3, 513*512-1, 1)},
		{giga, leaf(1, 2, 1024, 1), leaf(1, 2, 511, 1)},
		{giga, leaf(1, 3, 1<<18-1, 1), leaf(1, 3, 2<<18, 1)},
		{giga, leaf(2, 2, 513, 1), leaf(3, 3, 513*512+7, 1), leaf(0, 1, 1, 1)},
		{leaf(1, 1, 0, 1), leaf(1, 1, 1<<18-1, 1)},
	} {
		if x, y, ok := buffer(t, 8, l...).Clash(); ok || x != (Entry{}) || y != (Entry{}) {
			t.Error(l, x, y, ok)
		}
	}
}

// P7.4: of several clashes the one is told whose first entry is the first one, with the first that it clashes with.
func TestFirstClash(t *testing.T) {
	alone, giga, block := leaf(1, 1, 9, 1), leaf(1, 1, 1, 1), leaf(1, 2, 513, 1)
	page, other := leaf(1, 3, 513*512+7, 1), leaf(1, 3, 513*512+7, 2)
	for _, c := range []struct{ l, want []Entry }{
		{[]Entry{alone, page, block, other, giga}, []Entry{page, block}},
		{[]Entry{alone, page, other, block, giga}, []Entry{page, other}},
		{[]Entry{alone, giga, page, other}, []Entry{giga, page}},
		// A later pair that stands closer together isn't the first one.
		{[]Entry{giga, alone, leaf(2, 3, 1, 1), leaf(2, 3, 1, 2), block}, []Entry{giga, block}},
		{[]Entry{leaf(1, 3, 513*512+6, 1), leaf(2, 3, 1, 1), leaf(2, 3, 1, 2), block}, []Entry{leaf(1, 3, 513*512+6, 1), block}},
	} {
		if x, y, ok := buffer(t, 8, c.l...).Clash(); !ok || x != c.want[0] || y != c.want[1] {
			t.Error(c.l, x, y, ok)
		}
	}
}

// What is told is new memory, spare room too: writing to it changes nothing.
func TestListIsNew(t *testing.T) {
	l := []Entry{leaf(1, 3, 1, 1), leaf(1, 3, 2, 1), leaf(1, 3, 3, 1)}
	b := buffer(t, 8, l...)
	one, two := b.List(), b.List()
	for _, told := range [][]Entry{one, two} {
		told = told[:cap(told)]
		for i := range told {
			told[i] = leaf(9, 1, 9, 9)
		}
		wantList(t, b, l...)
		if told == nil || b.Count(9) != 0 {
			t.Error("nothing is told")
		}
	}
	three := b.List()
	b.FlushVa(1, 0x1000)
	fill(t, b, leaf(4, 3, 1, 1))
	if !slices.Equal(three, l) {
		t.Error("what was told changed", three)
	}
	if !slices.Equal(one[:3], []Entry{leaf(9, 1, 9, 9), leaf(9, 1, 9, 9), leaf(9, 1, 9, 9)}) {
		t.Error("two answers share memory", one)
	}
}

// No two buffers have anything in common.
func TestBuffersApart(t *testing.T) {
	a, b := buffer(t, 2, leaf(1, 3, 1, 1)), buffer(t, 2)
	wantList(t, b)
	fill(t, b, leaf(2, 3, 2, 2), leaf(2, 3, 3, 2))
	wantList(t, a, leaf(1, 3, 1, 1))
	a.FlushAll()
	wantList(t, b, leaf(2, 3, 2, 2), leaf(2, 3, 3, 2))
}

// some is an entry of few ASIDs and stretches, so that many meet; now and then one that isn't right.
func some(r *rand.Rand) Entry {
	level := 1 + r.Intn(3)
	e := leaf(r.Intn(3), level, []uint64{0, 1, 1<<48/wide(level) - 1}[r.Intn(3)], uint64(r.Intn(2)))
	if level > 1 && r.Intn(2) == 0 {
		e.Va += wide(level - 1)
	}
	switch r.Intn(16) {
	case 0:
		e.Asid = wrongAsids[r.Intn(len(wrongAsids))]
	case 1:
		e.Level = r.Intn(6) - 1
	case 2:
		e.Va |= 1 << r.Intn(64)
	case 3:
		e.Desc.Used = false
	case 4:
		e.Desc.Kind = r.Intn(5)
	}
	return e
}

// P7.1 to P7.4: whatever is done in whatever order, a buffer answers as one that is gone through plainly.
func TestAgainstPlain(t *testing.T) {
	r := rand.New(rand.NewSource(7))
	for range 400 {
		p := &plain{most: 1 + r.Intn(9)}
		b := buffer(t, p.most)
		for range 100 {
			do(t, r, b, p)
			agree(t, r, b, p)
		}
	}
}

// do changes both buffers, and holds what they tell against each other.
func do(t *testing.T, r *rand.Rand, b *Tlb, p *plain) {
	t.Helper()
	e := some(r)
	asid, va := e.Asid, e.Va+uint64(r.Intn(3))*8
	switch n := r.Intn(20); n {
	case 0:
		if got, want := b.FlushVa(asid, va), p.flush(func(e Entry) bool { return plainMatch(e, asid, va) }); got != want {
			t.Fatal("FlushVa", asid, va, got, want)
		}
	case 1:
		if got, want := b.FlushAsid(asid), p.flush(func(e Entry) bool { return e.Asid == asid }); got != want {
			t.Fatal("FlushAsid", asid, got, want)
		}
	case 2:
		if r.Intn(4) == 0 {
			if got, want := b.FlushAll(), p.flush(func(Entry) bool { return true }); got != want {
				t.Fatal("FlushAll", got, want)
			}
		}
	case 3, 4:
		at := r.Intn(12) - 1
		want := at >= 0 && at < len(p.l)
		if want {
			p.l = slices.Concat(p.l[:at], p.l[at+1:])
		}
		if b.Drop(at) != want {
			t.Fatal("Drop", at, want)
		}
	default:
		if got, want := b.Fill(e), p.fill(e); got != want || e.Right() != (want == api.OK) {
			t.Fatal("Fill", e, got, want)
		}
	}
}

// agree holds all that can be asked without a change against each other.
func agree(t *testing.T, r *rand.Rand, b *Tlb, p *plain) {
	t.Helper()
	wantList(t, b, p.l...)
	x, y, ok := b.Clash()
	if a, c, want := p.clash(); x != a || y != c || ok != want {
		t.Fatal("Clash", x, y, ok, a, c, want)
	}
	e := some(r)
	va := e.Va + uint64(r.Intn(3))*0x800
	got, n := b.Find(e.Asid, va)
	if want, m := p.find(e.Asid, va); got != want || n != m {
		t.Fatal("Find", e.Asid, va, got, n, want, m)
	}
	if e.Matches(e.Asid, va) != plainMatch(e, e.Asid, va) {
		t.Fatal("Matches", e, va)
	}
	count := 0
	for _, x := range p.l {
		if x.Asid == e.Asid {
			count++
		}
	}
	if b.Count(e.Asid) != count {
		t.Fatal("Count", e.Asid, count)
	}
}
