package mmu

import (
	"math"
	"slices"
	"testing"

	"portreeve/api"
	"portreeve/tlb"
	"portreeve/trail"
	"portreeve/virt"
)

// pages are neighbours of va with a page each: as many as are asked for, va first.
func pages(t *testing.T, x *Mmu, n int) {
	t.Helper()
	for i := range uint64(n) {
		write(t, x.Memory(), at3+i*8, word(t, 3, full(3, page+i<<12)))
	}
}

// near is the entry of va's i-th neighbour.
func near(i uint64) tlb.Entry {
	return tlb.Entry{Asid: 7, Va: va + i<<12, Level: 3, Desc: full(3, page+i<<12)}
}

// P9.2: up to 8 guesses are planned; more are refused, and what was planned stays.
func TestPlan(t *testing.T) {
	for n := range 9 {
		x := ready(t, 64)
		pages(t, x, 9)
		var l []Plan
		var want []tlb.Entry
		for i := range uint64(n) {
			l = append(l, Plan{Va: va + i<<12 + 3, Hint: Hint{Fill: true}})
			want = append(want, near(i))
		}
		slices.Reverse(l)
		slices.Reverse(want)
		if e := x.Plan(l); e != api.OK {
			t.Error(n, e)
		}
		wantEntries(t, x)
		for _, many := range []int{9, 10, 64, 1000} {
			if e := x.Plan(make([]Plan, many)); e != api.ErrSize {
				t.Error(many, e)
			}
		}
		// What was handed in may be changed: it isn't kept.
		clear(l)
		for range 2 {
			if e := x.Write(0x20000, 6); e != api.OK {
				t.Error(e)
			}
			wantEntries(t, x, want...)
			wantMarks(t, x)
			x.FlushAll()
		}
		x.Plan(nil)
		x.Write(0x20000, 6)
		wantEntries(t, x)
	}
}

// P9.2: nothing is planned at first, and what is planned anew takes the place of the old.
func TestPlanAnew(t *testing.T) {
	x := ready(t, 4)
	pages(t, x, 3)
	x.Write(0x20000, 6)
	wantEntries(t, x)
	x.Plan([]Plan{{Va: va, Hint: Hint{Fill: true}}, {Va: va + 0x1000, Hint: Hint{Fill: true}}})
	x.Plan([]Plan{{Va: va + 0x2000, Hint: Hint{Fill: true}}})
	x.Write(0x20000, 6)
	wantEntries(t, x, near(2))
	x.FlushAll()
	x.Plan([]Plan{})
	x.Write(0x20000, 6)
	wantEntries(t, x)
}

// P9.2: a word is written, and the guesses see it; each guess is by its own hint, and sees what those ahead of it left.
func TestWrite(t *testing.T) {
	x := ready(t, 4)
	write(t, x.Memory(), at3, 0)
	x.Plan([]Plan{{Va: va, Hint: Hint{Fill: true}}, {Va: va + 0x1000, Hint: Hint{Keep: true}}, {Va: va + 0x1000, Hint: Hint{Fill: true, Led: true}}})
	if e := x.Write(at3, word(t, 3, full(3, page))); e != api.OK {
		t.Error(e)
	}
	wantEntries(t, x, entry(7))
	wantMarks(t, x, marks(7)...)
	// The way is cut above: the guess that is led goes on below.
	write(t, x.Memory(), at3+8, word(t, 3, full(3, page+0x1000)))
	if e := x.Write(at0, 0); e != api.OK {
		t.Error(e)
	}
	wantEntries(t, x, entry(7), near(1))
	if read(t, x.Memory(), at0) != 0 {
		t.Error("not written")
	}
}

// P9.2: a write that is refused has layer 3's error, and nothing is guessed.
func TestWriteOfWrong(t *testing.T) {
	for _, on := range []bool{true, false} {
		x := ready(t, 4)
		if !on {
			x.Off()
		}
		before := x.Memory().Copy()
		x.Plan([]Plan{{Va: va, Hint: Hint{Fill: true, Keep: true}}})
		for at, want := range map[uint64]api.Errno{1: api.ErrAlign, 4: api.ErrAlign, size + 4: api.ErrAlign, all: api.ErrAlign, size: api.ErrRange, size + 8: api.ErrRange, 1 << 32: api.ErrRange, all - 7: api.ErrRange} {
			if e := x.Write(at, 5); e != want {
				t.Error(at, e)
			}
		}
		wantEntries(t, x)
		wantMarks(t, x)
		if !x.Memory().Same(before) {
			t.Error("a word was written")
		}
		if e := x.Write(size-8, 5); e != api.OK || read(t, x.Memory(), size-8) != 5 {
			t.Error(on, e)
		}
		if guessed := len(x.Entries()) == 1; guessed != on {
			t.Error(on, x.Entries())
		}
	}
}

// P9.2: only what the kernel writes is followed by what is planned: no store, and no write to the memory itself.
func TestStoresAreNoWrites(t *testing.T) {
	x := ready(t, 4)
	pages(t, x, 2)
	x.Plan([]Plan{{Va: va + 0x1000, Hint: Hint{Fill: true, Keep: true}}})
	wantResult(t, x.Access(virt.Store, va, 5, Hint{}), Result{})
	if n, f := x.Store(va, []uint64{1, 2}, Hint{}); n != 2 || f != (virt.Fault{}) {
		t.Error(n, f)
	}
	write(t, x.Memory(), page, 3)
	x.Access(virt.Load, va, 0, Hint{})
	wantEntries(t, x)
	wantMarks(t, x)
}

// P9.3: the entry or the mark at a place goes, and true; else nothing.
func TestEvictAndLose(t *testing.T) {
	entries := []tlb.Entry{near(0), near(1), near(2)}
	for n := range 3 {
		x := ready(t, 4)
		pages(t, x, 3)
		for i := range uint64(3) {
			x.Guess(va+i<<12, Hint{Fill: true, Keep: true})
		}
		for _, none := range []int{math.MinInt, -1, 3, 4, 64, 1 << 32, math.MaxInt} {
			if x.Evict(none) || x.Lose(none) {
				t.Error(none)
			}
		}
		wantEntries(t, x, entries...)
		wantMarks(t, x, marks(7)...)
		if !x.Evict(n) {
			t.Error(n)
		}
		wantEntries(t, x, slices.Concat(entries[:n], entries[n+1:])...)
		wantMarks(t, x, marks(7)...)
		if !x.Lose(n) || x.Lose(2) || x.Evict(2) {
			t.Error(n)
		}
		wantEntries(t, x, slices.Concat(entries[:n], entries[n+1:])...)
		wantMarks(t, x, slices.Concat(marks(7)[:n], marks(7)[n+1:])...)
	}
}

// full7and8 is a machine that remembers va and all on its way, of two ASIDs.
func full7and8(t *testing.T) *Mmu {
	t.Helper()
	x := ready(t, 8)
	x.Guess(va, Hint{Fill: true, Keep: true})
	x.Set(register(8))
	x.Guess(va, Hint{Fill: true, Keep: true})
	wantEntries(t, x, entry(7), entry(8))
	wantMarks(t, x, append(marks(7), marks(8)...)...)
	return x
}

// P9.3: entries and marks of an address go, those of the ASID alone; whether it is the register's or not.
func TestFlushVa(t *testing.T) {
	both := append(marks(7), marks(8)...)
	for _, c := range []struct {
		asid    int
		va      uint64
		entries []tlb.Entry
		marks   []trail.Mark
	}{
		{7, va, []tlb.Entry{entry(8)}, marks(8)},
		{8, va + 0xfff, []tlb.Entry{entry(7)}, marks(7)},
		// An address beside the page has the same tables; one further off fewer of them, and the last none.
		{7, va + 1<<12, []tlb.Entry{entry(7), entry(8)}, marks(8)},
		{7, va + 1<<21, []tlb.Entry{entry(7), entry(8)}, both[2:]},
		{7, va + 1<<30, []tlb.Entry{entry(7), entry(8)}, both[1:]},
		{7, va + 1<<39, []tlb.Entry{entry(7), entry(8)}, both},
		{6, va, []tlb.Entry{entry(7), entry(8)}, both},
		{-1, va, []tlb.Entry{entry(7), entry(8)}, both},
		{7 + 256, va, []tlb.Entry{entry(7), entry(8)}, both},
		{math.MaxInt, va, []tlb.Entry{entry(7), entry(8)}, both},
		{7, 1<<48 | va, []tlb.Entry{entry(7), entry(8)}, both},
		{7, all, []tlb.Entry{entry(7), entry(8)}, both},
	} {
		x := full7and8(t)
		x.FlushVa(c.asid, c.va)
		wantEntries(t, x, c.entries...)
		wantMarks(t, x, c.marks...)
	}
}

// P9.3: all of an ASID go, or all, of both.
func TestFlushAsidAndAll(t *testing.T) {
	for _, c := range []struct{ asid, other int }{{7, 8}, {8, 7}} {
		x := full7and8(t)
		for _, none := range []int{0, 6, 9, 255, -1, 7 + 256, 1<<32 + 7, math.MinInt, math.MaxInt} {
			x.FlushAsid(none)
		}
		wantEntries(t, x, entry(7), entry(8))
		x.FlushAsid(c.asid)
		wantEntries(t, x, entry(c.other))
		wantMarks(t, x, marks(c.other)...)
	}
	x := full7and8(t)
	x.FlushAll()
	wantEntries(t, x)
	wantMarks(t, x)
	if w, on := x.Register(); w != register(8) || !on {
		t.Error("the register stays", w, on)
	}
}

// P9.3: what is told is new memory, spare room too.
func TestToldIsNew(t *testing.T) {
	x := full7and8(t)
	for range 2 {
		e, k := x.Entries(), x.Marks()
		clear(e[:cap(e)])
		clear(k[:cap(k)])
		wantEntries(t, x, entry(7), entry(8))
		wantMarks(t, x, append(marks(7), marks(8)...)...)
	}
	e, k := x.Entries(), x.Marks()
	x.FlushAsid(7)
	if e[0] != entry(7) || e[1] != entry(8) || k[0] != marks(7)[0] || k[5] != marks(8)[2] {
		t.Error("what was told changed")
	}
}

// P9.4: entries are sound as long as a walk from the root comes to just them.
func TestSoundOfEntries(t *testing.T) {
	d := full(3, page)
	rights := []func(){
		func() { d.Write = false }, func() { d.Exec = false }, func() { d.User = false }, func() { d.Used = false },
		func() { d.Attr = 1 }, func() { d.Out = 0xa000 },
	}
	x := ready(t, 4)
	x.Guess(va, Hint{Fill: true})
	check := func(at, w uint64) {
		t.Helper()
		old := read(t, x.Memory(), at)
		if !x.Sound() {
			t.Error("sound as yet")
		}
		write(t, x.Memory(), at, w)
		if x.Sound() {
			t.Error(at, w)
		}
		// Of another ASID, and without a register, the entry plays no part.
		x.Set(register(8))
		if !x.Sound() {
			t.Error("another ASID")
		}
		x.Off()
		if !x.Sound() {
			t.Error("no register")
		}
		x.Set(register(7))
		write(t, x.Memory(), at, old)
	}
	for _, change := range rights {
		d = full(3, page)
		change()
		check(at3, word(t, 3, d))
	}
	for _, at := range []uint64{at0, at1, at2, at3} {
		check(at, 0)
		check(at, 1)
	}
	check(at2, word(t, 2, full(2, 0)))
	// Another root with the same way is as good.
	write(t, x.Memory(), 0x8008, table(second))
	x.Set(7<<48 | 0x8000)
	if !x.Sound() {
		t.Error("from another root")
	}
	x.Set(7<<48 | 0x7000)
	if x.Sound() {
		t.Error("from a root without a way")
	}
}

// P9.4: an entry of a block is sound as a whole: a page in its place isn't it.
func TestSoundOfBlocks(t *testing.T) {
	x := ready(t, 4)
	write(t, x.Memory(), at2, word(t, 2, full(2, 1<<30)))
	x.Guess(va, Hint{Fill: true})
	if !x.Sound() {
		t.Error("a block")
	}
	write(t, x.Memory(), at2, table(fourth))
	write(t, x.Memory(), fourth, word(t, 3, full(3, 1<<30)))
	if x.Sound() {
		t.Error("a page where the block was")
	}
	write(t, x.Memory(), at2, word(t, 2, full(2, 1<<30|1<<21)))
	if x.Sound() {
		t.Error("another block")
	}
}

// P9.4: marks are sound as long as a walk from the root goes on in their tables, whatever it comes to there.
func TestSoundOfMarks(t *testing.T) {
	for n := range 3 {
		x := ready(t, 4)
		x.Guess(va, Hint{Keep: true})
		for i := 2; i >= 0; i-- {
			if i != n {
				x.Lose(i)
			}
		}
		wantMarks(t, x, marks(7)[n])
		for level, at := range []uint64{at0, at1, at2, at3} {
			for _, w := range []uint64{0, 1, all, table(0x5000), table(size)} {
				old := read(t, x.Memory(), at)
				write(t, x.Memory(), at, w)
				// Words from the mark's own table on say nothing of it.
				if sound := x.Sound(); sound != (level > n) {
					t.Error(n, level, w, sound)
				}
				write(t, x.Memory(), at, old)
				if !x.Sound() {
					t.Error(n, level, "sound again")
				}
			}
		}
		write(t, x.Memory(), at0, 0)
		x.Set(register(8))
		if !x.Sound() {
			t.Error("another ASID")
		}
		x.Off()
		if !x.Sound() {
			t.Error("no register")
		}
	}
}

// P9.4: a table at another level of the way isn't a mark's own.
func TestSoundAtItsLevel(t *testing.T) {
	x := ready(t, 4)
	// Each table leads to itself, till the last level reads one as a page.
	write(t, x.Memory(), 0x5000, table(0x5000))
	x.Set(7<<48 | 0x5000)
	x.Guess(0, Hint{Keep: true})
	if len(x.Marks()) != 3 || !x.Sound() {
		t.Error(x.Marks())
	}
	write(t, x.Memory(), 0x6000, table(0x5000))
	x.Set(7<<48 | 0x6000)
	if !x.Sound() {
		t.Error("the levels 1 to 3 are the same")
	}
	write(t, x.Memory(), 0xb000, table(0x6000))
	x.Set(7<<48 | 0xb000)
	if x.Sound() {
		t.Error("at the level 1 there is another table")
	}
	// The mark of the level 1 goes: those of 2 and 3 are as they were.
	x.Lose(0)
	if !x.Sound() {
		t.Error("at the levels 2 and 3 there are the same")
	}
}

// line is a page of words for loads and stores, from va on, and the next one behind it.
func line(t *testing.T) *Mmu {
	t.Helper()
	x := ready(t, 4)
	pages(t, x, 2)
	for i := range uint64(1024) {
		write(t, x.Memory(), page+8*i, 1000+i)
	}
	return x
}

// P9.5: loads of words one behind the other, at most 512.
func TestLoad(t *testing.T) {
	for _, h := range hints() {
		x := line(t)
		for _, n := range []int{math.MinInt, -512, -1, 0, 1, 2, 511, 512, 513, 1024, 1 << 32, math.MaxInt} {
			for _, from := range []uint64{0, 1, 256, 511} {
				l, f := x.Load(va+8*from, n, h)
				if f != (virt.Fault{}) || len(l) != max(0, min(n, 512)) {
					t.Fatal(n, from, len(l), f)
				}
				for i, w := range l {
					if w != 1000+from+uint64(i) {
						t.Fatal(n, from, i, w)
					}
				}
			}
		}
		// No access, no fault, and nothing remembered.
		x.FlushAll()
		for _, a := range []uint64{va, va + 1, 0, all} {
			if l, f := x.Load(a, 0, Hint{true, true, true}); len(l) != 0 || f != (virt.Fault{}) {
				t.Error(a, l, f)
			}
			if n, f := x.Store(a, nil, Hint{true, true, true}); n != 0 || f != (virt.Fault{}) {
				t.Error(a, n, f)
			}
		}
		wantEntries(t, x)
		wantMarks(t, x)
	}
}

// P9.5: up to the first fault: what is ahead of it is told and stored.
func TestUpToTheFault(t *testing.T) {
	missing := virt.Fault{Kind: virt.Missing, Level: 3}
	for _, h := range hints() {
		x := line(t)
		for ahead := range 4 {
			from := va + 0x2000 - uint64(8*ahead)
			for _, n := range []int{ahead + 1, 9, 512, math.MaxInt} {
				l, f := x.Load(from, n, h)
				if f != missing || len(l) != ahead || ahead > 0 && l[ahead-1] != 2023 {
					t.Error(ahead, n, l, f)
				}
			}
			if l, f := x.Load(from, ahead, h); f != (virt.Fault{}) || len(l) != ahead {
				t.Error(ahead, l, f)
			}
		}
		given := []uint64{1, 2, 3, 4}
		if n, f := x.Store(va+0x2000-16, given, h); n != 2 || f != missing {
			t.Error(n, f)
		}
		if l, f := x.Load(va+0x2000-24, 3, h); f != (virt.Fault{}) || !slices.Equal(l, []uint64{2021, 1, 2}) {
			t.Error(l, f)
		}
		if !slices.Equal(given, []uint64{1, 2, 3, 4}) {
			t.Error("what was handed in changed", given)
		}
		for a, kind := range map[uint64]int{va + 1: virt.Unaligned, all: virt.Unaligned, all - 7: virt.Missing, 1 << 48: virt.Missing} {
			if l, f := x.Load(a, 5, h); len(l) != 0 || f != (virt.Fault{Kind: kind}) {
				t.Error(a, l, f)
			}
			if n, f := x.Store(a, given, h); n != 0 || f != (virt.Fault{Kind: kind}) {
				t.Error(a, n, f)
			}
		}
	}
}

// P9.5: behind the last low address comes one that isn't low.
func TestEndOfLow(t *testing.T) {
	x := ready(t, 4)
	last := uint64(511 * 8)
	for _, s := range []struct{ at, w uint64 }{{root + last, table(second)}, {second + last, table(third)}, {third + last, table(fourth)}, {fourth + last, word(t, 3, full(3, page))}} {
		write(t, x.Memory(), s.at, s.w)
	}
	if n, f := x.Store(1<<48-16, []uint64{1, 2, 3}, Hint{}); n != 2 || f != (virt.Fault{Kind: virt.Missing}) {
		t.Error(n, f)
	}
	if l, f := x.Load(1<<48-16, 3, Hint{}); !slices.Equal(l, []uint64{1, 2}) || f != (virt.Fault{Kind: virt.Missing}) {
		t.Error(l, f)
	}
}

// P9.5: all words of a list are stored, also where they are more than may be loaded at once.
func TestStoreAll(t *testing.T) {
	for _, count := range []int{1, 511, 512, 513, 1000, 1024} {
		x := line(t)
		given := make([]uint64, count)
		for i := range given {
			given[i] = uint64(5000 + i)
		}
		if n, f := x.Store(va, given, Hint{Fill: true}); n != count || f != (virt.Fault{}) {
			t.Error(count, n, f)
		}
		for i := range uint64(1024) {
			want := 1000 + i
			if int(i) < count {
				want = 5000 + i
			}
			if got := read(t, x.Memory(), page+8*i); got != want {
				t.Fatal(count, i, got)
			}
		}
		given = append(given, make([]uint64, 1025)...)
		if n, f := x.Store(va, given, Hint{}); n != 1024 || f != (virt.Fault{Kind: virt.Missing, Level: 3}) {
			t.Error(count, n, f)
		}
	}
}

// P9.5: each of them is an access of its own: a store into the way's own table is seen by the next one.
func TestStoreIntoTables(t *testing.T) {
	for _, fill := range []bool{false, true} {
		x := ready(t, 4)
		write(t, x.Memory(), at3, word(t, 3, full(3, fourth)))
		n, f := x.Store(va+24, []uint64{0, 0, 0}, Hint{Fill: fill})
		if fill && (n != 3 || f != (virt.Fault{})) || !fill && (n != 2 || f != (virt.Fault{Kind: virt.Missing, Level: 3})) {
			t.Error(fill, n, f)
		}
	}
}

// P9.5: each is with the hint: the first one remembers, and the others go by that.
func TestHintsOfLoads(t *testing.T) {
	x := line(t)
	if l, f := x.Load(va+8*511, 2, Hint{Fill: true, Keep: true}); len(l) != 2 || f != (virt.Fault{}) {
		t.Error(l, f)
	}
	wantEntries(t, x, near(0), near(1))
	wantMarks(t, x, marks(7)...)
	x.FlushAll()
	if n, f := x.Store(va+8*511, []uint64{1, 2}, Hint{Fill: true}); n != 2 || f != (virt.Fault{}) {
		t.Error(n, f)
	}
	wantEntries(t, x, near(0), near(1))
	wantMarks(t, x)
	l, _ := x.Load(va, 3, Hint{})
	clear(l[:cap(l)])
	if got, _ := x.Load(va, 3, Hint{}); !slices.Equal(got, []uint64{1000, 1001, 1002}) {
		t.Error(got)
	}
}

// No two machines have anything in common but a memory that both were given.
func TestApart(t *testing.T) {
	x := ready(t, 4)
	m := x.Memory()
	y, e := New(m, 4)
	if e != api.OK {
		t.Fatal(e)
	}
	x.Guess(va, Hint{Fill: true, Keep: true})
	x.Plan([]Plan{{Va: va, Hint: Hint{Fill: true}}})
	if _, on := y.Register(); on {
		t.Error("a register")
	}
	y.Set(register(7))
	y.Write(0x20000, 1)
	wantEntries(t, y)
	wantMarks(t, y)
	y.FlushAll()
	wantEntries(t, x, entry(7))
	if y.Memory() != m || read(t, x.Memory(), 0x20000) != 1 {
		t.Error("one memory")
	}
}
