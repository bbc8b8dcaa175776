package mmu

import (
	"math"
	"slices"
	"testing"

	"portreeve/api"
	"portreeve/desc"
	"portreeve/phys"
	"portreeve/tlb"
	"portreeve/trail"
	"portreeve/virt"
)

const all = ^uint64(0)

// Where the tables and pages of the tests lie: one table of each level, and pages beside them.
const (
	root   = 0x1000
	second = 0x2000
	third  = 0x3000
	fourth = 0x4000
	page   = 0x9000
	size   = 1 << 31
)

// va is an address whose way goes through those tables at the indexes 1, 2, 3 and 4, all of them unlike.
const va = 1<<39 | 2<<30 | 3<<21 | 4<<12

// Where the words of that way are.
const (
	at0 = root + 8
	at1 = second + 16
	at2 = third + 24
	at3 = fourth + 32
)

// register is the word of the tests' root with an ASID.
func register(asid int) uint64 { return uint64(asid)<<48 | root }

// full is a leaf of a level by which all accesses are let through.
func full(level int, out uint64) desc.Desc {
	kind := desc.Block
	if level == 3 {
		kind = desc.Page
	}
	return desc.Desc{Kind: kind, Out: out, User: true, Write: true, Exec: true, Used: true}
}

func word(t *testing.T, level int, d desc.Desc) uint64 {
	t.Helper()
	w, e := desc.Encode(level, d)
	if e != api.OK {
		t.Fatal(level, d, e)
	}
	return w
}

func table(at uint64) uint64 { return at | 3 }

func write(t *testing.T, m *phys.Memory, at, w uint64) {
	t.Helper()
	if e := m.Write(at, w); e != api.OK {
		t.Fatal(at, w, e)
	}
}

func read(t *testing.T, m *phys.Memory, at uint64) uint64 {
	t.Helper()
	w, e := m.Read(at)
	if e != api.OK {
		t.Fatal(at, e)
	}
	return w
}

// bare is a machine whose memory has the way of va, with its page, and no register.
func bare(t *testing.T, most int) *Mmu {
	t.Helper()
	m, e := phys.New(size)
	if e != api.OK {
		t.Fatal(e)
	}
	write(t, m, at0, table(second))
	write(t, m, at1, table(third))
	write(t, m, at2, table(fourth))
	write(t, m, at3, word(t, 3, full(3, page)))
	write(t, m, page, 70)
	write(t, m, page+8, 71)
	x, e := New(m, most)
	if e != api.OK || x == nil {
		t.Fatal(most, x, e)
	}
	return x
}

// ready is such a machine with the ASID 7.
func ready(t *testing.T, most int) *Mmu {
	t.Helper()
	x := bare(t, most)
	if e := x.Set(register(7)); e != api.OK {
		t.Fatal(e)
	}
	return x
}

// entry is what is filled in of va's page.
func entry(asid int) tlb.Entry {
	return tlb.Entry{Asid: asid, Va: va, Level: 3, Desc: full(3, page)}
}

// marks are what the whole way of va leaves.
func marks(asid int) []trail.Mark {
	return []trail.Mark{
		{Asid: asid, Va: 1 << 39, Level: 1, Table: second},
		{Asid: asid, Va: 1<<39 | 2<<30, Level: 2, Table: third},
		{Asid: asid, Va: 1<<39 | 2<<30 | 3<<21, Level: 3, Table: fourth},
	}
}

func wantEntries(t *testing.T, x *Mmu, want ...tlb.Entry) {
	t.Helper()
	if got := x.Entries(); !slices.Equal(got, want) {
		t.Fatal("got", got, "want", want)
	}
}

func wantMarks(t *testing.T, x *Mmu, want ...trail.Mark) {
	t.Helper()
	if got := x.Marks(); !slices.Equal(got, want) {
		t.Fatal("got", got, "want", want)
	}
}

func wantResult(t *testing.T, got, want Result) {
	t.Helper()
	if got != want {
		t.Fatal("got", got, "want", want)
	}
}

func told(w uint64) Result { return Result{Word: w} }

func fault(kind, level int) Result {
	return Result{Fault: virt.Fault{Kind: kind, Level: level}}
}

// P9.1: a machine is made of 1 to MaxTlb entries and marks, and of each at most so many.
func TestNew(t *testing.T) {
	m, _ := phys.New(api.MinMemory)
	for _, most := range []int{math.MinInt, -64, -1, 0, api.MaxTlb + 1, 128, 1<<32 + 1, math.MaxInt} {
		if x, e := New(m, most); x != nil || e != api.ErrRange {
			t.Error(most, x, e)
		}
	}
	for most := 1; most <= api.MaxTlb; most++ {
		x := ready(t, most)
		for i := range uint64(api.MaxTlb + 2) {
			write(t, x.Memory(), fourth+i*8, word(t, 3, full(3, page)))
			x.Guess(virt.Base(va, 2)+i<<12, Hint{Fill: true})
			write(t, x.Memory(), root+i*8, table(second))
			x.Guess(i<<39, Hint{Keep: true})
			if n := min(int(i)+1, most); len(x.Entries()) != n || len(x.Marks()) != n {
				t.Fatal(most, i, len(x.Entries()), len(x.Marks()))
			}
		}
	}
}

// P9.1: a machine has the memory that it was given, nothing remembered, and no register.
func TestNewIsEmpty(t *testing.T) {
	m, _ := phys.New(api.MinMemory)
	write(t, m, 8, 5)
	x, e := New(m, 1)
	if e != api.OK || x.Memory() != m || m.Words() != 1 {
		t.Fatal(x, e)
	}
	if w, on := x.Register(); w != 0 || on || !x.Sound() {
		t.Error(w, on)
	}
	wantEntries(t, x)
	wantMarks(t, x)
}

// P9.1: the register is each word of a base and an ASID, till it is another one, or none.
func TestSet(t *testing.T) {
	x := bare(t, 4)
	for _, w := range []uint64{0, 0x1000, 1<<48 - 0x1000, 1 << 48, 255 << 48, 1<<56 - 0x1000, register(7)} {
		if e := x.Set(w); e != api.OK {
			t.Error(w, e)
		}
		if got, on := x.Register(); got != w || !on {
			t.Error(w, got, on)
		}
	}
	x.Off()
	if got, on := x.Register(); got != 0 || on {
		t.Error(got, on)
	}
	x.Off()
	if e := x.Set(0); e != api.OK {
		t.Error(e)
	}
	if got, on := x.Register(); got != 0 || !on {
		t.Error("the register 0 is one", got, on)
	}
}

// P9.1: a word that is no register's is refused, and all stays.
func TestSetOfWrong(t *testing.T) {
	for bit := range 64 {
		if bit >= 12 && bit < 56 {
			continue
		}
		x := bare(t, 4)
		for _, on := range []bool{false, true} {
			if on {
				x.Set(register(7))
			}
			for _, w := range []uint64{1 << bit, register(7) | 1<<bit, all} {
				if e := x.Set(w); e != api.ErrForm {
					t.Error(w, e)
				}
			}
			if w, got := x.Register(); got != on || on && w != register(7) {
				t.Error(bit, w, got)
			}
		}
	}
}

// P9.1: a register that comes or goes takes nothing of what is remembered away, and fills nothing in.
func TestSetKeepsWhatIsRemembered(t *testing.T) {
	x := ready(t, 4)
	x.Guess(va, Hint{Fill: true, Keep: true})
	for _, w := range []uint64{register(8), 0, register(7)} {
		x.Set(w)
		wantEntries(t, x, entry(7))
		wantMarks(t, x, marks(7)...)
		x.Off()
		wantEntries(t, x, entry(7))
		wantMarks(t, x, marks(7)...)
	}
}

// P9.2: loads, fetches and stores go through the tables; a kind that is none is a load.
func TestAccess(t *testing.T) {
	for _, h := range hints() {
		x := ready(t, 4)
		for _, kind := range []int{virt.Load, virt.Fetch, 0, -1, 4, 9, math.MinInt, math.MaxInt, 1<<32 + virt.Store} {
			wantResult(t, x.Access(kind, va, 5, h), told(70))
			wantResult(t, x.Access(kind, va+8, 5, h), told(71))
			wantResult(t, x.Access(kind, va+4088, 5, h), told(0))
		}
		wantResult(t, x.Access(virt.Store, va+8, 42, h), Result{})
		wantResult(t, x.Access(virt.Load, va+8, 0, h), told(42))
		wantResult(t, x.Access(virt.Store, va+4088, all, h), Result{})
		if read(t, x.Memory(), page+8) != 42 || read(t, x.Memory(), page+4088) != all || x.Memory().Words() != 7 {
			t.Error("stored elsewhere")
		}
	}
}

// hints are all of them.
func hints() []Hint {
	var l []Hint
	for i := range 8 {
		l = append(l, Hint{Fill: i&1 != 0, Led: i&2 != 0, Keep: i&4 != 0})
	}
	return l
}

// P9.2: the leaf of each level covers its stretch from the first to the last word.
func TestAccessAtEachLevel(t *testing.T) {
	for level, at := range []uint64{1: at1, 2: at2, 3: at3} {
		if level == 0 {
			continue
		}
		wide := uint64(1) << desc.Bits(level)
		for _, h := range hints() {
			x := ready(t, 4)
			write(t, x.Memory(), at, word(t, level, full(level, 1<<30)))
			first := virt.Base(va, level)
			for i, offset := range []uint64{0, 8, wide / 2, wide - 8} {
				wantResult(t, x.Access(virt.Store, first+offset, uint64(100+i), h), Result{})
				if got := read(t, x.Memory(), 1<<30+offset); got != uint64(100+i) {
					t.Error(level, offset, got)
				}
				wantResult(t, x.Access(virt.Load, first+offset, 0, h), told(uint64(100+i)))
			}
			if h.Fill {
				wantEntries(t, x, tlb.Entry{Asid: 7, Va: first, Level: level, Desc: full(level, 1<<30)})
			} else {
				wantEntries(t, x)
			}
		}
	}
}

// P9.2: an address that 8 doesn't divide is Unaligned ahead of all else.
func TestUnaligned(t *testing.T) {
	x := bare(t, 4)
	for range 2 {
		for i := range uint64(7) {
			for _, a := range []uint64{va + i + 1, i + 1, 1<<48 + i + 1, all - i} {
				if a%8 == 0 {
					continue
				}
				for _, kind := range []int{virt.Load, virt.Store, virt.Fetch} {
					wantResult(t, x.Access(kind, a, 5, Hint{true, true, true}), fault(virt.Unaligned, 0))
				}
			}
		}
		wantEntries(t, x)
		wantMarks(t, x)
		x.Set(register(7))
	}
	clashed(t, x)
	wantResult(t, x.Access(virt.Load, va+4, 0, Hint{}), fault(virt.Unaligned, 0))
	if x.Memory().Words() != 6 {
		t.Error("something was stored")
	}
}

// P9.2: without a register all is Missing at 0, remembered or not, and nothing is walked.
func TestMissingWithoutRegister(t *testing.T) {
	x := bare(t, 4)
	for range 2 {
		for _, kind := range []int{virt.Load, virt.Store, virt.Fetch, 0} {
			for _, a := range []uint64{0, va, va + 8, 1 << 48, all - 7} {
				wantResult(t, x.Access(kind, a, 5, Hint{true, true, true}), fault(virt.Missing, 0))
			}
		}
		before, left := x.Entries(), x.Marks()
		x.Guess(0, Hint{true, true, true})
		x.Guess(va, Hint{true, true, true})
		wantEntries(t, x, before...)
		wantMarks(t, x, left...)
		x.Set(register(7))
		x.Guess(va, Hint{Fill: true, Keep: true})
		x.Off()
		wantEntries(t, x, entry(7))
	}
}

// P9.2: an address that isn't low is Missing at 0: no entry and no mark of its lower bits is of use.
func TestNotLow(t *testing.T) {
	x := ready(t, 4)
	x.Guess(va, Hint{Fill: true, Keep: true})
	for _, a := range []uint64{1 << 48, 1<<48 | va, 1<<63 | va, 0xffff<<48 | va, all - 7} {
		for _, h := range hints() {
			wantResult(t, x.Access(virt.Load, a, 0, h), fault(virt.Missing, 0))
			x.Guess(a, h)
		}
	}
	wantEntries(t, x, entry(7))
	wantMarks(t, x, marks(7)...)
}

// P9.2: the walk's own faults, at each level, whatever the hint is; the words on the way leave their marks all the same.
func TestFaultsOfWalks(t *testing.T) {
	for level, at := range []uint64{at0, at1, at2, at3} {
		words := map[uint64]int{0: virt.Missing, 0x5002: virt.Missing, all - 1: virt.Missing, all: virt.Reserved, 1: virt.Reserved, 1<<48 | 3: virt.Reserved}
		if level > 0 {
			words[word(t, level, full(level, size))] = virt.Reserved
		}
		for w, kind := range words {
			for _, h := range hints() {
				x := ready(t, 4)
				write(t, x.Memory(), at, w)
				for _, access := range []int{virt.Load, virt.Store, virt.Fetch} {
					wantResult(t, x.Access(access, va, 5, h), fault(kind, level))
				}
				wantEntries(t, x)
				if h.Keep {
					wantMarks(t, x, marks(7)[:level]...)
				} else {
					wantMarks(t, x)
				}
			}
		}
	}
}

// P9.2: a table that lies in no memory is Reserved at its level, from the root on.
func TestTablesInNoMemory(t *testing.T) {
	x := ready(t, 4)
	for _, w := range []uint64{size, size + root, 1<<48 - 0x1000} {
		x.Set(w)
		wantResult(t, x.Access(virt.Load, va, 0, Hint{true, true, true}), fault(virt.Reserved, 0))
	}
	wantMarks(t, x)
	for level, at := range []uint64{at0, at1, at2} {
		for _, h := range hints() {
			x := ready(t, 4)
			write(t, x.Memory(), at, table(size))
			for range 2 {
				wantResult(t, x.Access(virt.Load, va, 0, h), fault(virt.Reserved, level+1))
			}
			if h.Keep {
				want := marks(7)[:level+1]
				want[level].Table = size
				wantMarks(t, x, want...)
			}
			if !x.Sound() {
				t.Error("a walk comes through the mark", level, h)
			}
		}
	}
}

// P9.2: what the leaf doesn't let through is its fault, walked or remembered; it is filled in if it is Used, whoever is refused.
func TestFaultsOfLeaves(t *testing.T) {
	for level, at := range []uint64{1: at1, 2: at2, 3: at3} {
		if level == 0 {
			continue
		}
		for bits := range 16 {
			d := full(level, 0)
			d.User, d.Write, d.Exec, d.Used = bits&1 != 0, bits&2 != 0, bits&4 != 0, bits&8 != 0
			for _, access := range []int{virt.Load, virt.Store, virt.Fetch, 0, 9} {
				want := told(table(second))
				switch {
				case !d.Used:
					want = fault(virt.Unused, level)
				case !d.User, access == virt.Store && !d.Write, access == virt.Fetch && !d.Exec:
					want = fault(virt.Refused, level)
				case access == virt.Store:
					want = Result{}
				}
				x := ready(t, 4)
				write(t, x.Memory(), at, word(t, level, d))
				write(t, x.Memory(), 0, table(second))
				for range 2 {
					wantResult(t, x.Access(access, virt.Base(va, level), table(second), Hint{Fill: true}), want)
				}
				if d.Used {
					wantEntries(t, x, tlb.Entry{Asid: 7, Va: virt.Base(va, level), Level: level, Desc: d})
				} else {
					wantEntries(t, x)
				}
				wantMarks(t, x)
			}
		}
	}
}

// P9.2: what isn't let through stores nothing.
func TestRefusedStoresNothing(t *testing.T) {
	x := ready(t, 4)
	d := full(3, page)
	d.Write = false
	write(t, x.Memory(), at3, word(t, 3, d))
	for range 2 {
		wantResult(t, x.Access(virt.Store, va, 5, Hint{Fill: true}), fault(virt.Refused, 3))
		wantResult(t, x.Access(virt.Load, va, 5, Hint{Fill: true}), told(70))
	}
}

// P9.2, the chapter's example: a page that is filled in, and taken out of its table, is read till its address is flushed.
func TestRemembered(t *testing.T) {
	for _, flush := range []func(x *Mmu){
		func(x *Mmu) { x.FlushVa(7, va+0xfff) },
		func(x *Mmu) { x.FlushAsid(7) },
		func(x *Mmu) { x.FlushAll() },
		func(x *Mmu) { x.Evict(0) },
		func(x *Mmu) { x.Set(register(8)) },
	} {
		x := ready(t, 4)
		wantResult(t, x.Access(virt.Load, va, 0, Hint{Fill: true}), told(70))
		write(t, x.Memory(), at3, 0)
		for _, h := range hints() {
			wantResult(t, x.Access(virt.Load, va+8, 0, h), told(71))
		}
		// A hit is no walk: it leaves neither marks nor entries.
		wantEntries(t, x, entry(7))
		wantMarks(t, x)
		x.FlushVa(6, va)
		x.FlushVa(7, va+0x1000)
		x.FlushVa(7, 1<<48|va)
		x.FlushAsid(8)
		wantResult(t, x.Access(virt.Load, va, 0, Hint{}), told(70))
		flush(x)
		wantResult(t, x.Access(virt.Load, va, 0, Hint{}), fault(virt.Missing, 3))
	}
}

// P9.2: what is remembered is the entry's own rights and stretch, not the tables'.
func TestEntryIsTheLeaf(t *testing.T) {
	x := ready(t, 4)
	d := full(2, 1<<30)
	d.Exec = false
	write(t, x.Memory(), at2, word(t, 2, d))
	write(t, x.Memory(), 1<<30+0x5008, 9)
	x.Guess(va, Hint{Fill: true})
	write(t, x.Memory(), at2, table(fourth))
	a := virt.Base(va, 2) + 0x5008
	wantResult(t, x.Access(virt.Load, a, 0, Hint{}), told(9))
	wantResult(t, x.Access(virt.Fetch, a, 0, Hint{}), fault(virt.Refused, 2))
	wantResult(t, x.Access(virt.Store, a, 10, Hint{}), Result{})
	if read(t, x.Memory(), 1<<30+0x5008) != 10 {
		t.Error("stored elsewhere")
	}
}

// clashed fills the page of va in, and a block that has it too.
func clashed(t *testing.T, x *Mmu) {
	t.Helper()
	x.Guess(va, Hint{Fill: true})
	write(t, x.Memory(), at2, word(t, 2, full(2, 0)))
	x.Guess(va+0x1000, Hint{Fill: true})
	write(t, x.Memory(), at2, table(fourth))
	wantEntries(t, x, entry(7), tlb.Entry{Asid: 7, Va: virt.Base(va, 2), Level: 2, Desc: full(2, 0)})
}

// P9.2: more than one entry is a Conflict, for the addresses alone that both match, and nothing is walked.
func TestConflict(t *testing.T) {
	for _, h := range hints() {
		x := ready(t, 4)
		clashed(t, x)
		before := x.Memory().Copy()
		for _, kind := range []int{virt.Load, virt.Store, virt.Fetch, 0} {
			wantResult(t, x.Access(kind, va, 5, h), fault(virt.Conflict, 0))
			wantResult(t, x.Access(kind, va+4088, 5, h), fault(virt.Conflict, 0))
		}
		x.Guess(va, h)
		if len(x.Entries()) != 2 || len(x.Marks()) != 0 || !x.Memory().Same(before) {
			t.Error(x.Entries(), x.Marks())
		}
		wantResult(t, x.Access(virt.Load, va+0x1000, 0, h), told(read(t, before, 0x5000)))
		x.Set(register(8))
		wantResult(t, x.Access(virt.Load, va, 0, Hint{}), told(70))
		x.Set(register(7))
		x.Evict(1)
		wantResult(t, x.Access(virt.Load, va, 0, h), told(70))
	}
}

// P9.2: Fill and Keep remember by themselves, each its own, and only if the hint says so.
func TestFillAndKeep(t *testing.T) {
	for _, h := range hints() {
		for _, guess := range []bool{false, true} {
			x := ready(t, 4)
			if guess {
				x.Guess(va+8, h)
			} else {
				wantResult(t, x.Access(virt.Load, va+8, 0, h), told(71))
			}
			if h.Fill {
				wantEntries(t, x, entry(7))
			} else {
				wantEntries(t, x)
			}
			if h.Keep {
				wantMarks(t, x, marks(7)...)
			} else {
				wantMarks(t, x)
			}
		}
	}
}

// P9.2: a walk that is led begins at the best mark, whatever the tables above say; one that isn't begins at the root.
func TestLed(t *testing.T) {
	for lost := range 4 {
		x := ready(t, 4)
		x.Guess(va, Hint{Keep: true})
		for n := 2; n > 2-lost; n-- {
			x.Lose(n)
		}
		left := 3 - lost
		wantMarks(t, x, marks(7)[:left]...)
		for level, at := range []uint64{at0, at1, at2, at3} {
			old := read(t, x.Memory(), at)
			write(t, x.Memory(), at, 0)
			wantResult(t, x.Access(virt.Load, va, 0, Hint{}), fault(virt.Missing, level))
			if level < left {
				wantResult(t, x.Access(virt.Load, va, 0, Hint{Led: true}), told(70))
			} else {
				wantResult(t, x.Access(virt.Load, va, 0, Hint{Led: true}), fault(virt.Missing, level))
			}
			write(t, x.Memory(), at, old)
		}
		// The ASID is another one: its marks lead nothing here.
		x.Set(register(8))
		write(t, x.Memory(), at0, 0)
		wantResult(t, x.Access(virt.Load, va, 0, Hint{Led: true}), fault(virt.Missing, 0))
	}
}

// P9.2: a walk that is led fills in what it comes to, and leaves the marks from its own level on.
func TestLedRemembers(t *testing.T) {
	for n := range 3 {
		x := ready(t, 8)
		x.Guess(va, Hint{Keep: true})
		for i := 2; i > n; i-- {
			x.Lose(i)
		}
		// The way above goes elsewhere now, to nothing.
		write(t, x.Memory(), at0, table(0x5000))
		x.Guess(va, Hint{Fill: true, Led: true, Keep: true})
		wantEntries(t, x, entry(7))
		wantMarks(t, x, marks(7)...)
		if x.Sound() {
			t.Error("no walk from the root comes to it")
		}
	}
	// Of two marks of one level the one that was made last leads.
	x := ready(t, 8)
	x.Guess(va, Hint{Keep: true})
	write(t, x.Memory(), at2, table(0x6000))
	write(t, x.Memory(), 0x6020, word(t, 3, full(3, 0xa000)))
	write(t, x.Memory(), 0xa000, 80)
	wantResult(t, x.Access(virt.Load, va, 0, Hint{Led: true}), told(70))
	wantResult(t, x.Access(virt.Load, va, 0, Hint{Keep: true}), told(80))
	wantResult(t, x.Access(virt.Load, va, 0, Hint{Led: true}), told(80))
	wantMarks(t, x, append(marks(7), trail.Mark{Asid: 7, Va: virt.Base(va, 2), Level: 3, Table: 0x6000})...)
}

// P9.2: a guess is of any address, aligned or not, and only where no entry matches.
func TestGuess(t *testing.T) {
	for _, offset := range []uint64{0, 1, 4, 7, 9, 0xfff} {
		x := ready(t, 4)
		before := x.Memory().Copy()
		x.Guess(va+offset, Hint{Fill: true})
		wantEntries(t, x, entry(7))
		write(t, x.Memory(), at3, word(t, 3, full(3, 0xa000)))
		x.Guess(va+offset, Hint{Fill: true, Keep: true})
		wantEntries(t, x, entry(7))
		wantMarks(t, x)
		x.FlushAll()
		x.Guess(va+offset, Hint{Keep: true})
		wantEntries(t, x)
		wantMarks(t, x, marks(7)...)
		write(t, x.Memory(), at3, read(t, before, at3))
		if !x.Memory().Same(before) {
			t.Error("a guess writes nothing")
		}
	}
	// What isn't Used is guessed, but not filled in; what ends with a fault neither.
	x := ready(t, 4)
	d := full(3, page)
	d.Used = false
	write(t, x.Memory(), at3, word(t, 3, d))
	x.Guess(va, Hint{Fill: true})
	x.Guess(va+0x1000, Hint{Fill: true})
	wantEntries(t, x)
}
