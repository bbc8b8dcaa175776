package mmu

import (
	"math/rand"
	"slices"
	"testing"

	"portreeve/api"
	"portreeve/desc"
	"portreeve/phys"
	"portreeve/tlb"
	"portreeve/trail"
	"portreeve/virt"
)

// wides are how many bytes entries of the levels 0 to 3 cover.
var wides = []uint64{1 << 39, 1 << 30, 1 << 21, 1 << 12}

// plain is a machine that is gone through plainly: of the layers below it has the memory and what a word says alone.
type plain struct {
	m       *phys.Memory
	most    int
	on      bool
	root    uint64
	asid    int
	entries []tlb.Entry
	marks   []trail.Mark
	planned []Plan
}

// passed is a table that a walk went on in.
type passed struct {
	level int
	table uint64
}

// end is what a walk came to: a leaf, or a fault.
type end struct {
	level int
	d     desc.Desc
	fault virt.Fault
	ways  []passed
}

func (p *plain) walk(level int, table uint64, a uint64) end {
	var w end
	if a >= 1<<48 {
		w.fault = virt.Fault{Kind: virt.Missing}
		return w
	}
	for ; ; level++ {
		word, e := p.m.Read(table + a/wides[level]%512*8)
		d, f := desc.Decode(level, word)
		if e != api.OK || f != api.OK {
			w.fault = virt.Fault{Kind: virt.Reserved, Level: level}
			return w
		}
		switch d.Kind {
		case desc.Invalid:
			w.fault = virt.Fault{Kind: virt.Missing, Level: level}
			return w
		case desc.Table:
			table = d.Out
			w.ways = append(w.ways, passed{level + 1, table})
			continue
		}
		if d.Out+wides[level] > p.m.Size() {
			w.fault = virt.Fault{Kind: virt.Reserved, Level: level}
			return w
		}
		w.level, w.d = level, d
		return w
	}
}

func (p *plain) matches(e tlb.Entry, asid int, a uint64) bool {
	return e.Asid == asid && a >= e.Va && a-e.Va < wides[e.Level]
}

func (p *plain) leads(k trail.Mark, asid int, a uint64) bool {
	return k.Asid == asid && a >= k.Va && a-k.Va < wides[k.Level-1]
}

func (p *plain) matching(a uint64) []tlb.Entry {
	var l []tlb.Entry
	for _, e := range p.entries {
		if p.matches(e, p.asid, a) {
			l = append(l, e)
		}
	}
	return l
}

func (p *plain) walked(a uint64, h Hint) end {
	level, table := 0, p.root
	if h.Led {
		for _, k := range p.marks {
			if p.leads(k, p.asid, a) && k.Level >= level {
				level, table = k.Level, k.Table
			}
		}
	}
	w := p.walk(level, table, a)
	if h.Keep {
		for _, s := range w.ways {
			wide := wides[s.level-1]
			if k := (trail.Mark{Asid: p.asid, Va: a / wide * wide, Level: s.level, Table: s.table}); !slices.Contains(p.marks, k) {
				p.marks = append(p.marks, k)
				p.marks = p.marks[max(0, len(p.marks)-p.most):]
			}
		}
	}
	if h.Fill && w.fault == (virt.Fault{}) && w.d.Used {
		wide := wides[w.level]
		p.entries = append(p.entries, tlb.Entry{Asid: p.asid, Va: a / wide * wide, Level: w.level, Desc: w.d})
		p.entries = p.entries[max(0, len(p.entries)-p.most):]
	}
	return w
}

func (p *plain) access(kind int, a uint64, word uint64, h Hint) Result {
	if a%8 != 0 {
		return fault(virt.Unaligned, 0)
	}
	if !p.on {
		return fault(virt.Missing, 0)
	}
	var w end
	switch l := p.matching(a); len(l) {
	case 0:
		w = p.walked(a, h)
	case 1:
		w = end{level: l[0].Level, d: l[0].Desc}
	default:
		return fault(virt.Conflict, 0)
	}
	switch {
	case w.fault != virt.Fault{}:
		return Result{Fault: w.fault}
	case !w.d.Used:
		return fault(virt.Unused, w.level)
	case !w.d.User, kind == virt.Store && !w.d.Write, kind == virt.Fetch && !w.d.Exec:
		return fault(virt.Refused, w.level)
	}
	at := w.d.Out + a%wides[w.level]
	if kind == virt.Store {
		p.m.Write(at, word)
		return Result{}
	}
	got, _ := p.m.Read(at)
	return told(got)
}

func (p *plain) guess(a uint64, h Hint) {
	if p.on && len(p.matching(a)) == 0 {
		p.walked(a, h)
	}
}

func (p *plain) write(at, word uint64) api.Errno {
	e := p.m.Write(at, word)
	for _, l := range p.planned {
		if e == api.OK {
			p.guess(l.Va, l.Hint)
		}
	}
	return e
}

func (p *plain) flush(entry func(tlb.Entry) bool, mark func(trail.Mark) bool) {
	p.entries = slices.DeleteFunc(slices.Clone(p.entries), entry)
	p.marks = slices.DeleteFunc(slices.Clone(p.marks), mark)
}

func (p *plain) sound() bool {
	for _, e := range p.entries {
		w := p.walk(0, p.root, e.Va)
		if p.on && e.Asid == p.asid && (w.fault != virt.Fault{} || w.level != e.Level || w.d != e.Desc) {
			return false
		}
	}
	for _, k := range p.marks {
		if p.on && k.Asid == p.asid && !slices.Contains(p.walk(0, p.root, k.Va).ways, passed{k.Level, k.Table}) {
			return false
		}
	}
	return true
}

// Of few tables, indexes and pages, so that much meets: a table each for the levels 0 to 2, and two for the level 3.
const (
	firstTable = 0x1000
	tables     = 5
	smallSize  = 1<<30 + 1<<21
)

func tableAt(n int) uint64 { return firstTable + uint64(n)<<12 }

func someIndex(r *rand.Rand) uint64 { return []uint64{0, 0, 0, 1, 1, 511}[r.Intn(6)] }

// someVa is an address by those indexes, now and then one that isn't low, or aligned.
func someVa(r *rand.Rand) uint64 {
	a := uint64(r.Intn(3)) * 8
	for level, wide := range wides {
		// Few ways part already at the upper levels.
		if level > 1 || r.Intn(4) == 0 {
			a += someIndex(r) * wide
		}
	}
	switch r.Intn(40) {
	case 0:
		a |= 1 << (48 + r.Intn(16))
	case 1:
		a |= 1 << r.Intn(3)
	}
	return a
}

// someWord is one for the n-th table: most are Tables and leaves of its level, some of another one, some no descriptors.
func someWord(r *rand.Rand, n int) uint64 {
	level := min(n, 3)
	switch r.Intn(60) {
	case 0, 1, 2, 3:
		return 0
	case 4:
		return r.Uint64()
	case 5:
		return table(smallSize)
	case 6:
		return table(tableAt(r.Intn(tables)))
	case 7:
		level = r.Intn(4)
	}
	if level == 0 || level < 3 && r.Intn(4) >= level {
		return table(tableAt(level + 1 + level/2*r.Intn(2)))
	}
	return someLeaf(r, level)
}

// someLeaf is a leaf's word, with Out in the memory, or at its end, or behind it.
func someLeaf(r *rand.Rand, level int) uint64 {
	out := []uint64{0, 0, 0, 0, 0, 0, 1 << 30, 2 << 30}[r.Intn(8)]
	if level == 3 {
		// Few pages lie over the tables, so that stores now and then turn the way.
		out += uint64(r.Intn(20)) << 12
	}
	d := full(level, out)
	d.Write, d.Exec, d.User, d.Used = r.Intn(2) == 0, r.Intn(2) == 0, r.Intn(5) != 0, r.Intn(8) != 0
	w, _ := desc.Encode(level, d)
	return w
}

func someHint(r *rand.Rand) Hint {
	return Hint{Fill: r.Intn(2) == 0, Led: r.Intn(2) == 0, Keep: r.Intn(2) == 0}
}

// P9.2 to P9.5: whatever is done in whatever order, a machine answers and remembers as one that is gone through plainly.
func TestAgainstPlain(t *testing.T) {
	r := rand.New(rand.NewSource(9))
	seen := map[int]int{}
	for range 300 {
		x, p := twins(t, r)
		agree(t, x, p)
		change(t, r, x, p)
		for range 200 {
			do(t, r, x, p, seen)
			agree(t, x, p)
		}
	}
	// The test is of worth only if it came by each kind of fault.
	for kind := virt.NoFault; kind <= virt.Conflict; kind++ {
		if seen[kind] < 20 {
			t.Error("hardly seen", kind, seen)
		}
	}
}

// twins are two machines whose memories are alike.
func twins(t *testing.T, r *rand.Rand) (*Mmu, *plain) {
	t.Helper()
	m, e := phys.New(smallSize)
	if e != api.OK {
		t.Fatal(e)
	}
	for n := range tables {
		for _, i := range []uint64{0, 1, 511} {
			write(t, m, tableAt(n)+i*8, someWord(r, n))
		}
	}
	p := &plain{m: m.Copy(), most: 1 + r.Intn(12)}
	x, e := New(m, p.most)
	if e != api.OK {
		t.Fatal(e)
	}
	return x, p
}

// do changes both machines, and holds what they tell against each other.
func do(t *testing.T, r *rand.Rand, x *Mmu, p *plain, seen map[int]int) {
	t.Helper()
	a, h := someVa(r), someHint(r)
	switch r.Intn(16) {
	case 0:
		change(t, r, x, p)
	case 1:
		drop(t, r, x, p)
	case 2:
		flush(r, x, p)
	case 3:
		l := make([]Plan, r.Intn(11))
		for i := range l {
			l[i] = Plan{someVa(r), someHint(r)}
		}
		e := x.Plan(l)
		if (e == api.OK) != (len(l) <= 8) {
			t.Fatal("Plan", len(l), e)
		}
		if e == api.OK {
			p.planned = l
		}
	case 4, 5:
		n := r.Intn(tables)
		at, w := tableAt(n)+someIndex(r)*8, someWord(r, n)
		if r.Intn(20) == 0 {
			at ^= 1 << r.Intn(64)
		}
		if got, want := x.Write(at, w), p.write(at, w); got != want {
			t.Fatal("Write", at, w, got, want)
		}
	case 6, 7, 8:
		x.Guess(a, h)
		p.guess(a, h)
	case 9:
		many(t, r, x, p)
	default:
		one(t, r, x, p, seen)
	}
}

// one is an access of both, and, where the machine is sound, of a third one that remembers nothing.
func one(t *testing.T, r *rand.Rand, x *Mmu, p *plain, seen map[int]int) {
	t.Helper()
	kind, a, w, h := r.Intn(5), someVa(r), someWord(r, r.Intn(tables)), someHint(r)
	fresh, _ := New(x.Memory().Copy(), 1)
	if word, on := x.Register(); on {
		fresh.Set(word)
	}
	sound := x.Sound()
	got, want := x.Access(kind, a, w, h), p.access(kind, a, w, h)
	if got != want {
		t.Fatal("Access", kind, a, w, h, got, want)
	}
	seen[got.Fault.Kind]++
	if !sound {
		return
	}
	if r := fresh.Access(kind, a, w, Hint{}); r != got || !fresh.Memory().Same(x.Memory()) {
		t.Fatal("a hint is seen", kind, a, w, h, got, r)
	}
}

// many are loads and stores one behind the other.
func many(t *testing.T, r *rand.Rand, x *Mmu, p *plain) {
	t.Helper()
	a, n, h := someVa(r)+uint64(r.Intn(2))*4072, r.Intn(6), someHint(r)
	given := make([]uint64, n)
	var words []uint64
	stored, kind := 0, virt.Load
	if r.Intn(2) == 0 {
		kind = virt.Store
	}
	var f virt.Fault
	for i := range given {
		given[i] = someWord(r, r.Intn(tables))
		got := p.access(kind, a+uint64(8*i), given[i], h)
		if f = got.Fault; f != (virt.Fault{}) {
			break
		}
		words = append(words, got.Word)
		stored++
	}
	if kind == virt.Store {
		if m, g := x.Store(a, given, h); m != stored || g != f {
			t.Fatal("Store", a, given, h, m, g, stored, f)
		}
		return
	}
	if l, g := x.Load(a, n, h); !slices.Equal(l, words) || g != f {
		t.Fatal("Load", a, n, h, l, g, words, f)
	}
}

// change sets the register, or takes it away.
func change(t *testing.T, r *rand.Rand, x *Mmu, p *plain) {
	t.Helper()
	if p.on && r.Intn(12) == 0 {
		x.Off()
		p.on = false
		return
	}
	root, asid := tableAt(0), r.Intn(2)
	if r.Intn(8) == 0 {
		root = tableAt(r.Intn(tables))
	}
	if e := x.Set(uint64(asid)<<48 | root | 1<<r.Intn(12)); e != api.ErrForm {
		t.Fatal("Set", e)
	}
	if e := x.Set(uint64(asid)<<48 | root); e != api.OK {
		t.Fatal("Set", e)
	}
	p.on, p.root, p.asid = true, root, asid
}

// drop takes an entry or a mark away.
func drop(t *testing.T, r *rand.Rand, x *Mmu, p *plain) {
	t.Helper()
	n := r.Intn(14) - 1
	if r.Intn(2) == 0 {
		want := n >= 0 && n < len(p.entries)
		if want {
			p.entries = slices.Concat(p.entries[:n], p.entries[n+1:])
		}
		if x.Evict(n) != want {
			t.Fatal("Evict", n, want)
		}
		return
	}
	want := n >= 0 && n < len(p.marks)
	if want {
		p.marks = slices.Concat(p.marks[:n], p.marks[n+1:])
	}
	if x.Lose(n) != want {
		t.Fatal("Lose", n, want)
	}
}

func flush(r *rand.Rand, x *Mmu, p *plain) {
	asid, a := r.Intn(3), someVa(r)
	switch r.Intn(6) {
	case 0:
		x.FlushAll()
		p.flush(func(tlb.Entry) bool { return true }, func(trail.Mark) bool { return true })
	case 1:
		x.FlushAsid(asid)
		p.flush(func(e tlb.Entry) bool { return e.Asid == asid }, func(k trail.Mark) bool { return k.Asid == asid })
	default:
		x.FlushVa(asid, a)
		p.flush(func(e tlb.Entry) bool { return p.matches(e, asid, a) }, func(k trail.Mark) bool { return p.leads(k, asid, a) })
	}
}

// agree holds all that can be asked without a change against each other.
func agree(t *testing.T, x *Mmu, p *plain) {
	t.Helper()
	wantEntries(t, x, p.entries...)
	wantMarks(t, x, p.marks...)
	if got, want := x.Sound(), p.sound(); got != want {
		t.Fatal("Sound", got, want)
	}
	if w, on := x.Register(); on != p.on || on && w != uint64(p.asid)<<48|p.root || !on && w != 0 {
		t.Fatal("Register", w, on)
	}
	if !x.Memory().Same(p.m) {
		t.Fatal("the memories differ at", x.Memory().Differ(p.m, 4))
	}
}
