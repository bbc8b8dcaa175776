package tree

import (
	"slices"
	"testing"
)

// P13.1, P13.4, P13.5: lists that are told are new memory, spare room too.
func TestNewMemory(t *testing.T) {
	b := start(t, size, nil)
	b.root(t, 0x20, thread(1))
	for i := range uint64(9) {
		b.child(t, 0x20+i*32, 0x40+i*32, thread(i))
	}
	b.root(t, 0x400, thread(3))
	ats := b.p.list(false)
	asked := func() [][]uint64 {
		var l [][]uint64
		for _, at := range ats {
			l = append(l, b.x.Below(at), b.x.Above(at))
		}
		return append(l, b.x.List(), b.x.Roots())
	}
	one, other := asked(), asked()
	var whole [][]uint64
	for _, l := range other {
		whole = append(whole, slices.Clone(l[:cap(l)]))
	}
	for _, l := range one {
		spare := l[:cap(l)]
		for i := range spare {
			spare[i] = all
		}
	}
	b.check(t, ats...)
	for i, l := range other {
		if !slices.Equal(l[:cap(l)], whole[i]) {
			t.Errorf("%d: %#x, not %#x", i, l[:cap(l)], whole[i])
		}
	}
}
