package tests

import (
	"math"
	"runtime"
	"slices"
	"strings"
	"testing"

	"loop.example/g00235/impl"
)

// The signatures that the document gives.
var (
	_ func(m impl.Mem, i int) impl.Inode     = impl.ImageInode
	_ func(m impl.Mem, p int) impl.Block     = impl.ImageBlock
	_ func(m impl.Mem, u int) (string, bool) = impl.ImageUnit
)

// slowImageInode asks of each pointer whether one leans on it.
func slowImageInode(m impl.Mem, i int) impl.Inode {
	if i < 1 || i > 8 || i > len(m.Disk.Inodes) {
		return inode(0, 0, 0, 0)
	}
	x := fromInode(m.Disk.Inodes[i-1])
	for k := range x.Ptrs {
		if slices.ContainsFunc(m.Deps, func(d impl.Dep) bool { return d.Kind == 1 && d.Ino == i && d.Ptr == k }) {
			x.Ptrs[k] = 0
		}
	}
	return x
}

// slowImageBlock asks of each slot for the last one that has it.
func slowImageBlock(m impl.Mem, p int) impl.Block {
	if p < 1 || p > 16 || p > len(m.Disk.Blocks) {
		return impl.Block{}
	}
	b := fromBlock(m.Disk.Blocks[p-1])
	for k := range b.Slots {
		for at := len(m.Deps) - 1; at >= 0; at-- {
			d := m.Deps[at]
			if d.Block != p || d.Slot != k {
				continue
			}
			if d.Kind == 2 {
				b.Slots[k] = slot("", 0)
				break
			}
			if d.Kind == 4 && d.After > 0 {
				b.Slots[k] = slot(d.Name, d.Ino)
				break
			}
		}
	}
	return b
}

func slowImageUnit(m impl.Mem, u int) (string, bool) {
	if !slowMemOk(m) || u < 0 || u > 20 {
		return "", false
	}
	d := fromDisk(m.Disk)
	for k := range d.Inodes {
		d.Inodes[k] = slowImageInode(m, k+1)
	}
	for k := range d.Blocks {
		d.Blocks[k] = slowImageBlock(m, k+1)
	}
	if !slowDiskOk(d) {
		return "", false
	}
	return slowUnitText(d, u), true
}

func checkImageInode(t *testing.T, m impl.Mem, i int) {
	t.Helper()
	if got, want := impl.ImageInode(m, i), slowImageInode(m, i); !sameInode(got, want) {
		t.Errorf("ImageInode(%v, %d) = %v, want %v", m, i, got, want)
	}
}

func checkImageBlock(t *testing.T, m impl.Mem, p int) {
	t.Helper()
	if got, want := impl.ImageBlock(m, p), slowImageBlock(m, p); !sameBlock(got, want) {
		t.Errorf("ImageBlock(%v, %d) = %v, want %v", m, p, got, want)
	}
}

func checkImageUnit(t *testing.T, m impl.Mem, u int) {
	t.Helper()
	got, ok := impl.ImageUnit(m, u)
	if want, right := slowImageUnit(m, u); got != want || ok != right {
		t.Errorf("ImageUnit(%v, %d) = %q, %v, want %q, %v", m, u, got, ok, want, right)
	}
}

// checkImages holds all that is written of a memory against the document, and wants it as it was.
func checkImages(t *testing.T, m impl.Mem) {
	t.Helper()
	was := fromMem(m)
	for i := -2; i <= 11; i++ {
		checkImageInode(t, m, i)
	}
	for p := -2; p <= 19; p++ {
		checkImageBlock(t, m, p)
	}
	for u := -2; u <= 23; u++ {
		checkImageUnit(t, m, u)
	}
	if !sameMem(m, was) {
		t.Errorf("a memory was written into: %v, was %v", m, was)
	}
}

// wantNoImage wants no unit to be told.
func wantNoImage(t *testing.T, m impl.Mem) {
	t.Helper()
	for u := -1; u <= 21; u++ {
		if s, ok := impl.ImageUnit(m, u); ok || s != "" {
			t.Errorf("ImageUnit(%v, %d) = %q, %v", m, u, s, ok)
		}
	}
}

func allocOf(ino, ptr, block int) impl.Dep {
	return impl.Dep{Kind: impl.DepAlloc, Ino: ino, Ptr: ptr, Block: block}
}

func addIn(block, slot, ino int) impl.Dep {
	return impl.Dep{Kind: impl.DepAdd, Ino: ino, Block: block, Slot: slot}
}

func remIn(block, slot int, name string, ino, after int) impl.Dep {
	return impl.Dep{Kind: impl.DepRem, Ino: ino, Block: block, Slot: slot, Name: name, After: after}
}

func ofKind(kind int, d impl.Dep) impl.Dep {
	d.Kind = kind
	return d
}

// leaningMem is a memory of a full disk, with these, and the Ids from 1 on.
func leaningMem(deps ...impl.Dep) impl.Mem {
	m := memOfDeps(60, slices.Clone(deps)...)
	for k := range m.Deps {
		m.Deps[k].Id = k + 1
	}
	return m
}

// wantInode wants the inode of a right memory to be written so.
func wantInode(t *testing.T, name string, i int, want impl.Inode, deps ...impl.Dep) {
	t.Helper()
	m := leaningMem(deps...)
	if !impl.MemOk(m) {
		t.Fatalf("%s: not right: %v", name, m)
	}
	if got := impl.ImageInode(m, i); !sameInode(got, want) {
		t.Errorf("%s: ImageInode %d = %v, want %v", name, i, got, want)
	}
	checkImages(t, m)
}

func TestInodesWithoutWhatLeans(t *testing.T) {
	first, second := allocOf(3, 0, 3), allocOf(3, 1, 4)
	whole := inode(1, 200, 3, 4)
	wantInode(t, "nothing", 3, whole)
	wantInode(t, "an alloc of the first pointer", 3, inode(1, 200, 0, 4), first)
	wantInode(t, "an alloc of the second pointer", 3, inode(1, 200, 3, 0), second)
	wantInode(t, "an alloc of each", 3, inode(1, 200, 0, 0), first, second)
	wantInode(t, "an alloc of each, turned round", 3, inode(1, 200, 0, 0), second, first)
	wantInode(t, "two allocs of the first pointer", 3, inode(1, 200, 0, 4), first, first)
	wantInode(t, "two allocs of the second pointer", 3, inode(1, 200, 3, 0), second, second)
	wantInode(t, "one seen", 3, whole, ofKind(impl.DepSeen, first))
	wantInode(t, "both seen", 3, whole, ofKind(impl.DepSeen, first), ofKind(impl.DepSeen, second))
	wantInode(t, "one seen, one alloc", 3, inode(1, 200, 3, 0), ofKind(impl.DepSeen, first), second)
	wantInode(t, "an alloc that is seen, too", 3, inode(1, 200, 0, 4), first, ofKind(impl.DepSeen, first))
	wantInode(t, "seen ahead of an alloc", 3, inode(1, 200, 0, 4), ofKind(impl.DepSeen, first), first)
	wantInode(t, "a free one", 3, whole, ofKind(impl.DepFree, first))
	wantInode(t, "allocs of others", 3, whole, allocOf(2, 0, 16), allocOf(2, 1, 8), allocOf(7, 1, 16), allocOf(8, 0, 5))
	wantInode(t, "an alloc of an inode of the same unit", 7, inode(1, 1, 16, 16), allocOf(8, 0, 5), allocOf(8, 1, 5))
	wantInode(t, "an alloc that has its flags", 3, inode(1, 200, 0, 4), impl.Dep{Kind: impl.DepAlloc, Ino: 3, Block: 3, Bits: true, Other: true})
	wantInode(t, "one pointer of two alike", 7, inode(1, 1, 16, 0), allocOf(7, 1, 16))
	wantInode(t, "the block of another inode, too", 6, inode(2, 0, 0, 16), allocOf(7, 0, 16), allocOf(2, 0, 16))
	wantInode(t, "the root", 1, inode(2, 1, 0, 0), allocOf(1, 0, 1))
	wantInode(t, "the last inode", 8, inode(2, 200, 5, 0), allocOf(8, 1, 5))
	wantInode(t, "names of it", 3, whole, addIn(1, 1, 3), remIn(2, 0, "c", 3, 1), ofKind(impl.DepShown, addIn(1, 1, 3)))
}

// The numbers of inodes that there are, and those beside them.
func TestInodesThatAreNone(t *testing.T) {
	none := inode(0, 0, 0, 0)
	for _, m := range []impl.Mem{leanMem(), impl.MemNew(fullDisk()), impl.MemNew(usedDisk())} {
		for _, i := range append(oddNumbers(), -8, -1, 0, 9, 10, 16, 17, 257, 1<<32+1) {
			if i >= 1 && i <= 8 {
				continue
			}
			if got := impl.ImageInode(m, i); !sameInode(got, none) {
				t.Errorf("ImageInode %d = %v", i, got)
			}
		}
	}
	m := impl.MemNew(fullDisk())
	for i := 1; i <= 8; i++ {
		if got := impl.ImageInode(m, i); !sameInode(got, fullDisk().Inodes[i-1]) {
			t.Errorf("ImageInode %d = %v where nothing leans", i, got)
		}
	}
	if got := impl.ImageInode(impl.Mem{}, 1); !sameInode(got, none) {
		t.Errorf("ImageInode of nothing = %v", got)
	}
}

// wantBlock wants the block of a right memory to be written so.
func wantBlock(t *testing.T, name string, p int, want impl.Block, deps ...impl.Dep) {
	t.Helper()
	m := leaningMem(deps...)
	if !impl.MemOk(m) {
		t.Fatalf("%s: not right: %v", name, m)
	}
	if got := impl.ImageBlock(m, p); !sameBlock(got, want) {
		t.Errorf("%s: ImageBlock %d = %v, want %v", name, p, got, want)
	}
	checkImages(t, m)
}

func TestBlocksWithoutWhatLeans(t *testing.T) {
	add, rem := addIn(1, 1, 3), remIn(1, 2, "c", 4, 1)
	whole := filled(slot("a", 2), slot("b", 3))
	wantBlock(t, "nothing", 1, whole)
	wantBlock(t, "an add", 1, filled(slot("a", 2)), add)
	wantBlock(t, "an add of the first slot", 1, filled(slot("", 0), slot("b", 3)), addIn(1, 0, 2))
	wantBlock(t, "an add of each", 1, filled(), addIn(1, 0, 2), add)
	wantBlock(t, "an add that has its flags", 1, filled(slot("a", 2)), impl.Dep{Kind: impl.DepAdd, Ino: 3, Block: 1, Slot: 1, Bits: true, Other: true})
	wantBlock(t, "an add with an After", 1, filled(slot("a", 2)), impl.Dep{Kind: impl.DepAdd, Ino: 3, Block: 1, Slot: 1, Name: "b", After: 2})
	wantBlock(t, "a shown one", 1, whole, ofKind(impl.DepShown, add))
	wantBlock(t, "a shown one with an After", 1, whole, impl.Dep{Kind: impl.DepShown, Ino: 3, Block: 1, Slot: 1, Name: "x", After: 2})
	wantBlock(t, "a rem after nothing", 1, whole, remIn(1, 2, "c", 4, 0))
	wantBlock(t, "a rem after nothing where a name is", 1, whole, remIn(1, 0, "c", 4, 0))
	wantBlock(t, "a rem after another", 1, filled(slot("a", 2), slot("b", 3), slot("c", 4)), rem)
	wantBlock(t, "a rem after the last Id", 1, filled(slot("a", 2), slot("b", 3), slot("c", 4)), remIn(1, 2, "c", 4, 59))
	wantBlock(t, "a rem in the last slot", 1, filled(slot("a", 2), slot("b", 3), slot("", 0), slot("zzzzzz", 8)), remIn(1, 3, "zzzzzz", 8, 5))
	wantBlock(t, "a rem where a name is", 1, filled(slot("c", 4), slot("b", 3)), remIn(1, 0, "c", 4, 1))
	wantBlock(t, "a rem of the name that is there", 1, filled(slot("a", 7), slot("b", 3)), remIn(1, 0, "a", 7, 1))
	wantBlock(t, "an add and a rem", 1, filled(slot("a", 2), slot("", 0), slot("c", 4)), add, rem)
	wantBlock(t, "a name from one slot to another", 1, filled(slot("a", 2), slot("", 0), slot("b", 3)), add, remIn(1, 2, "b", 3, 1))
	wantBlock(t, "names that change their slots", 1, filled(slot("b", 2), slot("a", 3)), remIn(1, 0, "b", 2, 9), remIn(1, 1, "a", 3, 9))
	wantBlock(t, "those of other blocks", 1, whole, addIn(8, 1, 8), addIn(16, 3, 5), remIn(2, 1, "c", 4, 1), remIn(16, 0, "d", 4, 1))
	wantBlock(t, "an alloc of it", 1, whole, allocOf(1, 0, 1))
	wantBlock(t, "one seen of it", 1, whole, ofKind(impl.DepSeen, allocOf(1, 0, 1)))
	wantBlock(t, "a free one of it", 1, whole, impl.Dep{Kind: impl.DepFree, Ino: 3, Block: 1, Slot: 1, Name: "x", After: 1, Blocks: []int{1}})
	wantBlock(t, "the last block", 16, filled(), addIn(16, 3, 5))
	wantBlock(t, "a block without names", 2, filled(slot("", 0), slot("old", 1)), remIn(2, 1, "old", 1, 4))
}

// Of those that lean in one slot the last one counts, whatever their Ids.
func TestSlotsThatTwoLeanIn(t *testing.T) {
	add, rem, late := addIn(1, 1, 3), remIn(1, 1, "c", 4, 1), remIn(1, 1, "d", 5, 2)
	gone, shown, with := filled(slot("a", 2)), ofKind(impl.DepShown, add), filled(slot("a", 2), slot("c", 4))
	withLate, whole := filled(slot("a", 2), slot("d", 5)), filled(slot("a", 2), slot("b", 3))
	nothing := remIn(1, 1, "e", 6, 0)
	for _, c := range []struct {
		name string
		want impl.Block
		deps []impl.Dep
	}{
		{"an add, then a rem", with, []impl.Dep{add, rem}},
		{"a rem, then an add", gone, []impl.Dep{rem, add}},
		{"two adds", gone, []impl.Dep{add, add}},
		{"two rems", withLate, []impl.Dep{rem, late}},
		{"two rems, turned round", with, []impl.Dep{late, rem}},
		{"an add and two rems", withLate, []impl.Dep{add, rem, late}},
		{"a rem, an add, a rem", withLate, []impl.Dep{rem, add, late}},
		{"two rems, then an add", gone, []impl.Dep{rem, late, add}},
		{"an add, a rem, an add", gone, []impl.Dep{add, rem, add}},
		{"an add, then a rem after nothing", gone, []impl.Dep{add, nothing}},
		{"a rem after nothing, then an add", gone, []impl.Dep{nothing, add}},
		{"a rem, then one after nothing", with, []impl.Dep{rem, nothing}},
		{"a rem after nothing, then another", with, []impl.Dep{nothing, rem}},
		{"an add, then a shown one", gone, []impl.Dep{add, shown}},
		{"a shown one, then an add", gone, []impl.Dep{shown, add}},
		{"a rem, then a shown one", with, []impl.Dep{rem, shown}},
		{"a shown one, then a rem", with, []impl.Dep{shown, rem}},
		{"two shown ones", whole, []impl.Dep{shown, shown}},
		{"two rems after nothing", whole, []impl.Dep{nothing, nothing}},
	} {
		wantBlock(t, c.name, 1, c.want, c.deps...)
		m := leaningMem(c.deps...)
		for k := range m.Deps {
			m.Deps[k].Id = 50 - k
		}
		if got := impl.ImageBlock(m, 1); !sameBlock(got, c.want) {
			t.Errorf("%s, with Ids turned round: ImageBlock = %v, want %v", c.name, got, c.want)
		}
		between := slices.Insert(slices.Clone(c.deps), 1, addIn(8, 1, 8), remIn(2, 1, "x", 1, 3), addIn(1, 0, 2))
		want := fromBlock(c.want)
		want.Slots[0] = slot("", 0)
		wantBlock(t, c.name+", with others between", 1, want, between...)
	}
}

// Three in each order and of each kind in one slot and the next.
func TestSlotsThatThreeLeanIn(t *testing.T) {
	some := []impl.Dep{
		addIn(1, 0, 2), addIn(1, 1, 3), ofKind(impl.DepShown, addIn(1, 1, 3)),
		remIn(1, 0, "c", 4, 0), remIn(1, 0, "d", 5, 1), remIn(1, 1, "e", 6, 1), remIn(1, 1, "a", 2, 7), remIn(1, 2, "b", 3, 59),
	}
	for n := range len(some) * len(some) * len(some) {
		checkImages(t, leaningMem(some[n%8], some[n/8%8], some[n/64]))
	}
}

// A block that is none, one that is free, and those of files have no slots that something leans in.
func TestBlocksThatAreNone(t *testing.T) {
	for _, m := range []impl.Mem{leanMem(), impl.MemNew(fullDisk()), impl.MemNew(usedDisk())} {
		for _, p := range append(oddNumbers(), -16, -1, 0, 17, 18, 21, 257, 1<<32+1) {
			if p >= 1 && p <= 16 {
				continue
			}
			if got := impl.ImageBlock(m, p); !sameBlock(got, impl.Block{}) {
				t.Errorf("ImageBlock %d = %v", p, got)
			}
		}
	}
	for _, bits := range [][]bool{flags(16), allFlags(16)} {
		m := impl.MemNew(fullDisk())
		m.Disk.Bits.Blocks = bits
		for p := 1; p <= 16; p++ {
			if got := impl.ImageBlock(m, p); !sameBlock(got, fullDisk().Blocks[p-1]) {
				t.Errorf("ImageBlock %d = %v where nothing leans", p, got)
			}
		}
	}
	if got := impl.ImageBlock(impl.Mem{}, 1); !sameBlock(got, impl.Block{}) {
		t.Errorf("ImageBlock of nothing = %v", got)
	}
	m := leaningMem(addIn(4, 0, 3), remIn(4, 1, "c", 4, 1), remIn(5, 0, "d", 4, 1))
	if got := impl.ImageBlock(m, 4); !sameBlock(got, textBlock("0123456789abcdef")) {
		t.Errorf("ImageBlock of a text in which names lean = %v", got)
	}
	if got := impl.ImageBlock(m, 5); !sameBlock(got, impl.Block{}) {
		t.Errorf("ImageBlock of no text in which a name leans = %v", got)
	}
	wantNoImage(t, m)
}

// What leans at a number that is none leaves all as it is, and tells no unit.
func TestWhatLeansAtNumbersThatAreNone(t *testing.T) {
	for _, n := range append(oddNumbers(), -4, -2, -1, 4, 5, 8, 17) {
		for _, d := range []impl.Dep{addIn(1, n, 3), remIn(1, n, "c", 4, 1), allocOf(3, n, 4), allocOf(1, n, 1)} {
			if n >= 0 && n < 4 {
				continue
			}
			m := leaningMem(d)
			if got := impl.ImageBlock(m, 1); !sameBlock(got, fullDisk().Blocks[0]) {
				t.Errorf("ImageBlock with %v = %v", d, got)
			}
			if got := impl.ImageInode(m, 3); !sameInode(got, fullDisk().Inodes[2]) {
				t.Errorf("ImageInode with %v = %v", d, got)
			}
			checkImages(t, m)
			wantNoImage(t, m)
		}
		for _, d := range []impl.Dep{allocOf(n, 0, 3), addIn(n, 1, 3), remIn(n, 1, "c", 4, 1)} {
			checkImages(t, leaningMem(d))
			checkImageInode(t, leaningMem(d), n)
			checkImageBlock(t, leaningMem(d), n)
			checkImageUnit(t, leaningMem(d), n)
		}
		checkImages(t, leaningMem(remIn(1, 2, "c", n, 1)))
		checkImages(t, leaningMem(remIn(1, 2, "c", 4, n)))
		checkImages(t, leaningMem(ofKind(n, addIn(1, 1, 3))))
		checkImages(t, leaningMem(ofKind(n, allocOf(3, 1, 4))))
	}
}

// Each number of each that leans over its limits and what stands beside them.
func TestImagesByNumbers(t *testing.T) {
	m := leanMem()
	for k := range m.Deps {
		was := m.Deps[k]
		for at := range depFields(&was) {
			for _, n := range append(oddNumbers(), -1, 0, 1, 2, 3, 4, 5, 6, 7, 8, 9, 16, 17) {
				m.Deps[k] = was
				*depFields(&m.Deps[k])[at] = n
				checkImages(t, m)
			}
		}
		m.Deps[k] = was
	}
}

func TestUnitsWithoutWhatLeans(t *testing.T) {
	m := impl.MemNew(fullDisk())
	for u := range 21 {
		want, _ := impl.UnitText(m.Disk, u)
		if s, ok := impl.ImageUnit(m, u); !ok || s != want {
			t.Errorf("ImageUnit %d = %q, %v where nothing leans, want %q", u, s, ok, want)
		}
	}
	m = leanMem()
	other := map[int]string{
		2: "\x01\xc8\x03\x00\x01\x00\x00\x00",
		5: "d\x02\x01a\x00\x00\x00\x00\x00\x00",
		6: "d\x00\x00\x00\x00\x08\x04gone\x00\x00",
	}
	for u := range 21 {
		want, _ := impl.UnitText(m.Disk, u)
		if s, ok := other[u]; ok {
			want = s
		}
		if s, ok := impl.ImageUnit(m, u); !ok || s != want {
			t.Errorf("ImageUnit %d = %q, %v where each kind leans, want %q", u, s, ok, want)
		}
	}
	checkImages(t, m)
}

func TestUnitsThatAreNone(t *testing.T) {
	for _, m := range []impl.Mem{leanMem(), impl.MemNew(fullDisk()), impl.MemNew(impl.DiskNew())} {
		for _, u := range append(oddNumbers(), -21, -1, 21, 22, 42, 256, 1<<32) {
			if u >= 0 && u <= 20 {
				continue
			}
			if s, ok := impl.ImageUnit(m, u); ok || s != "" {
				t.Errorf("ImageUnit %d = %q, %v", u, s, ok)
			}
		}
	}
}

func TestImagesAsTold(t *testing.T) {
	for _, m := range sampleMems() {
		checkImages(t, m)
	}
	for _, d := range rightDisks() {
		checkImages(t, impl.MemNew(d))
	}
}

// Of a memory that is not right inodes and blocks are told as they are there; no unit is.
func TestImagesOfMemoriesThatAreNotRight(t *testing.T) {
	for _, c := range wrongMemChanges() {
		wantNoImage(t, changedMem(leanMem(), c))
	}
	for _, d := range wrongDisks() {
		m := leanMem()
		m.Disk = d
		checkImages(t, m)
		wantNoImage(t, m)
	}
	wantNoImage(t, impl.Mem{})
	m := leaningMem(allocOf(9, 0, 3), allocOf(8, 2, 7), addIn(17, 0, 2), addIn(16, 4, 2), addIn(3, 0, 2), remIn(3, 1, "NO NAME", -3, 1))
	m.Disk.Inodes = append(m.Disk.Inodes, inode(1, 1, 3, 4))
	m.Disk.Inodes[7] = inode(9, -1, 5, 6, 7, 8)
	m.Disk.Blocks = append(m.Disk.Blocks, filled(slot("a", 2)))
	m.Disk.Blocks[15] = dirBlock(slot("a", 1), slot("a", 1), slot("a", 1), slot("a", 1), slot("a", 2), slot("a", 3))
	m.Disk.Blocks[2] = impl.Block{Slots: []impl.Slot{slot("x", 2), slot("", 7)}, Text: strings.Repeat("long", 100)}
	if got := impl.ImageInode(m, 9); !sameInode(got, inode(0, 0, 0, 0)) {
		t.Errorf("ImageInode of a ninth inode = %v", got)
	}
	if got := impl.ImageInode(m, 8); !sameInode(got, inode(9, -1, 5, 6, 0, 8)) {
		t.Errorf("ImageInode of one with four pointers = %v", got)
	}
	if got := impl.ImageBlock(m, 17); !sameBlock(got, impl.Block{}) {
		t.Errorf("ImageBlock of a 17th block = %v", got)
	}
	if got, want := impl.ImageBlock(m, 16), dirBlock(slot("a", 1), slot("a", 1), slot("a", 1), slot("a", 1), slot("", 0), slot("a", 3)); !sameBlock(got, want) {
		t.Errorf("ImageBlock of one with six slots = %v, want %v", got, want)
	}
	if got, want := impl.ImageBlock(m, 3), (impl.Block{Slots: []impl.Slot{slot("", 0), slot("NO NAME", -3)}, Text: strings.Repeat("long", 100)}); !sameBlock(got, want) {
		t.Errorf("ImageBlock of a text with slots = %v, want %v", got, want)
	}
	checkImages(t, m)
	wantNoImage(t, m)
	short := leanMem()
	short.Disk.Inodes, short.Disk.Blocks = short.Disk.Inodes[:3], short.Disk.Blocks[:1]
	checkImages(t, short)
	wantNoImage(t, short)
}

// A pointer is left out by its inode and place: of a memory that is not right its block is not asked for.
func TestPointersToOtherBlocks(t *testing.T) {
	for _, block := range append(oddNumbers(), -1, 0, 1, 3, 17) {
		m := leaningMem(allocOf(3, 1, block))
		if got := impl.ImageInode(m, 3); !sameInode(got, inode(1, 200, 3, 0)) {
			t.Errorf("ImageInode with an alloc to %d = %v", block, got)
		}
	}
}

// A right memory whose image has one name twice in a block: no unit is told, not even of another block.
func TestUnitsOfDisksWithoutText(t *testing.T) {
	twice := [][]impl.Dep{
		{remIn(1, 2, "a", 2, 1)},
		{remIn(1, 3, "b", 4, 59)},
		{remIn(1, 1, "a", 2, 1)},
		{addIn(1, 1, 3), remIn(1, 2, "a", 2, 1)},
		{remIn(1, 2, "c", 2, 1), remIn(1, 3, "c", 2, 1)},
		{remIn(2, 0, "c", 2, 1), remIn(2, 3, "c", 5, 2)},
		{addIn(1, 0, 2), remIn(1, 2, "a", 2, 1), remIn(1, 3, "a", 2, 1)},
		{addIn(16, 3, 5), remIn(16, 3, "last", 5, 1), remIn(16, 0, "last", 5, 1)},
		{remIn(1, 2, "a", 2, 1), addIn(1, 0, 2), remIn(1, 0, "a", 2, 2)},
	}
	for _, deps := range twice {
		m := leaningMem(deps...)
		if !impl.MemOk(m) {
			t.Errorf("not right: %v", m)
		}
		wantNoImage(t, m)
		checkImages(t, m)
	}
	once := [][]impl.Dep{
		{remIn(1, 2, "a", 2, 0)},
		{addIn(1, 0, 2), remIn(1, 2, "a", 2, 1)},
		{remIn(1, 2, "a", 2, 1), addIn(1, 0, 2)},
		{remIn(1, 2, "a", 2, 1), remIn(1, 0, "z", 2, 1)},
		{remIn(1, 2, "a", 2, 1), remIn(1, 2, "c", 2, 1)},
		{remIn(1, 2, "c", 2, 1), remIn(2, 2, "c", 2, 1)},
	}
	for _, deps := range once {
		m := leaningMem(deps...)
		for u := range 21 {
			if s, ok := impl.ImageUnit(m, u); !ok || s == "" {
				t.Errorf("ImageUnit(%v, %d) = %q, %v", m, u, s, ok)
			}
		}
		checkImages(t, m)
	}
}

// What is written neither asks what is dirty, nor the flags, nor Next.
func TestImagesOfWhatIsDirty(t *testing.T) {
	m := leanMem()
	for _, dirty := range [][]bool{flags(21), allFlags(21), flags(21, 2), flags(21, 5, 6)} {
		for _, next := range []int{8, 9, 99999, 100000} {
			m.Dirty, m.Next = dirty, next
			for k := range m.Deps {
				m.Deps[k].Bits, m.Deps[k].Other = next%2 == 0, k%2 == 0
			}
			for u := range 21 {
				want, _ := impl.ImageUnit(leanMem(), u)
				if s, ok := impl.ImageUnit(m, u); !ok || s != want {
					t.Errorf("ImageUnit %d = %q, %v, want %q", u, s, ok, want)
				}
			}
		}
	}
}

// drawnMem is a memory with up to 40 that lean, most often a right one.
func drawnMem(draw func(n int) int) impl.Mem {
	var deps []impl.Dep
	for range draw(41) {
		d := leanDeps()[draw(6)]
		switch draw(5) {
		case 0:
			d = addIn(8, draw(4), 1+7*draw(2))
		case 1:
			d = remIn(1+draw(2), draw(4), []string{"c", "d", "e", "f", "gh"}[draw(5)], 1+draw(8), draw(3))
		case 2:
			d = []impl.Dep{allocOf(2, 0, 16), allocOf(2, 1, 8), allocOf(8, draw(2), 5), allocOf(7, draw(2), 16)}[draw(4)]
		}
		deps = append(deps, d)
	}
	return leaningMem(deps...)
}

func TestDrawnImages(t *testing.T) {
	state := uint32(9)
	draw := func(n int) int {
		state = state*1664525 + 1013904223
		return int(state>>16) % n
	}
	told := 0
	for range 2000 {
		m := drawnMem(draw)
		checkImages(t, m)
		if _, ok := impl.ImageUnit(m, 0); ok {
			told++
		}
	}
	if told < 200 || told > 1800 {
		t.Errorf("of 2000 memories %d tell their units", told)
	}
}

// What is told and read back is the memory's disk but for what leans; when all that leans is dropped it is that disk.
func TestDisksOfImages(t *testing.T) {
	m := leanMem()
	v := device(make([]string, 21)...)
	for u := range 21 {
		v.Units[u], _ = impl.ImageUnit(m, u)
	}
	d, ok := impl.DiskOf(v)
	want := fullDisk()
	want.Inodes[2].Ptrs[1] = 0
	want.Blocks[0].Slots[1] = slot("", 0)
	want.Blocks[1].Slots[2] = slot("gone", 8)
	if !ok || !slowSameDisk(d, want) {
		t.Errorf("what is written tells %v, want %v", d, want)
	}
	for _, dep := range leanDeps() {
		m = impl.DropDep(m, dep.Id)
	}
	for u := range 21 {
		v.Units[u], _ = impl.ImageUnit(m, u)
	}
	if d, ok := impl.DiskOf(v); !ok || !slowSameDisk(d, fullDisk()) {
		t.Errorf("what is written when nothing leans any more tells %v", d)
	}
}

func imageRooms(x impl.Inode, b impl.Block) (lists []room, names []room) {
	d := impl.Disk{Inodes: []impl.Inode{x}, Blocks: []impl.Block{b}}
	return []room{listRoom(x.Ptrs), listRoom(b.Slots)}, diskTexts(d)
}

func TestImagesAreNewMemory(t *testing.T) {
	wrong := changedMem(leanMem(), memChange{"", func(m *impl.Mem) { m.Dirty = nil }})
	// A name that the program's own text does not have: made anew, it can't be a constant.
	named := leanMem()
	named.Deps[atRem].Name = strings.Repeat("n", 5)
	for _, m := range []impl.Mem{leanMem(), named, impl.MemNew(usedDisk()), sharingMem(), wrong, {}} {
		lists, names := memLists(m), memTexts(m)
		for n := -1; n <= 18; n++ {
			one, other := impl.ImageInode(m, n), impl.ImageInode(m, n)
			block, another := impl.ImageBlock(m, n), impl.ImageBlock(m, n)
			ownLists, ownNames := imageRooms(one, block)
			otherLists, otherNames := imageRooms(other, another)
			if anyMeets(ownLists, lists) || anyMeets(ownLists, otherLists) {
				t.Errorf("lists of inode or block %d share memory with another", n)
			}
			if anyMeets(ownNames, names) || anyMeets(ownNames, otherNames) {
				t.Errorf("texts of block %d share memory with another", n)
			}
			runtime.KeepAlive(other)
			runtime.KeepAlive(another)
		}
		for u := range 21 {
			if s, _ := impl.ImageUnit(m, u); anyMeets([]room{textRoom(s)}, names) {
				t.Errorf("the text of unit %d shares that of the memory", u)
			}
		}
	}
}

// Whoever writes into an answer changes neither what was handed in nor the next answer; and the other way round.
func TestImagesThatAreSpoilt(t *testing.T) {
	for n := -1; n <= 18; n++ {
		m := leanMem()
		x, b := impl.ImageInode(m, n), impl.ImageBlock(m, n)
		wantX, wantB := fromInode(x), fromBlock(b)
		spoilNumbers(x.Ptrs)
		spoilBlock(b)
		if !sameMem(m, leanMem()) {
			t.Errorf("what is told of %d leads back to what was handed in", n)
		}
		x, b = impl.ImageInode(m, n), impl.ImageBlock(m, n)
		if !sameInode(x, wantX) || !sameBlock(b, wantB) {
			t.Errorf("%v and %v are told of %d behind spoilt answers, want %v and %v", x, b, n, wantX, wantB)
		}
		spoilMem(m)
		if !sameInode(x, wantX) || !sameBlock(b, wantB) {
			t.Errorf("what was told of %d changes with what was handed in", n)
		}
	}
}

// What stands in spare room behind the lists of a memory stays as it is, also where something leans there.
func TestRoomBehindImagesIsNotWrittenInto(t *testing.T) {
	m := leanMem()
	m.Deps = append(m.Deps, allocOf(3, 2, 4), addIn(1, 4, 3), remIn(2, 4, "c", 4, 1), allocOf(9, 0, 5), addIn(17, 0, 1))
	ptrs, slots := append(m.Disk.Inodes[2].Ptrs, 77), append(m.Disk.Blocks[0].Slots, slot("behind", 77))
	more := append(m.Disk.Blocks[1].Slots, slot("behind", 78))
	m.Disk.Inodes[2].Ptrs, m.Disk.Blocks[0].Slots, m.Disk.Blocks[1].Slots = ptrs[:2], slots[:4], more[:4]
	inodes, blocks := append(m.Disk.Inodes, inode(1, 1, 5, 5)), append(m.Disk.Blocks, filled(slot("behind", 1)))
	m.Disk.Inodes, m.Disk.Blocks = inodes[:8], blocks[:16]
	for n := -1; n <= 21; n++ {
		impl.ImageInode(m, n)
		impl.ImageBlock(m, n)
		impl.ImageUnit(m, n)
	}
	right := m
	right.Deps = m.Deps[:6]
	for u := range 21 {
		if _, ok := impl.ImageUnit(right, u); !ok {
			t.Errorf("ImageUnit %d is false", u)
		}
	}
	if !sameMem(right, leanMem()) {
		t.Errorf("a memory was written into: %v", right)
	}
	if ptrs[2] != 77 || slots[4] != slot("behind", 77) || more[4] != slot("behind", 78) {
		t.Error("spare room behind an inode or a block was written into")
	}
	if !sameInode(inodes[8], inode(1, 1, 5, 5)) || !sameBlock(blocks[16], filled(slot("behind", 1))) {
		t.Error("spare room behind a disk was written into")
	}
}

// After is asked for above 0 alone: of a memory that is not right it may lie below.
func TestNamesByAfter(t *testing.T) {
	for _, after := range []int{math.MinInt, -59, -1, 0, 1, 2, 59, 60, 100000, math.MaxInt} {
		want := filled(slot("a", 2), slot("b", 3))
		if after > 0 {
			want.Slots[3] = slot("c", 4)
		}
		m := leaningMem(remIn(1, 3, "c", 4, after))
		if got := impl.ImageBlock(m, 1); !sameBlock(got, want) {
			t.Errorf("ImageBlock with a rem after %d = %v, want %v", after, got, want)
		}
		checkImages(t, m)
	}
}

// An inode of other than two pointers, a block of other than four slots: what leans there leans where there is one.
func TestImagesByLength(t *testing.T) {
	for n := range 10 {
		for at := -1; at <= 10; at++ {
			m := leaningMem(allocOf(3, at, 4), addIn(1, at, 3), remIn(2, at, "c", 4, 1))
			m.Disk.Inodes[2].Ptrs = slices.Repeat([]int{4}, n)
			m.Disk.Blocks[0].Slots = slices.Repeat([]impl.Slot{slot("b", 3)}, n)
			m.Disk.Blocks[1].Slots = slices.Repeat([]impl.Slot{slot("b", 3)}, n)
			checkImages(t, m)
		}
	}
}
