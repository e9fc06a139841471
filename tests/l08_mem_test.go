package tests

import (
	"math"
	"runtime"
	"slices"
	"strings"
	"testing"

	"loop.example/g00235/impl"
)

// The signatures and the structs that the document gives.
var (
	_ func(impl.Disk) impl.Mem                  = impl.MemNew
	_ func(impl.Mem) bool                       = impl.MemOk
	_ func(impl.Mem) (impl.Mem, int)            = impl.TakeBlock
	_ func(impl.Mem) (impl.Mem, int)            = impl.TakeIno
	_ func(impl.Mem, impl.Dep) (impl.Mem, int)  = impl.PutDep
	_ func(impl.Mem, int) impl.Mem              = impl.DropDep
	_ func(m impl.Mem, block int, slot int) int = impl.DepAt
	_ struct {
		Id, Kind, Ino, Ptr, Block, Slot int
		Name                            string
		Bits, Other                     bool
		After                           int
		Blocks                          []int
	} = impl.Dep{}
	_ struct {
		Disk  impl.Disk
		Dirty []bool
		Deps  []impl.Dep
		Next  int
	} = impl.Mem{}
)

func TestDepConstants(t *testing.T) {
	kinds := []int{impl.DepAlloc, impl.DepAdd, impl.DepShown, impl.DepRem, impl.DepFree, impl.DepSeen}
	if !slices.Equal(kinds, []int{1, 2, 3, 4, 5, 6}) {
		t.Errorf("the kinds of what leans are %v", kinds)
	}
}

func fromDep(d impl.Dep) impl.Dep {
	d.Blocks = slices.Clone(d.Blocks)
	return d
}

// fromMem is a memory of its own that has all that is there.
func fromMem(m impl.Mem) impl.Mem {
	c := impl.Mem{Disk: fromDisk(m.Disk), Dirty: slices.Clone(m.Dirty), Next: m.Next}
	for _, d := range m.Deps {
		c.Deps = append(c.Deps, fromDep(d))
	}
	return c
}

func sameDep(a, b impl.Dep) bool {
	return a.Id == b.Id && a.Kind == b.Kind && a.Ino == b.Ino && a.Ptr == b.Ptr && a.Block == b.Block && a.Slot == b.Slot &&
		a.Name == b.Name && a.Bits == b.Bits && a.Other == b.Other && a.After == b.After && slices.Equal(a.Blocks, b.Blocks)
}

func sameMem(a, b impl.Mem) bool {
	return slowSameDisk(a.Disk, b.Disk) && slices.Equal(a.Dirty, b.Dirty) && slices.EqualFunc(a.Deps, b.Deps, sameDep) && a.Next == b.Next
}

// leanDeps has one of each kind, right on a full disk; their Ids are not in order.
func leanDeps() []impl.Dep {
	return []impl.Dep{
		{Id: 1, Kind: impl.DepAlloc, Ino: 3, Ptr: 1, Block: 4, Bits: true},
		{Id: 2, Kind: impl.DepSeen, Ino: 1, Ptr: 0, Block: 1, Bits: true, Other: true},
		{Id: 5, Kind: impl.DepAdd, Ino: 3, Block: 1, Slot: 1, Other: true},
		{Id: 4, Kind: impl.DepShown, Ino: 5, Block: 16, Slot: 3, Name: "last"},
		{Id: 3, Kind: impl.DepRem, Ino: 8, Block: 2, Slot: 2, Name: "gone", After: 5},
		{Id: 7, Kind: impl.DepFree, Ino: 4, Blocks: []int{1, 16, 16, 9}},
	}
}

// leanMem is a right memory in which each kind leans.
func leanMem() impl.Mem {
	return impl.Mem{Disk: fullDisk(), Dirty: flags(21, 0, 3, 20), Deps: leanDeps(), Next: 9}
}

// freeDeps has n of DepFree, with the Ids from 1 on.
func freeDeps(n int) []impl.Dep {
	var list []impl.Dep
	for k := range n {
		list = append(list, impl.Dep{Id: k + 1, Kind: impl.DepFree, Ino: k%8 + 1, Blocks: []int{k%16 + 1}})
	}
	return list
}

func memOfDeps(next int, deps ...impl.Dep) impl.Mem {
	return impl.Mem{Disk: fullDisk(), Dirty: flags(21), Deps: deps, Next: next}
}

func slowNumbers(m impl.Mem, d impl.Dep) bool {
	for _, p := range d.Blocks {
		if p < 1 || p > 16 {
			return false
		}
	}
	return 1 <= d.Id && d.Id <= m.Next-1 && 1 <= d.Kind && d.Kind <= 6 && 1 <= d.Ino && d.Ino <= 8 && 0 <= d.Ptr && d.Ptr <= 1 &&
		0 <= d.Block && d.Block <= 16 && 0 <= d.Slot && d.Slot <= 3 && 0 <= d.After && d.After <= m.Next-1
}

func slowLeans(m impl.Mem, d impl.Dep) bool {
	if d.Kind == 5 {
		return true
	}
	if d.Block == 0 {
		return false
	}
	if d.Kind == 1 || d.Kind == 6 {
		return m.Disk.Inodes[d.Ino-1].Ptrs[d.Ptr] == d.Block
	}
	b := m.Disk.Blocks[d.Block-1]
	if !b.Dir {
		return false
	}
	if d.Kind == 4 {
		return slowName(d.Name)
	}
	return b.Slots[d.Slot].Name != "" && b.Slots[d.Slot].Ino == d.Ino
}

func slowDiskOk(d impl.Disk) bool {
	if len(d.Bits.Blocks) != 16 || len(d.Bits.Inos) != 8 || len(d.Inodes) != 8 || len(d.Blocks) != 16 {
		return false
	}
	for _, x := range d.Inodes {
		if !rightInode(x) {
			return false
		}
	}
	for _, b := range d.Blocks {
		if !rightBlock(b) {
			return false
		}
	}
	return true
}

func slowMemOk(m impl.Mem) bool {
	if !slowDiskOk(m.Disk) || len(m.Dirty) != 21 || len(m.Deps) > 40 || m.Next > 100000 {
		return false
	}
	for k, d := range m.Deps {
		// Below 1 no Id is less than Next, and Next - 1 might wrap round.
		if m.Next < 1 || !slowNumbers(m, d) || !slowLeans(m, d) {
			return false
		}
		for _, o := range m.Deps[:k] {
			if o.Id == d.Id {
				return false
			}
		}
	}
	return true
}

func slowTake(m impl.Mem, of func(*impl.Disk) []bool) (impl.Mem, int) {
	c := fromMem(m)
	list := of(&c.Disk)
	for k := range list {
		if list[k] {
			continue
		}
		list[k] = true
		if len(c.Dirty) > 0 {
			c.Dirty[0] = true
		}
		return c, k + 1
	}
	return c, 0
}

func blockBits(d *impl.Disk) []bool { return d.Bits.Blocks }

func inoBits(d *impl.Disk) []bool { return d.Bits.Inos }

func slowPut(m impl.Mem, d impl.Dep) (impl.Mem, int) {
	c, d := fromMem(m), fromDep(d)
	if len(m.Deps) >= 40 || m.Next < 1 || m.Next > 99999 {
		return c, 0
	}
	d.Id = m.Next
	c.Deps = append(c.Deps, d)
	c.Next = m.Next + 1
	return c, d.Id
}

func slowDrop(m impl.Mem, id int) impl.Mem {
	c := fromMem(m)
	c.Deps = slices.DeleteFunc(c.Deps, func(d impl.Dep) bool { return d.Id == id })
	return c
}

func slowDepAt(m impl.Mem, block, slot int) int {
	for _, d := range m.Deps {
		if (d.Kind == 2 || d.Kind == 3 || d.Kind == 4) && d.Block == block && d.Slot == slot {
			return d.Id
		}
	}
	return 0
}

// wantMem wants this memory, a right one where the one that it comes from is.
func wantMem(t *testing.T, call string, from, got, want impl.Mem) {
	t.Helper()
	if !sameMem(got, want) {
		t.Errorf("%s of %v answers %v, want %v", call, from, got, want)
	}
	if slowMemOk(from) && (!slowMemOk(got) || !impl.MemOk(got)) {
		t.Errorf("%s of %v is not right any more: %v", call, from, got)
	}
}

func checkOk(t *testing.T, m impl.Mem) {
	t.Helper()
	if got := impl.MemOk(m); got != slowMemOk(m) {
		t.Errorf("MemOk(%v) = %v", m, got)
	}
}

func checkTakes(t *testing.T, m impl.Mem) {
	t.Helper()
	want, number := slowTake(m, blockBits)
	got, p := impl.TakeBlock(m)
	wantMem(t, "TakeBlock", m, got, want)
	if p != number {
		t.Errorf("TakeBlock of %v takes %d, want %d", m, p, number)
	}
	want, number = slowTake(m, inoBits)
	got, i := impl.TakeIno(m)
	wantMem(t, "TakeIno", m, got, want)
	if i != number {
		t.Errorf("TakeIno of %v takes %d, want %d", m, i, number)
	}
}

// checkPut puts what need not be right; only a right one leaves memory right.
func checkPut(t *testing.T, m impl.Mem, d impl.Dep) impl.Mem {
	t.Helper()
	was := fromDep(d)
	want, number := slowPut(m, d)
	got, id := impl.PutDep(m, d)
	if !sameMem(got, want) || id != number {
		t.Errorf("PutDep(%v, %v) = %v, %d, want %v, %d", m, d, got, id, want, number)
	}
	if got, ok := impl.MemOk(got), slowMemOk(want); got != ok {
		t.Errorf("MemOk of PutDep(%v, %v) = %v", m, d, got)
	}
	if !sameDep(d, was) {
		t.Errorf("PutDep has written into %v, which was %v", d, was)
	}
	return got
}

func checkDrop(t *testing.T, m impl.Mem, id int) {
	t.Helper()
	wantMem(t, "DropDep "+impl.Decimal(id), m, impl.DropDep(m, id), slowDrop(m, id))
}

func checkAt(t *testing.T, m impl.Mem, block, slot int) {
	t.Helper()
	if got, want := impl.DepAt(m, block, slot), slowDepAt(m, block, slot); got != want {
		t.Errorf("DepAt(%v, %d, %d) = %d, want %d", m, block, slot, got, want)
	}
}

// checkMem holds all that is answered of a memory against the document, and wants it as it was.
func checkMem(t *testing.T, m impl.Mem) {
	t.Helper()
	was := fromMem(m)
	checkOk(t, m)
	checkTakes(t, m)
	for _, d := range leanDeps() {
		checkPut(t, m, d)
	}
	for id := -1; id <= 9; id++ {
		checkDrop(t, m, id)
	}
	for _, d := range m.Deps {
		checkDrop(t, m, d.Id)
		checkAt(t, m, d.Block, d.Slot)
	}
	checkAt(t, m, 1, 1)
	checkAt(t, m, 0, 0)
	if !sameMem(m, was) {
		t.Errorf("a memory was written into: %v, was %v", m, was)
	}
}

func TestMemNew(t *testing.T) {
	m := impl.MemNew(impl.DiskNew())
	if !slowSameDisk(m.Disk, impl.DiskNew()) || !slices.Equal(m.Dirty, make([]bool, 21)) || len(m.Deps) != 0 || m.Next != 1 || !impl.MemOk(m) {
		t.Errorf("MemNew(DiskNew()) = %v", m)
	}
	for _, right := range []bool{true, false} {
		list := wrongDisks()
		if right {
			list = rightDisks()
		}
		for _, d := range list {
			was := fromDisk(d)
			m := impl.MemNew(d)
			if !sameMem(m, impl.Mem{Disk: was, Dirty: make([]bool, 21), Next: 1}) {
				t.Errorf("MemNew(%v) = %v", was, m)
			}
			if impl.MemOk(m) != right {
				t.Errorf("MemOk of a new memory of %v is %v", d, !right)
			}
			if !slowSameDisk(d, was) {
				t.Errorf("MemNew has written into %v, which was %v", d, was)
			}
		}
	}
	if m := impl.MemNew(impl.Disk{}); !sameMem(m, impl.Mem{Dirty: make([]bool, 21), Next: 1}) || impl.MemOk(m) {
		t.Errorf("MemNew of no disk = %v", m)
	}
}

// A change of a memory, in its own lists.
type memChange struct {
	name string
	do   func(*impl.Mem)
}

// ofDep is a change of the one that leans at this place of leanDeps.
func ofDep(name string, place int, do func(*impl.Dep)) memChange {
	return memChange{name, func(m *impl.Mem) { do(&m.Deps[place]) }}
}

// Places in leanDeps.
const (
	atAlloc = iota
	atSeen
	atAdd
	atShown
	atRem
	atFree
)

func rightMemChanges() []memChange {
	list := []memChange{
		{"none", func(*impl.Mem) {}},
		{"nothing dirty", func(m *impl.Mem) { m.Dirty = make([]bool, 21) }},
		{"all dirty", func(m *impl.Mem) { m.Dirty = allFlags(21) }},
		{"nothing leans", func(m *impl.Mem) { m.Deps = nil }},
		{"an empty list", func(m *impl.Mem) { m.Deps = []impl.Dep{} }},
		{"the least Next", func(m *impl.Mem) { m.Next = 8 }},
		{"Next at its limit", func(m *impl.Mem) { m.Next = 100000 }},
		{"Next 1 without any", func(m *impl.Mem) { m.Deps, m.Next = nil, 1 }},
		{"Next 0 without any", func(m *impl.Mem) { m.Deps, m.Next = nil, 0 }},
		{"Next below 0 without any", func(m *impl.Mem) { m.Deps, m.Next = nil, -1 }},
		{"the least number as Next without any", func(m *impl.Mem) { m.Deps, m.Next = nil, math.MinInt }},
		{"40 that lean", func(m *impl.Mem) { m.Deps, m.Next = freeDeps(40), 41 }},
		{"40 that lean at the limit", func(m *impl.Mem) { m.Deps, m.Next = freeDeps(40), 100000 }},
		{"turned round", func(m *impl.Mem) { slices.Reverse(m.Deps) }},
		{"all alike but their Ids", func(m *impl.Mem) {
			m.Deps = slices.Repeat(m.Deps[atAdd:atAdd+1], 6)
			for k := range m.Deps {
				m.Deps[k].Id = k + 3
			}
		}},
		ofDep("a name of an alloc that is none", atAlloc, func(d *impl.Dep) { d.Name = "NO NAME AT ALL" }),
		ofDep("an alloc of a long name", atAlloc, func(d *impl.Dep) { d.Name = strings.Repeat("x", 30000) }),
		ofDep("an alloc in a slot", atAlloc, func(d *impl.Dep) { d.Slot = 3 }),
		ofDep("the other pointer", atAlloc, func(d *impl.Dep) { d.Ptr, d.Block = 0, 3 }),
		ofDep("a pointer of a directory to text", atAlloc, func(d *impl.Dep) { d.Ino, d.Ptr, d.Block = 8, 1, 5 }),
		ofDep("one seen at the last block", atSeen, func(d *impl.Dep) { d.Ino, d.Ptr, d.Block = 2, 0, 16 }),
		ofDep("a seen one of an inode of two alike", atSeen, func(d *impl.Dep) { d.Ino, d.Ptr, d.Block = 7, 1, 16 }),
		ofDep("an add of another name", atAdd, func(d *impl.Dep) { d.Name = "\x00" }),
		ofDep("an add with a pointer", atAdd, func(d *impl.Dep) { d.Ptr = 1 }),
		ofDep("an add of the last inode", atAdd, func(d *impl.Dep) { d.Ino, d.Block, d.Slot = 8, 8, 2 }),
		ofDep("an add in the first slot", atAdd, func(d *impl.Dep) { d.Ino, d.Block, d.Slot = 1, 8, 0 }),
		ofDep("a shown one whose inode is none", atShown, func(d *impl.Dep) { d.Ino, d.Block, d.Slot = 4, 10, 3 }),
		ofDep("a rem where another name is", atRem, func(d *impl.Dep) { d.Block, d.Slot = 1, 0 }),
		ofDep("a rem of a name that is still there", atRem, func(d *impl.Dep) { d.Block, d.Slot, d.Name = 1, 0, "a" }),
		ofDep("a rem of a short name", atRem, func(d *impl.Dep) { d.Name = "z" }),
		ofDep("a rem of a long name", atRem, func(d *impl.Dep) { d.Name = "09azaz" }),
		ofDep("a rem after nothing", atRem, func(d *impl.Dep) { d.After = 0 }),
		ofDep("a rem after itself", atRem, func(d *impl.Dep) { d.After = 3 }),
		ofDep("a rem after one that is not there", atRem, func(d *impl.Dep) { d.After = 8 }),
		ofDep("a free one of text", atFree, func(d *impl.Dep) { d.Block, d.Slot, d.Ptr, d.After, d.Name = 16, 3, 1, 8, "/" }),
		ofDep("a free one without blocks", atFree, func(d *impl.Dep) { d.Blocks = nil }),
		ofDep("a free one of many blocks", atFree, func(d *impl.Dep) { d.Blocks = slices.Repeat([]int{16, 1}, 500) }),
	}
	for k := range leanDeps() {
		list = append(list,
			ofDep("the greatest Id", k, func(d *impl.Dep) { d.Id = 8 }),
			ofDep("flags", k, func(d *impl.Dep) { d.Bits, d.Other = !d.Bits, !d.Other }),
			ofDep("the least After", k, func(d *impl.Dep) { d.After = 0 }),
			ofDep("the greatest After", k, func(d *impl.Dep) { d.After = 8 }),
			ofDep("Blocks at their limits", k, func(d *impl.Dep) { d.Blocks = []int{1, 16} }),
		)
	}
	return list
}

func wrongMemChanges() []memChange {
	list := []memChange{
		{"nothing", func(m *impl.Mem) { *m = impl.Mem{} }},
		{"no disk", func(m *impl.Mem) { m.Disk = impl.Disk{} }},
		{"not dirty at all", func(m *impl.Mem) { m.Dirty = nil }},
		{"1 unit", func(m *impl.Mem) { m.Dirty = m.Dirty[:1] }},
		{"20 units", func(m *impl.Mem) { m.Dirty = m.Dirty[:20] }},
		{"22 units", func(m *impl.Mem) { m.Dirty = append(m.Dirty, false) }},
		{"277 units", func(m *impl.Mem) { m.Dirty = make([]bool, 277) }},
		{"41 that lean", func(m *impl.Mem) { m.Deps, m.Next = freeDeps(41), 42 }},
		{"296 that lean", func(m *impl.Mem) { m.Deps, m.Next = freeDeps(296), 1000 }},
		{"Next past its limit", func(m *impl.Mem) { m.Next = 100001 }},
		{"Next past its limit without any", func(m *impl.Mem) { m.Deps, m.Next = nil, 100001 }},
		{"Next at the greatest number", func(m *impl.Mem) { m.Deps, m.Next = nil, math.MaxInt }},
		{"Next that is an Id", func(m *impl.Mem) { m.Next = 7 }},
		{"Next 1", func(m *impl.Mem) { m.Next = 1 }},
		{"Next 0", func(m *impl.Mem) { m.Next = 0 }},
		{"Next below 0", func(m *impl.Mem) { m.Next = -8 }},
		{"Next at the least number", func(m *impl.Mem) { m.Next = math.MinInt }},
		{"twice the same", func(m *impl.Mem) { m.Deps = append(m.Deps, fromDep(m.Deps[0])) }},
		{"the last two of one Id", func(m *impl.Mem) { m.Deps[atFree].Id = m.Deps[atRem].Id }},
		{"all of one Id", func(m *impl.Mem) {
			for k := range m.Deps {
				m.Deps[k].Id = 6
			}
		}},
		{"an inode that lost its pointer", func(m *impl.Mem) { m.Disk.Inodes[2].Ptrs[1] = 0 }},
		{"a directory that became text", func(m *impl.Mem) { m.Disk.Blocks[0] = textBlock("text") }},
		{"a name that went", func(m *impl.Mem) { m.Disk.Blocks[15] = filled() }},
		ofDep("an alloc to nothing", atAlloc, func(d *impl.Dep) { d.Ino, d.Ptr, d.Block = 4, 0, 0 }),
		ofDep("an alloc to another block", atAlloc, func(d *impl.Dep) { d.Block = 3 }),
		ofDep("an alloc of the other pointer", atAlloc, func(d *impl.Dep) { d.Ptr = 0 }),
		ofDep("an alloc of another inode", atAlloc, func(d *impl.Dep) { d.Ino = 2 }),
		ofDep("an alloc of an inode that is none", atAlloc, func(d *impl.Dep) { d.Ino = 5 }),
		ofDep("one seen to nothing", atSeen, func(d *impl.Dep) { d.Ptr, d.Block = 1, 0 }),
		ofDep("one seen to another block", atSeen, func(d *impl.Dep) { d.Block = 2 }),
		ofDep("one seen of the other pointer", atSeen, func(d *impl.Dep) { d.Ptr = 1 }),
		ofDep("a free one of a block that is none", atFree, func(d *impl.Dep) { d.Blocks[3] = 0 }),
	}
	for _, k := range []int{atAdd, atShown} {
		list = append(list,
			ofDep("a name in no block", k, func(d *impl.Dep) { d.Block = 0 }),
			ofDep("a name in text", k, func(d *impl.Dep) { d.Block = 3 }),
			ofDep("a name in a block without text", k, func(d *impl.Dep) { d.Block = 5 }),
			ofDep("a slot without a name", k, func(d *impl.Dep) { d.Slot = 2 }),
			ofDep("a block without a name", k, func(d *impl.Dep) { d.Block = 2 }),
			ofDep("a slot of another inode", k, func(d *impl.Dep) { d.Ino = 7 }),
			ofDep("the slot of another name", k, func(d *impl.Dep) { d.Block, d.Slot = 1, 0; d.Ino = 3 }),
		)
	}
	list = append(list,
		ofDep("a rem in no block", atRem, func(d *impl.Dep) { d.Block = 0 }),
		ofDep("a rem in text", atRem, func(d *impl.Dep) { d.Block = 4 }),
		ofDep("a rem in a block without text", atRem, func(d *impl.Dep) { d.Block = 5 }),
	)
	for _, name := range []string{"", "A", "abcdefg", "a b", "a/", "\x00", "é", strings.Repeat("a", 262)} {
		list = append(list, ofDep("a rem of "+name, atRem, func(d *impl.Dep) { d.Name = name }))
	}
	for k := range leanDeps() {
		list = append(list,
			ofDep("an Id below 1", k, func(d *impl.Dep) { d.Id = 0 }),
			ofDep("an Id that is Next", k, func(d *impl.Dep) { d.Id = 9 }),
			ofDep("an Id of another", k, func(d *impl.Dep) { d.Id = leanDeps()[(k+1)%6].Id }),
			ofDep("a kind below", k, func(d *impl.Dep) { d.Kind = 0 }),
			ofDep("a kind above", k, func(d *impl.Dep) { d.Kind = 7 }),
			ofDep("an inode below", k, func(d *impl.Dep) { d.Ino = 0 }),
			ofDep("an inode above", k, func(d *impl.Dep) { d.Ino = 9 }),
			ofDep("a pointer below", k, func(d *impl.Dep) { d.Ptr = -1 }),
			ofDep("a pointer above", k, func(d *impl.Dep) { d.Ptr = 2 }),
			ofDep("a block below", k, func(d *impl.Dep) { d.Block = -1 }),
			ofDep("a block above", k, func(d *impl.Dep) { d.Block = 17 }),
			ofDep("a slot below", k, func(d *impl.Dep) { d.Slot = -1 }),
			ofDep("a slot above", k, func(d *impl.Dep) { d.Slot = 4 }),
			ofDep("an After below", k, func(d *impl.Dep) { d.After = -1 }),
			ofDep("an After that is Next", k, func(d *impl.Dep) { d.After = 9 }),
			ofDep("a block 0 of Blocks", k, func(d *impl.Dep) { d.Blocks = []int{1, 2, 0} }),
			ofDep("a block 17 of Blocks", k, func(d *impl.Dep) { d.Blocks = []int{17, 2, 3} }),
			ofDep("a block below 0 of Blocks", k, func(d *impl.Dep) { d.Blocks = []int{4, math.MinInt, 4} }),
		)
	}
	return list
}

func changedMem(m impl.Mem, c memChange) impl.Mem {
	m = fromMem(m)
	c.do(&m)
	return m
}

// sampleMems are right and wrong memories, each with lists of its own.
func sampleMems() []impl.Mem {
	list := []impl.Mem{impl.MemNew(impl.DiskNew()), impl.MemNew(usedDisk()), impl.MemNew(emptyDisk())}
	for _, c := range slices.Concat(rightMemChanges(), wrongMemChanges()) {
		list = append(list, changedMem(leanMem(), c))
	}
	return list
}

func TestMemoriesThatAreRight(t *testing.T) {
	for _, c := range rightMemChanges() {
		m := changedMem(leanMem(), c)
		if !impl.MemOk(m) || !slowMemOk(m) {
			t.Errorf("%s: MemOk is %v, the document says %v of %v", c.name, impl.MemOk(m), slowMemOk(m), m)
		}
	}
}

func TestMemoriesThatAreNotRight(t *testing.T) {
	for _, c := range wrongMemChanges() {
		m := changedMem(leanMem(), c)
		if impl.MemOk(m) || slowMemOk(m) {
			t.Errorf("%s: MemOk is %v, the document says %v of %v", c.name, impl.MemOk(m), slowMemOk(m), m)
		}
	}
	for _, d := range wrongDisks() {
		m := leanMem()
		m.Disk = d
		if impl.MemOk(m) {
			t.Errorf("MemOk of a disk that is not right: %v", d)
		}
	}
}

// depFields are the numbers of one that leans, each by its place in memory.
func depFields(d *impl.Dep) []*int {
	return []*int{&d.Id, &d.Kind, &d.Ino, &d.Ptr, &d.Block, &d.Slot, &d.After}
}

// Each number of each kind, and each two of them, over all limits and what stands beside them.
func TestMemOkByNumbers(t *testing.T) {
	odd := oddNumbers()
	for n := -2; n <= 20; n++ {
		odd = append(odd, n)
	}
	m := leanMem()
	for k := range m.Deps {
		was := m.Deps[k]
		for at := range depFields(&was) {
			for _, n := range odd {
				m.Deps[k] = was
				*depFields(&m.Deps[k])[at] = n
				checkOk(t, m)
			}
			for other := range at {
				for n := range 19 * 19 {
					m.Deps[k] = was
					*depFields(&m.Deps[k])[at] = n/19 - 1
					*depFields(&m.Deps[k])[other] = n%19 - 1
					checkOk(t, m)
				}
			}
		}
		for _, n := range odd {
			m.Deps[k] = was
			m.Deps[k].Blocks = []int{3, n}
			checkOk(t, m)
		}
		m.Deps[k] = was
	}
}

// Each kind of each inode, pointer, block and slot that there is.
func TestMemOkOverTheDisk(t *testing.T) {
	right := 0
	for kind := 0; kind <= 7; kind++ {
		for n := range 9 * 17 * 4 * 2 {
			d := impl.Dep{Id: 1, Kind: kind, Ino: n / 2 / 4 / 17, Block: n / 2 / 4 % 17, Slot: n / 2 % 4, Ptr: n % 2, Name: "name"}
			m := memOfDeps(2, d)
			checkOk(t, m)
			if impl.MemOk(m) {
				right++
			}
		}
	}
	// 10 pointers in any of 4 slots, of two kinds; 9 names of any of 2 pointers, of two kinds; 5 blocks of directories; all of DepFree.
	if want := 2*10*4 + 2*9*2 + 8*5*4*2 + 8*17*4*2; right != want {
		t.Errorf("%d that lean are right, want %d", right, want)
	}
}

func TestMemOkByNext(t *testing.T) {
	for _, next := range []int{math.MinInt, math.MinInt + 1, -1, 0, 1, 2, 3, 99999, 100000, 100001, 100002, 1 << 32, math.MaxInt} {
		for n := range 3 {
			checkOk(t, memOfDeps(next, freeDeps(n)...))
		}
		for _, id := range []int{math.MinInt, -1, 0, 1, next - 1, next, next + 1, 99999, 100000, math.MaxInt} {
			checkOk(t, memOfDeps(next, impl.Dep{Id: id, Kind: impl.DepFree, Ino: 1}))
			checkOk(t, memOfDeps(next, impl.Dep{Id: 1, Kind: impl.DepFree, Ino: 1, After: id}))
		}
	}
	for n := range 84 {
		m := memOfDeps(100, freeDeps(n)...)
		if got := impl.MemOk(m); got != (n <= 40) {
			t.Errorf("MemOk with %d that lean is %v", n, got)
		}
	}
	for n := range 50 {
		m := leanMem()
		m.Dirty = make([]bool, n)
		if got := impl.MemOk(m); got != (n == 21) {
			t.Errorf("MemOk with %d units of Dirty is %v", n, got)
		}
	}
}

// Two of one Id, wherever they stand.
func TestMemOkOfTwoAlike(t *testing.T) {
	for n := 2; n <= 40; n += 2 {
		for k := range n {
			for o := range k {
				m := memOfDeps(60, freeDeps(n)...)
				m.Deps[o].Id = m.Deps[k].Id
				if impl.MemOk(m) {
					t.Fatalf("MemOk of %d that lean, %d and %d of one Id", n, o, k)
				}
			}
		}
	}
}

func TestMemoriesAnswerAsTold(t *testing.T) {
	for _, m := range sampleMems() {
		checkMem(t, m)
	}
	for _, d := range wrongDisks() {
		m := leanMem()
		m.Disk = d
		checkMem(t, m)
	}
}

// All of a new disk, one by one, till none is free; what is taken twice would show.
func TestTakenOneByOne(t *testing.T) {
	m := impl.MemNew(impl.DiskNew())
	for want := 1; want <= 16; want++ {
		taken, p := impl.TakeBlock(m)
		if p != want || m.Disk.Bits.Blocks[p-1] || !taken.Disk.Bits.Blocks[p-1] || !impl.MemOk(taken) {
			t.Fatalf("block %d is taken, want %d: %v", p, want, taken)
		}
		m = taken
	}
	for want := 2; want <= 8; want++ {
		taken, i := impl.TakeIno(m)
		if i != want || m.Disk.Bits.Inos[i-1] || !taken.Disk.Bits.Inos[i-1] || !impl.MemOk(taken) {
			t.Fatalf("inode %d is taken, want %d: %v", i, want, taken)
		}
		m = taken
	}
	want := impl.MemNew(impl.DiskNew())
	want.Disk.Bits = bitsOf(allFlags(16), allFlags(8))
	want.Dirty[0] = true
	if !sameMem(m, want) {
		t.Errorf("all is taken: %v, want %v", m, want)
	}
	for range 3 {
		got, p := impl.TakeBlock(m)
		if p != 0 || !sameMem(got, want) {
			t.Errorf("TakeBlock of none that is free = %v, %d", got, p)
		}
		got, i := impl.TakeIno(m)
		if i != 0 || !sameMem(got, want) {
			t.Errorf("TakeIno of none that is free = %v, %d", got, i)
		}
	}
}

// Where none is free, nothing becomes dirty.
func TestNothingIsTaken(t *testing.T) {
	m := impl.MemNew(usedDisk())
	got, p := impl.TakeBlock(m)
	if p != 0 || got.Dirty[0] || !sameMem(got, m) {
		t.Errorf("TakeBlock of none that is free = %v, %d", got, p)
	}
	got, i := impl.TakeIno(m)
	if i != 0 || got.Dirty[0] || !sameMem(got, m) {
		t.Errorf("TakeIno of none that is free = %v, %d", got, i)
	}
}

// The one that is free, whatever lies around it, and those that were given back.
func TestTheFirstThatIsFreeIsTaken(t *testing.T) {
	for used := range 1 << 8 {
		m := leanMem()
		m.Dirty = make([]bool, 21)
		for k := range 8 {
			m.Disk.Bits.Inos[k] = used>>k&1 == 1
			m.Disk.Bits.Blocks[k] = used>>k&1 == 0
			m.Disk.Bits.Blocks[8+k] = used*5>>k&1 == 1
		}
		checkTakes(t, m)
	}
}

// takeAll takes as long as there is one, and tells how many there were.
func takeAll(t *testing.T, m impl.Mem, take func(impl.Mem) (impl.Mem, int)) int {
	t.Helper()
	for n := range 1000 {
		checkTakes(t, m)
		taken, number := take(m)
		if number == 0 {
			return n
		}
		m = taken
	}
	t.Errorf("there is no end of what is taken of %v", m)
	return -1
}

// Of a memory that is not right those are taken that its bits tell of.
func TestTakenOfMemoriesThatAreNotRight(t *testing.T) {
	for _, n := range []int{0, 1, 7, 8, 9, 15, 16, 17, 300} {
		m := leanMem()
		m.Disk.Bits = bitsOf(make([]bool, n), make([]bool, n))
		if got := takeAll(t, m, impl.TakeBlock); got != n {
			t.Errorf("%d of %d blocks are taken", got, n)
		}
		if got := takeAll(t, m, impl.TakeIno); got != n {
			t.Errorf("%d of %d inodes are taken", got, n)
		}
	}
	for _, n := range []int{0, 1, 2, 20, 22, 100} {
		m := leanMem()
		m.Dirty = make([]bool, n)
		blocks, inos := takeAll(t, m, impl.TakeBlock), takeAll(t, m, impl.TakeIno)
		if blocks != 11 || inos != 4 {
			t.Errorf("%d blocks and %d inodes are taken with %d units of Dirty", blocks, inos, n)
		}
	}
	m := impl.Mem{Next: -7, Deps: append(leanDeps(), leanDeps()...), Disk: impl.Disk{Bits: bitsOf([]bool{true, false}, []bool{false})}}
	got, p := impl.TakeBlock(m)
	want := fromMem(m)
	want.Disk.Bits.Blocks[1] = true
	if p != 2 || !sameMem(got, want) {
		t.Errorf("TakeBlock(%v) = %v, %d", m, got, p)
	}
	if got, p := impl.TakeBlock(impl.Mem{}); p != 0 || !sameMem(got, impl.Mem{}) {
		t.Errorf("TakeBlock of nothing = %v, %d", got, p)
	}
	if got, i := impl.TakeIno(impl.Mem{}); i != 0 || !sameMem(got, impl.Mem{}) {
		t.Errorf("TakeIno of nothing = %v, %d", got, i)
	}
}

// What leans twice: all that is put stays, in order, up to 40, each with an Id of its own.
func TestPutDepTillThereIsNoRoom(t *testing.T) {
	m := impl.MemNew(fullDisk())
	var want []impl.Dep
	for k := range 40 {
		d := leanDeps()[k%6]
		d.Id, d.After = 77-k, k
		got, id := impl.PutDep(m, d)
		d.Id = k + 1
		want = append(want, d)
		if id != k+1 || got.Next != k+2 || !slices.EqualFunc(got.Deps, want, sameDep) || !impl.MemOk(got) {
			t.Fatalf("PutDep(%v, %v) = %v, %d", m, d, got, id)
		}
		if len(m.Deps) != k || m.Next != k+1 {
			t.Fatalf("PutDep has changed what was handed in: %v", m)
		}
		m = got
	}
	got, id := impl.PutDep(m, want[0])
	if id != 0 || !sameMem(got, m) {
		t.Errorf("PutDep with 40 = %v, %d", got, id)
	}
	for _, n := range []int{38, 39, 40, 41, 42, 296} {
		checkPut(t, memOfDeps(500, freeDeps(n)...), leanDeps()[0])
		checkPut(t, memOfDeps(500, slices.Repeat(freeDeps(1), n)...), leanDeps()[0])
	}
}

func TestPutDepByNext(t *testing.T) {
	for _, next := range []int{math.MinInt, -1, 0, 1, 2, 8, 99998, 99999, 100000, 100001, 100002, 1 << 32, 1<<32 + 1, math.MaxInt} {
		m := leanMem()
		m.Next = next
		for _, d := range append(leanDeps(), impl.Dep{}) {
			checkPut(t, m, d)
		}
		got, id := impl.PutDep(m, leanDeps()[atRem])
		deps, then, wantId := 6, next, 0
		if next >= 1 && next <= 99999 {
			deps, then, wantId = 7, next+1, next
		}
		if len(got.Deps) != deps || got.Next != then || id != wantId {
			t.Errorf("PutDep with Next %d = %v, %d", next, got, id)
		}
	}
	m, id := impl.PutDep(memOfDeps(99999), impl.Dep{Kind: impl.DepFree, Ino: 1})
	if id != 99999 || m.Next != 100000 || !impl.MemOk(m) {
		t.Errorf("PutDep with Next 99999 = %v, %d", m, id)
	}
}

// What is put is not looked at; an Id that is there already loses nothing of what has it.
func TestPutDepAsItIs(t *testing.T) {
	for _, d := range []impl.Dep{
		{}, {Id: math.MinInt, Kind: -1, Ino: 99, Ptr: 99, Block: -99, Slot: 99, Name: "no name", Bits: true, After: math.MaxInt, Blocks: []int{0, -1, 99}},
		{Id: 9, Other: true, Name: strings.Repeat("long", 10000), Blocks: make([]int, 1000)},
	} {
		for _, m := range sampleMems() {
			checkPut(t, m, d)
		}
	}
	m := leanMem()
	m.Next = 5
	got, id := impl.PutDep(m, impl.Dep{Kind: impl.DepFree, Ino: 8})
	want := append(leanDeps(), impl.Dep{Id: 5, Kind: impl.DepFree, Ino: 8})
	if id != 5 || got.Next != 6 || !slices.EqualFunc(got.Deps, want, sameDep) {
		t.Errorf("PutDep of an Id that is there = %v, %d", got, id)
	}
}

func TestDropDep(t *testing.T) {
	for k, d := range leanDeps() {
		got := impl.DropDep(leanMem(), d.Id)
		want := leanMem()
		want.Deps = slices.Delete(want.Deps, k, k+1)
		if !sameMem(got, want) || !impl.MemOk(got) {
			t.Errorf("DropDep %d = %v, want %v", d.Id, got, want)
		}
	}
	for _, id := range append(oddNumbers(), -1, 0, 6, 8, 9, 10, 100000) {
		if got := impl.DropDep(leanMem(), id); !sameMem(got, leanMem()) {
			t.Errorf("DropDep of %d, which is not there, = %v", id, got)
		}
	}
	full := memOfDeps(41, freeDeps(40)...)
	for id := 1; id <= 40; id++ {
		checkDrop(t, full, id)
		full = impl.DropDep(full, id)
		if len(full.Deps) != 40-id {
			t.Errorf("%d lean when %d have been dropped", len(full.Deps), id)
		}
	}
	if full.Next != 41 {
		t.Errorf("Next is %d when all have been dropped", full.Next)
	}
}

// One Id twice: none of both is left; what is twice beside it stays twice, in its place.
func TestDropDepOfAnIdThatIsThereTwice(t *testing.T) {
	named := func(id int, name string) impl.Dep { return impl.Dep{Id: id, Name: name} }
	m := memOfDeps(9, named(2, "a"), named(3, "b"), named(2, "c"), named(0, "d"), named(3, "e"), named(-4, "f"), named(3, "g"), named(0, "h"))
	for id, left := range map[int]string{2: "bdefgh", 3: "acdfh", 0: "abcefg", -4: "abcdegh", 1: "abcdefgh", 4: "abcdefgh"} {
		got := ""
		for _, d := range impl.DropDep(m, id).Deps {
			got += d.Name
		}
		if got != left {
			t.Errorf("DropDep of %d leaves %q, want %q", id, got, left)
		}
		checkDrop(t, m, id)
	}
	many := memOfDeps(9, slices.Repeat(leanDeps(), 50)...)
	for id := range 9 {
		checkDrop(t, many, id)
	}
	checkMem(t, m)
	checkMem(t, many)
}

func TestDepAt(t *testing.T) {
	m := leanMem()
	for block := -2; block <= 19; block++ {
		for slot := -2; slot <= 6; slot++ {
			checkAt(t, m, block, slot)
		}
	}
	for _, c := range []struct{ block, slot, id int }{{1, 1, 5}, {16, 3, 4}, {2, 2, 3}, {4, 0, 0}, {1, 0, 0}, {0, 0, 0}, {1, 2, 0}, {2, 1, 0}, {16, 2, 0}} {
		if got := impl.DepAt(m, c.block, c.slot); got != c.id {
			t.Errorf("DepAt %d, %d = %d, want %d", c.block, c.slot, got, c.id)
		}
	}
	if got := impl.DepAt(impl.Mem{}, 1, 1); got != 0 {
		t.Errorf("DepAt of nothing = %d", got)
	}
	if got := impl.DepAt(impl.MemNew(fullDisk()), 1, 1); got != 0 {
		t.Errorf("DepAt of what nothing leans on = %d", got)
	}
}

// Of each kind, and of kinds that are none: only names have a slot.
func TestDepAtByKind(t *testing.T) {
	for _, kind := range append(oddNumbers(), -1, 0, 1, 2, 3, 4, 5, 6, 7, 8) {
		m := memOfDeps(9, impl.Dep{Id: 3, Kind: kind, Block: 7, Slot: 2}, impl.Dep{Id: 4, Kind: impl.DepRem, Block: 7, Slot: 2})
		want := 4
		if kind == impl.DepAdd || kind == impl.DepShown || kind == impl.DepRem {
			want = 3
		}
		if got := impl.DepAt(m, 7, 2); got != want {
			t.Errorf("DepAt with one of kind %d ahead = %d, want %d", kind, got, want)
		}
	}
}

// The first of several is told, be its Id the greater one, or one that is no Id.
func TestDepAtOfSeveral(t *testing.T) {
	at := func(id, kind, block, slot int) impl.Dep {
		return impl.Dep{Id: id, Kind: kind, Block: block, Slot: slot}
	}
	m := memOfDeps(9, at(8, 5, 1, 1), at(7, 1, 1, 1), at(6, 3, 1, 2), at(5, 4, 1, 1), at(2, 2, 1, 1), at(1, 3, 1, 1), at(5, 2, 2, 1))
	if got := impl.DepAt(m, 1, 1); got != 5 {
		t.Errorf("DepAt of several = %d, want 5", got)
	}
	if got := impl.DepAt(impl.DropDep(m, 5), 1, 1); got != 2 {
		t.Errorf("DepAt of the others = %d, want 2", got)
	}
	for _, n := range oddNumbers() {
		odd := memOfDeps(9, at(n, 2, n, -n), at(3, 4, 1, n), at(4, 3, n, 1))
		if got := impl.DepAt(odd, n, -n); got != n {
			t.Errorf("DepAt %d, %d = %d", n, -n, got)
		}
		if impl.DepAt(odd, 1, n) != 3 || impl.DepAt(odd, n, 1) != 4 || impl.DepAt(odd, 1, 1) != 0 || impl.DepAt(leanMem(), n, 1) != 0 || impl.DepAt(leanMem(), 1, n) != 0 {
			t.Errorf("DepAt beside %d tells what is not there", n)
		}
	}
}

// Whatever is done in turn, memory stays right, no number is given out twice, and it is as the document tells.
func TestMemoryStaysRight(t *testing.T) {
	m := impl.MemNew(fullDisk())
	draw := uint32(1)
	for range 3000 {
		draw = draw*1664525 + 1013904223
		n := int(draw >> 16)
		switch n % 8 {
		case 0:
			m, _ = impl.TakeBlock(m)
		case 1:
			m, _ = impl.TakeIno(m)
		case 2, 3:
			m = impl.DropDep(m, m.Next-1-n/8%60)
		case 4:
			m.Disk.Bits.Blocks[n/8%16] = false
			m.Disk.Bits.Inos[n/8%8] = false
		default:
			d := leanDeps()[n/8%6]
			d.After = n % m.Next
			m = checkPut(t, m, d)
		}
		if !impl.MemOk(m) || !slowMemOk(m) {
			t.Fatalf("memory is not right any more: %v", m)
		}
		checkTakes(t, m)
		checkDrop(t, m, m.Next-1-n%50)
	}
}

func memLists(m impl.Mem) []room {
	list := append(diskLists(m.Disk), listRoom(m.Dirty), listRoom(m.Deps))
	for _, d := range m.Deps {
		list = append(list, listRoom(d.Blocks))
	}
	return list
}

func memTexts(m impl.Mem) []room {
	list := diskTexts(m.Disk)
	for _, d := range m.Deps {
		list = append(list, textRoom(d.Name))
	}
	return list
}

type memCall struct {
	name string
	do   func(impl.Mem) impl.Mem
}

// memCalls are all that answer a memory, where they do what is asked and where they refuse it.
func memCalls(d impl.Dep) []memCall {
	put := func(m impl.Mem) impl.Mem { m, _ = impl.PutDep(m, d); return m }
	return []memCall{
		{"MemNew", func(m impl.Mem) impl.Mem { return impl.MemNew(m.Disk) }},
		{"TakeBlock", func(m impl.Mem) impl.Mem { m, _ = impl.TakeBlock(m); return m }},
		{"TakeIno", func(m impl.Mem) impl.Mem { m, _ = impl.TakeIno(m); return m }},
		{"PutDep", put},
		{"PutDep without room", func(m impl.Mem) impl.Mem { m.Next = 0; return put(m) }},
		{"DropDep", func(m impl.Mem) impl.Mem { return impl.DropDep(m, 3) }},
		{"DropDep of none", func(m impl.Mem) impl.Mem { return impl.DropDep(m, 99) }},
	}
}

// sharingMem has lists that share memory with each other, and room behind them.
func sharingMem() impl.Mem {
	m := leanMem()
	numbers := make([]int, 20)
	for k := range m.Disk.Inodes {
		m.Disk.Inodes[k].Ptrs = numbers[:2]
	}
	for k := range m.Deps {
		m.Deps[k].Blocks = numbers[:3+k]
	}
	flags := make([]bool, 40)
	m.Dirty, m.Disk.Bits.Blocks, m.Disk.Bits.Inos = flags[:21], flags[:16], flags[:8]
	slots := m.Disk.Blocks[0].Slots
	for k := range m.Disk.Blocks {
		m.Disk.Blocks[k] = dirBlock(slots[:4]...)
	}
	return m
}

func TestMemoriesAreNewMemory(t *testing.T) {
	d := impl.Dep{Kind: impl.DepRem, Name: strings.Repeat("n", 5), Blocks: make([]int, 3, 9)}
	lists, names := []room{listRoom(d.Blocks)}, []room{textRoom(d.Name)}
	many := memOfDeps(60, slices.Repeat(leanDeps(), 4)...)
	for _, m := range []impl.Mem{leanMem(), many, sharingMem(), impl.MemNew(usedDisk()), changedMem(leanMem(), memChange{"", func(m *impl.Mem) { m.Dirty = nil }})} {
		for _, call := range memCalls(d) {
			one, other := call.do(m), call.do(m)
			if twoMeet(memLists(one)) {
				t.Errorf("two lists of what %s answers share memory", call.name)
			}
			if anyMeets(memLists(one), memLists(m)) || anyMeets(memLists(one), memLists(other)) || anyMeets(memLists(one), lists) {
				t.Errorf("lists of what %s answers share memory with another", call.name)
			}
			if anyMeets(memTexts(one), memTexts(m)) || anyMeets(memTexts(one), memTexts(other)) || anyMeets(memTexts(one), names) {
				t.Errorf("texts of what %s answers share memory with another", call.name)
			}
			runtime.KeepAlive(one)
			runtime.KeepAlive(other)
		}
	}
	runtime.KeepAlive(d)
}

// spoilMem writes into all that a memory has, and behind it.
func spoilMem(m impl.Mem) {
	spoilBits(m.Disk.Bits.Blocks[:cap(m.Disk.Bits.Blocks)])
	spoilBits(m.Disk.Bits.Inos[:cap(m.Disk.Bits.Inos)])
	spoilBits(m.Dirty[:cap(m.Dirty)])
	for _, x := range m.Disk.Inodes {
		spoilNumbers(x.Ptrs)
	}
	for _, b := range m.Disk.Blocks {
		spoilBlock(b)
	}
	for _, d := range m.Deps {
		spoilNumbers(d.Blocks)
	}
	for k := range m.Disk.Inodes[:cap(m.Disk.Inodes)] {
		m.Disk.Inodes[:cap(m.Disk.Inodes)][k] = impl.Inode{Kind: 55}
	}
	for k := range m.Disk.Blocks[:cap(m.Disk.Blocks)] {
		m.Disk.Blocks[:cap(m.Disk.Blocks)][k] = textBlock("spoilt")
	}
	for k := range m.Deps[:cap(m.Deps)] {
		m.Deps[:cap(m.Deps)][k] = impl.Dep{Id: -55}
	}
}

func spoilNumbers(list []int) {
	for k := range list[:cap(list)] {
		list[:cap(list)][k] = -55
	}
}

// Whoever writes into an answer changes neither what was handed in nor the next answer; and the other way round.
func TestMemoriesThatAreSpoilt(t *testing.T) {
	d := impl.Dep{Kind: impl.DepFree, Ino: 2, Blocks: []int{4, 5, 6}}
	for _, m := range []impl.Mem{leanMem(), memOfDeps(60, slices.Repeat(leanDeps(), 3)...)} {
		for _, call := range memCalls(d) {
			given := fromMem(m)
			first := call.do(given)
			want := fromMem(first)
			spoilMem(first)
			if !sameMem(given, m) || !slices.Equal(d.Blocks, []int{4, 5, 6}) {
				t.Errorf("what %s answers leads back to what was handed in", call.name)
			}
			second := call.do(given)
			if !sameMem(second, want) {
				t.Errorf("%s answers %v behind a spoilt answer, want %v", call.name, second, want)
			}
			spoilMem(given)
			if !sameMem(second, want) {
				t.Errorf("what %s answered changes with what was handed in", call.name)
			}
		}
	}
	put, _ := impl.PutDep(leanMem(), d)
	spoilNumbers(d.Blocks)
	if !slices.Equal(put.Deps[6].Blocks, []int{4, 5, 6}) {
		t.Error("what was put changes with what was handed in")
	}
}

// What stands in spare room behind every list of a memory stays as it is.
func TestRoomBehindMemoriesIsNotWrittenInto(t *testing.T) {
	m := leanMem()
	bits, inos := append(m.Disk.Bits.Blocks, false, true), append(m.Disk.Bits.Inos, false, true)
	dirty, deps := append(m.Dirty, false, true), append(m.Deps, impl.Dep{Id: 99, Name: "behind"})
	inodes, blocks := append(m.Disk.Inodes, inode(5, 5, 5, 5)), append(m.Disk.Blocks, textBlock("behind"))
	numbers := append(deps[atFree].Blocks, 77)
	deps[atFree].Blocks = numbers[:4]
	m = impl.Mem{Disk: impl.Disk{Bits: bitsOf(bits[:16], inos[:8]), Inodes: inodes[:8], Blocks: blocks[:16]}, Dirty: dirty[:21], Deps: deps[:6], Next: 9}
	given := []int{1, 2, 3, 77}
	for _, call := range memCalls(impl.Dep{Kind: impl.DepFree, Ino: 1, Blocks: given[:3]}) {
		call.do(m)
	}
	impl.MemOk(m)
	impl.DepAt(m, 1, 1)
	if !sameMem(m, leanMem()) {
		t.Errorf("a memory was written into: %v", m)
	}
	if bits[16] || !bits[17] || inos[8] || !inos[9] || dirty[21] || !dirty[22] || !sameDep(deps[6], impl.Dep{Id: 99, Name: "behind"}) {
		t.Error("spare room behind a memory was written into")
	}
	if !sameInode(inodes[8], inode(5, 5, 5, 5)) || !sameBlock(blocks[16], textBlock("behind")) || numbers[4] != 77 || given[3] != 77 {
		t.Error("spare room behind a disk, or behind one that leans, was written into")
	}
}
