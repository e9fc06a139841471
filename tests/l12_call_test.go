package tests

import (
	"maps"
	"math"
	"runtime"
	"slices"
	"strings"
	"testing"

	"loop.example/g00235/impl"
)

// The signatures that the document gives.
var (
	_ func(m impl.Mem, p string, kind int) (impl.Mem, int)        = impl.MakeNode
	_ func(m impl.Mem, p string, k int, s string) (impl.Mem, int) = impl.WriteText
	_ func(m impl.Mem, p string) (impl.Mem, int)                  = impl.RemoveNode
	_ func(m impl.Mem, p string, q string) (impl.Mem, int)        = impl.MoveFile
	_ func(m impl.Mem, p string) (string, int)                    = impl.ReadText
)

func TestCodeConstants(t *testing.T) {
	codes := []int{impl.CodeNone, impl.CodeThere, impl.CodeKind, impl.CodeFull, impl.CodeBusy, impl.CodeWrong}
	if !slices.Equal(codes, []int{1, 2, 3, 4, 5, 6}) {
		t.Errorf("the codes are %v", codes)
	}
}

// slowCut is the path of what a named path is in, and its name; none without a name.
func slowCut(p string) (up, name string, ok bool) {
	names, ok := slowSplit(p)
	if !ok || len(names) == 0 {
		return "", "", false
	}
	last := strings.LastIndex(p, "/")
	return "/" + strings.TrimPrefix(p[:last], "/"), p[last+1:], true
}

// slowStand is where a name of a directory stands; block 0 when it does not.
func slowStand(d impl.Disk, dir int, name string) (block, place int) {
	for ptr := range 2 {
		for k, s := range slowBlockAt(d, dir, 2, ptr).Slots {
			if s.Name == name {
				return d.Inodes[dir-1].Ptrs[ptr], k
			}
		}
	}
	return 0, 0
}

func slowNoRoom(m impl.Mem) bool { return len(m.Deps) > 32 || m.Next > 99000 }

// slowWaits asks for a name that is gone from a directory and still shown there; any name, when none is told.
func slowWaits(m impl.Mem, dir int, name string) bool {
	for _, d := range m.Deps {
		of := d.Block == m.Disk.Inodes[dir-1].Ptrs[0] || d.Block == m.Disk.Inodes[dir-1].Ptrs[1]
		if d.Kind == 4 && d.After > 0 && of && (name == "" || d.Name == name) {
			return true
		}
	}
	return false
}

// slowUnwritten are the Ids of each DepAdd and DepShown that the slot has.
func slowUnwritten(m impl.Mem, block, place int) []int {
	var ids []int
	for _, d := range m.Deps {
		if (d.Kind == 2 || d.Kind == 3) && d.Block == block && d.Slot == place {
			ids = append(ids, d.Id)
		}
	}
	return ids
}

// slowGrown has a new block at a pointer of an inode; block 0 when none is free.
func slowGrown(m impl.Mem, i, ptr int, b impl.Block) (impl.Mem, int) {
	c, p := slowTake(m, blockBits)
	if p == 0 {
		return c, 0
	}
	c.Disk.Blocks[p-1] = b
	c.Disk.Inodes[i-1].Ptrs[ptr] = p
	c.Dirty[4+p], c.Dirty[(i+1)/2] = true, true
	c, _ = slowPut(c, impl.Dep{Kind: 1, Ino: i, Ptr: ptr, Block: p})
	return c, p
}

// slowPlace is where a name of a directory is put; block 0 when there is no slot.
func slowPlace(m impl.Mem, dir int) (c impl.Mem, block, place int) {
	for _, p := range m.Disk.Inodes[dir-1].Ptrs {
		for k := range 4 {
			if p > 0 && m.Disk.Blocks[p-1].Dir && m.Disk.Blocks[p-1].Slots[k] == slot("", 0) && slowDepAt(m, p, k) == 0 {
				return fromMem(m), p, k
			}
		}
	}
	for ptr := range 2 {
		if m.Disk.Inodes[dir-1].Ptrs[ptr] == 0 {
			c, block = slowGrown(m, dir, ptr, filled())
			return c, block, 0
		}
	}
	return fromMem(m), 0, 0
}

// slowNamed has the name in this slot, with a DepAdd; and its Id.
func slowNamed(m impl.Mem, block, place, ino int, name string) (impl.Mem, int) {
	c := fromMem(m)
	c.Disk.Blocks[block-1].Slots[place] = slot(name, ino)
	c.Dirty[0], c.Dirty[(ino+1)/2], c.Dirty[4+block] = true, true, true
	return slowPut(c, impl.Dep{Kind: 2, Ino: ino, Block: block, Slot: place})
}

// slowUnnamed has no name in this slot any more; what waited for it waits for another one, or for none.
func slowUnnamed(m impl.Mem, block, place int, was impl.Slot, heir int) impl.Mem {
	c := fromMem(m)
	c.Disk.Blocks[block-1].Slots[place] = slot("", 0)
	c.Dirty[4+block] = true
	ids := slowUnwritten(m, block, place)
	if len(ids) == 0 {
		c, _ = slowPut(c, impl.Dep{Kind: 4, Ino: was.Ino, Block: block, Slot: place, Name: was.Name, After: heir})
		return c
	}
	for _, id := range ids {
		c = slowDrop(c, id)
		for k, d := range c.Deps {
			if d.After == id {
				c.Deps[k].After = heir
				slowSoil(&c, impl.UnitOfBlock(d.Block))
			}
		}
	}
	return slowLose(c, was.Ino)
}

func slowMake(m impl.Mem, p string, kind int) (impl.Mem, int) {
	up, name, named := slowCut(p)
	if !slowMemOk(m) || !named || kind != 1 && kind != 2 {
		return fromMem(m), 6
	}
	if slowWalk(m.Disk, p) > 0 {
		return fromMem(m), 2
	}
	dir := slowWalk(m.Disk, up)
	if dir == 0 {
		return fromMem(m), 1
	}
	if m.Disk.Inodes[dir-1].Kind != 2 {
		return fromMem(m), 3
	}
	if slowWaits(m, dir, name) {
		return fromMem(m), 5
	}
	c, block, place := slowPlace(m, dir)
	c, i := slowTake(c, inoBits)
	if slowNoRoom(m) || block == 0 || i == 0 {
		return fromMem(m), 4
	}
	c.Disk.Inodes[i-1] = inode(kind, 1, 0, 0)
	c, _ = slowNamed(c, block, place, i, name)
	return c, 0
}

func slowWrite(m impl.Mem, p string, k int, s string) (impl.Mem, int) {
	if _, ok := slowSplit(p); !slowMemOk(m) || !ok || k != 0 && k != 1 || len(s) > 16 {
		return fromMem(m), 6
	}
	i := slowWalk(m.Disk, p)
	if i == 0 {
		return fromMem(m), 1
	}
	if m.Disk.Inodes[i-1].Kind != 1 {
		return fromMem(m), 3
	}
	if block := m.Disk.Inodes[i-1].Ptrs[k]; block > 0 {
		c := fromMem(m)
		c.Disk.Blocks[block-1] = textBlock(s)
		c.Dirty[4+block] = true
		return c, 0
	}
	c, block := slowGrown(m, i, k, textBlock(s))
	if block == 0 || slowNoRoom(m) {
		return fromMem(m), 4
	}
	return c, 0
}

func slowRemove(m impl.Mem, p string) (impl.Mem, int) {
	up, name, named := slowCut(p)
	if !slowMemOk(m) || !named {
		return fromMem(m), 6
	}
	i := slowWalk(m.Disk, p)
	if i == 0 {
		return fromMem(m), 1
	}
	dir := m.Disk.Inodes[i-1].Kind == 2
	if dir && len(slowNames(m.Disk, i)) > 0 || dir && slowWaits(m, i, "") || slowNoRoom(m) {
		return fromMem(m), 5
	}
	block, place := slowStand(m.Disk, slowWalk(m.Disk, up), name)
	return slowUnnamed(m, block, place, slot(name, i), 0), 0
}

// slowLeadLeans asks the name of each directory above a path.
func slowLeadLeans(m impl.Mem, up string) bool {
	for up != "/" {
		above, name, _ := slowCut(up)
		block, place := slowStand(m.Disk, slowWalk(m.Disk, above), name)
		if len(slowUnwritten(m, block, place)) > 0 {
			return true
		}
		up = above
	}
	return false
}

func slowMove(m impl.Mem, p, q string) (impl.Mem, int) {
	up, name, named := slowCut(p)
	toUp, toName, toNamed := slowCut(q)
	if !slowMemOk(m) || !named || !toNamed {
		return fromMem(m), 6
	}
	i, dir := slowWalk(m.Disk, p), slowWalk(m.Disk, toUp)
	if i == 0 || dir == 0 {
		return fromMem(m), 1
	}
	if m.Disk.Inodes[i-1].Kind != 1 || m.Disk.Inodes[dir-1].Kind != 2 {
		return fromMem(m), 3
	}
	if slowWalk(m.Disk, q) > 0 {
		return fromMem(m), 2
	}
	if slowWaits(m, dir, toName) {
		return fromMem(m), 5
	}
	if slowLeadLeans(m, toUp) {
		return fromMem(m), 5
	}
	if slowNoRoom(m) {
		return fromMem(m), 4
	}
	if m.Disk.Inodes[i-1].Links == 200 {
		return fromMem(m), 5
	}
	c, block, place := slowPlace(m, dir)
	if block == 0 {
		return fromMem(m), 4
	}
	c.Disk.Inodes[i-1].Links++
	c, id := slowNamed(c, block, place, i, toName)
	block, place = slowStand(m.Disk, slowWalk(m.Disk, up), name)
	return slowUnnamed(c, block, place, slot(name, i), id), 0
}

func slowRead(m impl.Mem, p string) (string, int) {
	i := slowWalk(m.Disk, p)
	if i == 0 {
		return "", 1
	}
	if m.Disk.Inodes[i-1].Kind != 1 {
		return "", 3
	}
	head, tail := slowTexts(m.Disk, i)
	return head + tail, 0
}

// An asked is a call, with what the document's words make of it.
type asked struct {
	name string
	fast func(impl.Mem) (impl.Mem, int)
	slow func(impl.Mem) (impl.Mem, int)
}

func askMake(p string, kind int) asked {
	return asked{"MakeNode " + p + " " + impl.Decimal(kind),
		func(m impl.Mem) (impl.Mem, int) { return impl.MakeNode(m, p, kind) },
		func(m impl.Mem) (impl.Mem, int) { return slowMake(m, p, kind) }}
}

func askWrite(p string, k int, s string) asked {
	return asked{"WriteText " + p + " " + impl.Decimal(k) + " " + s,
		func(m impl.Mem) (impl.Mem, int) { return impl.WriteText(m, p, k, s) },
		func(m impl.Mem) (impl.Mem, int) { return slowWrite(m, p, k, s) }}
}

func askRemove(p string) asked {
	return asked{"RemoveNode " + p,
		func(m impl.Mem) (impl.Mem, int) { return impl.RemoveNode(m, p) },
		func(m impl.Mem) (impl.Mem, int) { return slowRemove(m, p) }}
}

func askMove(p, q string) asked {
	return asked{"MoveFile " + p + " " + q,
		func(m impl.Mem) (impl.Mem, int) { return impl.MoveFile(m, p, q) },
		func(m impl.Mem) (impl.Mem, int) { return slowMove(m, p, q) }}
}

// checkCall holds a call against the document, wants what was handed in as it was, and what is refused the same.
func checkCall(t *testing.T, m impl.Mem, a asked) (impl.Mem, int) {
	t.Helper()
	was := fromMem(m)
	want, wantCode := a.slow(m)
	got, code := a.fast(m)
	if code != wantCode || !sameMem(got, want) {
		t.Errorf("%s of %v answers %v, %d, want %v, %d", a.name, m, got, code, want, wantCode)
	}
	if !sameMem(m, was) {
		t.Errorf("%s has written into %v, which was %v", a.name, m, was)
	}
	if code != 0 && !sameMem(got, was) {
		t.Errorf("%s is refused with %d, and has changed %v to %v", a.name, code, was, got)
	}
	return got, code
}

func checkRead(t *testing.T, m impl.Mem, p string) (string, int) {
	t.Helper()
	was := fromMem(m)
	want, wantCode := slowRead(m, p)
	got, code := impl.ReadText(m, p)
	if got != want || code != wantCode {
		t.Errorf("ReadText %q of %v = %q, %d, want %q, %d", p, m, got, code, want, wantCode)
	}
	if !sameMem(m, was) {
		t.Errorf("ReadText has written into %v, which was %v", m, was)
	}
	return got, code
}

// callMem is a settled memory: d has e and h, f has its first text, g its second; inodes 7 and 8 and the blocks from 5 on are free.
func callMem() impl.Mem {
	d := emptyDisk()
	d.Bits = bitsOf(flags(16, 0, 1, 2, 3), flags(8, 0, 1, 2, 3, 4, 5))
	d.Inodes[0] = inode(2, 1, 1, 0)
	d.Inodes[1] = inode(2, 1, 2, 0)
	d.Inodes[2] = inode(1, 1, 3, 0)
	d.Inodes[3] = inode(1, 1, 0, 4)
	d.Inodes[4] = inode(2, 1, 0, 0)
	d.Inodes[5] = inode(1, 1, 0, 0)
	d.Blocks[0] = dirBlock(slot("d", 2), slot("f", 3), slot("", 0), slot("g", 4))
	d.Blocks[1] = dirBlock(slot("", 0), slot("e", 5), slot("", 0), slot("h", 6))
	d.Blocks[2] = textBlock("head")
	d.Blocks[3] = textBlock("tail")
	return impl.Mem{Disk: d, Dirty: flags(21), Next: 60}
}

// A change of a memory.
type memDo = func(*impl.Mem)

// puts gives those that are put the Ids 1, 2 and so on.
func puts(deps ...impl.Dep) memDo {
	return func(m *impl.Mem) {
		for _, d := range deps {
			d = fromDep(d)
			d.Id = len(m.Deps) + 1
			m.Deps = append(m.Deps, d)
		}
	}
}

// leans is a change in which this leans newly, with the Id Next.
func leans(d impl.Dep) memDo {
	return func(m *impl.Mem) {
		d.Id = m.Next
		m.Deps = append(m.Deps, fromDep(d))
		m.Next++
	}
}

func nextIs(n int) memDo { return func(m *impl.Mem) { m.Next = n } }

// fills puts so many that are settled by no call.
func fills(n int) memDo {
	return func(m *impl.Mem) { puts(freeDeps(n)...)(m) }
}

func inodeIs(i, kind, links int, ptrs ...int) memDo {
	return func(m *impl.Mem) { m.Disk.Inodes[i-1] = inode(kind, links, ptrs...) }
}

func blockIs(p int, b impl.Block) memDo {
	return func(m *impl.Mem) {
		m.Disk.Blocks[p-1] = fromBlock(b)
		m.Disk.Bits.Blocks[p-1] = true
	}
}

func slotIs(block, place int, s impl.Slot) memDo {
	return func(m *impl.Mem) { m.Disk.Blocks[block-1].Slots[place] = s }
}

func allDirty(m *impl.Mem) { m.Dirty = allFlags(21) }

func noInoFree(m *impl.Mem) { m.Disk.Bits.Inos = allFlags(8) }

func noBlockFree(m *impl.Mem) { m.Disk.Bits.Blocks = allFlags(16) }

func notRight(m *impl.Mem) { m.Dirty = m.Dirty[:20] }

// rootFull leaves no slot of the root's one block free.
var rootFull = slotIs(1, 2, slot("i", 6))

// rootFuller leaves none of two blocks of the root free.
func rootFuller(m *impl.Mem) {
	all(rootFull, inodeIs(1, 2, 1, 1, 9), blockIs(9, dirBlock(slot("j", 6), slot("k", 6), slot("l", 6), slot("m", 6))))(m)
}

// changedCall is callMem with these changes.
func changedCall(do ...memDo) impl.Mem {
	m := callMem()
	all(do...)(&m)
	return m
}

// wantCall wants a call of a right memory to be done, with just these changes.
func wantCall(t *testing.T, name string, m impl.Mem, a asked, want ...memDo) impl.Mem {
	t.Helper()
	if !impl.MemOk(m) {
		t.Fatalf("%s: not right: %v", name, m)
	}
	changed := fromMem(m)
	all(want...)(&changed)
	got, code := checkCall(t, m, a)
	if code != 0 || !sameMem(got, changed) {
		t.Errorf("%s: %s answers %v, %d, want %v", name, a.name, got, code, changed)
	}
	if !impl.MemOk(got) {
		t.Errorf("%s: behind %s memory is not right any more: %v", name, a.name, got)
	}
	return got
}

// wantCode wants a call to be refused.
func wantCode(t *testing.T, name string, m impl.Mem, a asked, code int) {
	t.Helper()
	got, is := checkCall(t, m, a)
	if is != code || !sameMem(got, m) {
		t.Errorf("%s: %s answers %v, %d, want %v, %d", name, a.name, got, is, m, code)
	}
}

// inoTaken is a change of a bit of an inode, blockTaken one of a block.
func inoTaken(i int) memDo {
	return all(func(m *impl.Mem) { m.Disk.Bits.Inos[i-1] = true }, dirtyToo(0))
}

func blockTaken(p int) memDo {
	return all(func(m *impl.Mem) { m.Disk.Bits.Blocks[p-1] = true }, dirtyToo(0))
}

// grown is a change in which a pointer of an inode has a new block.
func grown(i, ptr, p int, b impl.Block) memDo {
	return all(blockTaken(p), blockIs(p, b), func(m *impl.Mem) { m.Disk.Inodes[i-1].Ptrs[ptr] = p }, dirtyToo((i+1)/2, 4+p), leans(allocOf(i, ptr, p)))
}

// named is a change in which a name is put.
func named(block, place int, name string, i int) memDo {
	return all(slotIs(block, place, slot(name, i)), dirtyToo(0, (i+1)/2, 4+block), leans(addIn(block, place, i)))
}

// made is a change in which a node of this inode and name is made.
func made(kind, block, place int, name string, i int) memDo {
	return all(inoTaken(i), inodeIs(i, kind, 1, 0, 0), named(block, place, name, i))
}

func unnamed(block, place int) memDo {
	return all(slotIs(block, place, slot("", 0)), dirtyToo(4+block))
}

// lost is a change in which an inode that has these blocks is gone.
func lost(i int, blocks ...int) memDo { return goneWith(i, blocks) }

func TestNodesAreMade(t *testing.T) {
	for _, kind := range []int{impl.KindFile, impl.KindDir} {
		m := callMem()
		wantCall(t, "in the root", m, askMake("/n", kind), made(kind, 1, 2, "n", 7))
		wantCall(t, "in the root, a long name", m, askMake("/abc019", kind), made(kind, 1, 2, "abc019", 7))
		wantCall(t, "in a free slot ahead of used ones", m, askMake("/d/n", kind), made(kind, 2, 0, "n", 7))
		wantCall(t, "a name that another directory has", m, askMake("/d/f", kind), made(kind, 2, 0, "f", 7))
		wantCall(t, "its directory's name", m, askMake("/d/d", kind), made(kind, 2, 0, "d", 7))
		wantCall(t, "in a directory within a directory", m, askMake("/d/e/n", kind), grown(5, 0, 5, filled()), made(kind, 5, 0, "n", 7))
		wantCall(t, "an inode that was something", changedCall(inodeIs(7, 1, 9, 3, 4)), askMake("/n", kind), made(kind, 1, 2, "n", 7))
		wantCall(t, "the last inode", changedCall(inoTaken(7)), askMake("/n", kind), made(kind, 1, 2, "n", 8))
		wantCall(t, "an inode between used ones", changedCall(func(m *impl.Mem) { m.Disk.Bits.Inos[5] = false; m.Disk.Blocks[1].Slots[3] = slot("", 0) }), askMake("/n", kind), made(kind, 1, 2, "n", 6))
		wantCall(t, "with all dirty", changedCall(allDirty), askMake("/d/e/n", kind), grown(5, 0, 5, filled()), made(kind, 5, 0, "n", 7))
	}
	m := impl.MemNew(impl.DiskNew())
	wantCall(t, "on a new disk", m, askMake("/a", impl.KindFile), grown(1, 0, 1, filled()), made(1, 1, 0, "a", 2))
}

// A slot is free when it is empty and no DepAdd, DepShown or DepRem has it.
func TestSlotsThatAreFree(t *testing.T) {
	for _, rem := range []impl.Dep{remIn(2, 0, "x", 6, 0), remIn(2, 0, "x", 6, 59), remIn(2, 0, "e", 1, 0)} {
		wantCall(t, "a slot that a Dep has", changedCall(puts(rem)), askMake("/d/n", 1), made(1, 2, 2, "n", 7))
		both := changedCall(puts(rem, remIn(2, 2, "y", 6, 0)))
		wantCall(t, "both slots that Deps have", both, askMake("/d/n", 2), grown(2, 1, 5, filled()), made(2, 5, 0, "n", 7))
	}
	for _, other := range []impl.Dep{
		allocOf(2, 0, 2), seenOf(2, 0, 2), freeOf(6, 2), {Kind: impl.DepFree, Ino: 6, Block: 2}, remIn(1, 0, "x", 6, 0), addIn(1, 0, 2), remIn(2, 1, "x", 6, 0),
	} {
		wantCall(t, "a slot that no Dep of a name has", changedCall(puts(other)), askMake("/d/n", 1), made(1, 2, 0, "n", 7))
	}
	for place := range 4 {
		names := []impl.Slot{slot("p", 6), slot("q", 6), slot("r", 6), slot("s", 6)}
		names[place] = slot("", 0)
		wantCall(t, "the one that is free", changedCall(blockIs(2, dirBlock(names...))), askMake("/d/n", 1), made(1, 2, place, "n", 7))
		second := changedCall(rootFuller, slotIs(9, place, slot("", 0)))
		wantCall(t, "the one that is free in the second block", second, askMake("/n", 1), made(1, 9, place, "n", 7))
	}
	wantCall(t, "in both blocks", changedCall(inodeIs(2, 2, 1, 2, 9), blockIs(9, filled())), askMake("/d/n", 1), made(1, 2, 0, "n", 7))
	wantCall(t, "without a first block", changedCall(inodeIs(2, 2, 1, 0, 2)), askMake("/d/n", 1), made(1, 2, 0, "n", 7))
	wantCall(t, "without a free block, which is not asked for", changedCall(noBlockFree), askMake("/d/n", 1), made(1, 2, 0, "n", 7))
}

func TestDirectoriesGrow(t *testing.T) {
	wantCall(t, "at the second pointer", changedCall(rootFull), askMake("/n", 2), grown(1, 1, 5, filled()), made(2, 5, 0, "n", 7))
	first := changedCall(rootFull, inodeIs(1, 2, 1, 0, 1))
	wantCall(t, "at the first pointer", first, askMake("/n", 1), grown(1, 0, 5, filled()), made(1, 5, 0, "n", 7))
	wantCall(t, "the first block that is free", changedCall(rootFull, blockTaken(5), blockTaken(6)), askMake("/n", 1), grown(1, 1, 7, filled()), made(1, 7, 0, "n", 7))
	stale := changedCall(rootFull, func(m *impl.Mem) { m.Disk.Blocks[4] = textBlock("stale") })
	wantCall(t, "a block that had text", stale, askMake("/n", 1), grown(1, 1, 5, filled()), made(1, 5, 0, "n", 7))
	text := changedCall(inodeIs(2, 2, 1, 3, 0))
	wantCall(t, "beside a block of text", text, askMake("/d/n", 1), grown(2, 1, 5, filled()), made(1, 5, 0, "n", 7))
	last := changedCall(rootFull, noBlockFree, func(m *impl.Mem) { m.Disk.Bits.Blocks[15] = false })
	wantCall(t, "the last block", last, askMake("/n", 1), grown(1, 1, 16, filled()), made(1, 16, 0, "n", 7))
	wantCode(t, "no block free", changedCall(rootFull, noBlockFree), askMake("/n", 1), impl.CodeFull)
	wantCode(t, "no block free for a first one", changedCall(noBlockFree), askMake("/d/e/n", 1), impl.CodeFull)
	wantCode(t, "both blocks full", changedCall(rootFuller), askMake("/n", 1), impl.CodeFull)
	wantCode(t, "slots that Deps have in both", changedCall(rootFuller, slotIs(9, 3, slot("", 0)), puts(remIn(9, 3, "m", 6, 0))), askMake("/n", 1), impl.CodeFull)
	wantCode(t, "two blocks of text", changedCall(inodeIs(2, 2, 1, 3, 4)), askMake("/d/n", 1), impl.CodeFull)
}

// A row is a call that has this code, of callMem with this change.
type row struct {
	name string
	do   memDo
	ask  asked
	code int
}

func wantRows(t *testing.T, rows []row) {
	t.Helper()
	for _, r := range rows {
		m := changedCall(r.do)
		if right := impl.MemOk(m); right == strings.Contains(r.name, "not right") {
			t.Fatalf("%s: right is %v: %v", r.name, right, m)
		}
		if r.code != 0 {
			wantCode(t, r.name, m, r.ask, r.code)
		} else if _, code := checkCall(t, m, r.ask); code != 0 {
			t.Errorf("%s: %s is refused with %d", r.name, r.ask.name, code)
		}
	}
}

// notNamed are such that are no path with a name.
func notNamed() []string {
	return []string{"", "/", "n", "//", "/n/", "//n", "/N", "/n n", "/abcdefg", "/d/e/n/n/n", "d/n", "/d//n", "/é", "/n\x00", " /n", "\xff", "/" + strings.Repeat("n", 3000)}
}

func TestMakeIsRefused(t *testing.T) {
	wantRows(t, []row{
		{"not right", notRight, askMake("/n", 1), 6},
		{"there, a file", asItIs, askMake("/f", 1), 2},
		{"there, a directory", asItIs, askMake("/d", 1), 2},
		{"there, deeper", asItIs, askMake("/d/h", 2), 2},
		{"there, of no kind", slotIs(1, 2, slot("z", 8)), askMake("/z", 1), 2},
		{"no directory that it would be in", asItIs, askMake("/q/n", 1), 1},
		{"nor deeper", asItIs, askMake("/d/q/n", 1), 1},
		{"below what would be in a file", asItIs, askMake("/f/q/n", 1), 1},
		{"in a file", asItIs, askMake("/f/n", 1), 3},
		{"in a file within a directory", asItIs, askMake("/d/h/n", 2), 3},
		{"in what is of no kind", slotIs(1, 2, slot("z", 8)), askMake("/z/n", 1), 3},
		{"in a root of no kind", inodeIs(1, 0, 0, 0, 0), askMake("/n", 1), 3},
		{"a name that is still shown", puts(remIn(1, 2, "n", 6, 59)), askMake("/n", 1), 5},
		{"a name that is still shown in a slot that is used", puts(remIn(1, 0, "n", 6, 1)), askMake("/n", 2), 5},
		{"a name that is still shown in the second block", all(inodeIs(1, 2, 1, 1, 9), blockIs(9, filled()), puts(remIn(9, 3, "n", 6, 1))), askMake("/n", 2), 5},
		{"a name that is not shown any more", puts(remIn(1, 2, "n", 6, 0)), askMake("/n", 1), 0},
		{"another name that is still shown", puts(remIn(1, 2, "m", 6, 59)), askMake("/n", 1), 0},
		{"a name that is still shown in another directory", puts(remIn(2, 2, "n", 6, 59)), askMake("/n", 1), 0},
		{"what waits with that name, but is no DepRem", puts(impl.Dep{Kind: impl.DepFree, Ino: 6, Block: 1, Name: "n", After: 59}), askMake("/n", 1), 0},
		{"no inode free", noInoFree, askMake("/n", 1), 4},
		{"32 that lean", fills(32), askMake("/n", 1), 0},
		{"32 that lean, and a new block", fills(32), askMake("/d/e/n", 1), 0},
		{"33 that lean", fills(33), askMake("/n", 1), 4},
		{"40 that lean", fills(40), askMake("/n", 1), 4},
		{"a Next of 99000", nextIs(99000), askMake("/n", 1), 0},
		{"a Next of 99000, and a new block", nextIs(99000), askMake("/d/e/n", 1), 0},
		{"a Next of 99001", nextIs(99001), askMake("/n", 1), 4},
		{"a Next of 100000", nextIs(100000), askMake("/n", 1), 4},
		{"a Next of 100001 is not right", nextIs(100001), askMake("/n", 1), 6},
	})
	for _, p := range notNamed() {
		wantCode(t, "no path with a name", callMem(), askMake(p, 1), impl.CodeWrong)
		wantCode(t, "no path with a name", callMem(), askMake(p, 2), impl.CodeWrong)
	}
	for _, kind := range []int{0, 3, -1, 4, 257, 258, math.MinInt, math.MaxInt} {
		wantCode(t, "a kind that is none of both", callMem(), askMake("/n", kind), impl.CodeWrong)
	}
}

// Of several codes that apply the first counts.
func TestMakeIsRefusedInOrder(t *testing.T) {
	waits := puts(remIn(1, 2, "n", 6, 59), remIn(1, 2, "f", 6, 59))
	wantRows(t, []row{
		{"not right, and there", notRight, askMake("/f", 1), 6},
		{"not right, and of no directory", notRight, askMake("/q/n", 1), 6},
		{"not right, and in a file", notRight, askMake("/f/n", 1), 6},
		{"not right, and no room", all(fills(33), notRight), askMake("/n", 1), 6},
		{"not right, 41 that lean", fills(41), askMake("/n", 1), 6},
		{"no kind, and there", asItIs, askMake("/f", 0), 6},
		{"no kind, and of no directory", asItIs, askMake("/q/n", 3), 6},
		{"no kind, and in a file", asItIs, askMake("/f/n", 3), 6},
		{"no kind, still shown, no inode", all(waits, noInoFree), askMake("/n", 3), 6},
		{"there, still shown", waits, askMake("/f", 1), 2},
		{"there, no inode", noInoFree, askMake("/f", 1), 2},
		{"there, no slot", rootFuller, askMake("/f", 1), 2},
		{"there, no room", fills(33), askMake("/f", 1), 2},
		{"there, a Next of 99001", nextIs(99001), askMake("/f", 1), 2},
		{"of no directory, no inode", noInoFree, askMake("/q/n", 1), 1},
		{"of no directory, no room", fills(33), askMake("/q/n", 1), 1},
		{"of no directory, still shown elsewhere", waits, askMake("/q/n", 1), 1},
		{"in a file, no inode", noInoFree, askMake("/f/n", 1), 3},
		{"in a file, no room", nextIs(99001), askMake("/f/n", 1), 3},
		{"in a file, still shown in its block", all(inodeIs(3, 1, 1, 1, 0), waits), askMake("/f/n", 1), 3},
		{"still shown, no inode", all(waits, noInoFree), askMake("/n", 1), 5},
		{"still shown, no room", all(fills(33), waits), askMake("/n", 1), 5},
		{"still shown, no slot", all(rootFuller, waits), askMake("/n", 1), 5},
		{"still shown, a Next of 99001", all(waits, nextIs(99001)), askMake("/n", 1), 5},
		{"no inode, no slot, no room", all(noInoFree, rootFuller, fills(33)), askMake("/n", 1), 4},
	})
}

func TestTextsAreWritten(t *testing.T) {
	for _, s := range []string{"", "x", "head", "0123456789abcdef", "\x00\xff\n d"} {
		m := callMem()
		wantCall(t, "a block that is there", m, askWrite("/f", 0, s), blockIs(3, textBlock(s)), dirtyToo(7))
		wantCall(t, "a second block that is there", m, askWrite("/g", 1, s), blockIs(4, textBlock(s)), dirtyToo(8))
		wantCall(t, "a new second block", m, askWrite("/f", 1, s), grown(3, 1, 5, textBlock(s)))
		wantCall(t, "a new first block", m, askWrite("/g", 0, s), grown(4, 0, 5, textBlock(s)))
		wantCall(t, "within a directory", m, askWrite("/d/h", 1, s), grown(6, 1, 5, textBlock(s)))
		wantCall(t, "a block that still leans", changedCall(puts(allocOf(3, 0, 3))), askWrite("/f", 0, s), blockIs(3, textBlock(s)), dirtyToo(7))
		wantCall(t, "a block that may be shown", changedCall(puts(seenOf(3, 0, 3))), askWrite("/f", 0, s), blockIs(3, textBlock(s)), dirtyToo(7))
		wantCall(t, "a block of names", changedCall(inodeIs(3, 1, 1, 9, 0), blockIs(9, filled(slot("x", 1)))), askWrite("/f", 0, s), blockIs(9, textBlock(s)), dirtyToo(13))
		wantCall(t, "a root that is a file", changedCall(inodeIs(1, 1, 1, 3, 0)), askWrite("/", 0, s), blockIs(3, textBlock(s)), dirtyToo(7))
	}
	wantCall(t, "a block between used ones", changedCall(blockTaken(6), blockTaken(5), func(m *impl.Mem) { m.Disk.Bits.Blocks[4] = false }), askWrite("/f", 1, "x"), grown(3, 1, 5, textBlock("x")))
	m := wantCall(t, "one", callMem(), askWrite("/d/h", 0, "one"), grown(6, 0, 5, textBlock("one")))
	m = wantCall(t, "two", m, askWrite("/d/h", 1, "two"), grown(6, 1, 6, textBlock("two")))
	wantCall(t, "one again", m, askWrite("/d/h", 0, "1"), blockIs(5, textBlock("1")), dirtyToo(9))
}

func TestWriteIsRefused(t *testing.T) {
	full := all(noBlockFree, fills(33), nextIs(99001))
	wantRows(t, []row{
		{"not right", notRight, askWrite("/f", 0, "x"), 6},
		{"not there", asItIs, askWrite("/n", 0, "x"), 1},
		{"of no directory", asItIs, askWrite("/q/n", 0, "x"), 1},
		{"in a file", asItIs, askWrite("/f/n", 0, "x"), 1},
		{"a directory", asItIs, askWrite("/d", 0, "x"), 3},
		{"a directory without blocks", asItIs, askWrite("/d/e", 0, "x"), 3},
		{"the root", asItIs, askWrite("/", 0, "x"), 3},
		{"of no kind", slotIs(1, 2, slot("z", 8)), askWrite("/z", 0, "x"), 3},
		{"no block free, for a new one", noBlockFree, askWrite("/f", 1, "x"), 4},
		{"no block free, for one that is there", noBlockFree, askWrite("/f", 0, "x"), 0},
		{"32 that lean, a new one", fills(32), askWrite("/f", 1, "x"), 0},
		{"33 that lean, a new one", fills(33), askWrite("/f", 1, "x"), 4},
		{"33 that lean, one that is there", fills(33), askWrite("/f", 0, "x"), 0},
		{"40 that lean, one that is there", fills(40), askWrite("/g", 1, "x"), 0},
		{"a Next of 99000, a new one", nextIs(99000), askWrite("/f", 1, "x"), 0},
		{"a Next of 99001, a new one", nextIs(99001), askWrite("/f", 1, "x"), 4},
		{"a Next of 99001, one that is there", nextIs(99001), askWrite("/f", 0, "x"), 0},
		{"a Next of 100000, one that is there", nextIs(100000), askWrite("/f", 0, "x"), 0},
		{"nothing free, one that is there", full, askWrite("/f", 0, "x"), 0},
		{"not right, not there", notRight, askWrite("/n", 0, "x"), 6},
		{"not right, a directory", notRight, askWrite("/d", 0, "x"), 6},
		{"a long text, not there", asItIs, askWrite("/n", 0, strings.Repeat("x", 17)), 6},
		{"a long text, a directory", asItIs, askWrite("/d", 0, strings.Repeat("x", 17)), 6},
		{"a long text, nothing free", full, askWrite("/f", 1, strings.Repeat("x", 17)), 6},
		{"no such block, not there", asItIs, askWrite("/n", 2, "x"), 6},
		{"no such block, a directory", asItIs, askWrite("/d", -1, "x"), 6},
		{"no such block, nothing free", full, askWrite("/f", 2, "x"), 6},
		{"not there, nothing free", full, askWrite("/n", 0, "x"), 1},
		{"a directory, nothing free", full, askWrite("/d", 1, "x"), 3},
	})
	for _, k := range []int{-1, -2, 2, 3, 256, 257, math.MinInt, math.MaxInt} {
		wantCode(t, "no such block", callMem(), askWrite("/f", k, "x"), impl.CodeWrong)
	}
	for _, n := range []int{17, 18, 60, 272, 100000} {
		wantCode(t, "a long text", callMem(), askWrite("/f", 0, strings.Repeat("x", n)), impl.CodeWrong)
	}
	for _, p := range notNamed() {
		want := impl.CodeWrong
		if p == "/" {
			want = impl.CodeKind
		}
		wantCode(t, "no path", callMem(), askWrite(p, 0, "x"), want)
	}
}

// A name that is on the disk: its link goes later.
func TestNodesAreRemoved(t *testing.T) {
	m := callMem()
	wantCall(t, "a file", m, askRemove("/f"), unnamed(1, 1), leans(remIn(1, 1, "f", 3, 0)))
	wantCall(t, "the last one of its block", m, askRemove("/g"), unnamed(1, 3), leans(remIn(1, 3, "g", 4, 0)))
	wantCall(t, "a file within a directory", m, askRemove("/d/h"), unnamed(2, 3), leans(remIn(2, 3, "h", 6, 0)))
	wantCall(t, "a directory without blocks", m, askRemove("/d/e"), unnamed(2, 1), leans(remIn(2, 1, "e", 5, 0)))
	empty := changedCall(inodeIs(5, 2, 1, 9, 10), blockIs(9, filled()), blockIs(10, filled()))
	wantCall(t, "a directory without names", empty, askRemove("/d/e"), unnamed(2, 1), leans(remIn(2, 1, "e", 5, 0)))
	text := changedCall(inodeIs(5, 2, 1, 3, 0))
	wantCall(t, "a directory with a block of text", text, askRemove("/d/e"), unnamed(2, 1), leans(remIn(2, 1, "e", 5, 0)))
	wantCall(t, "what is of no kind", changedCall(slotIs(1, 2, slot("z", 8))), askRemove("/z"), unnamed(1, 2), leans(remIn(1, 2, "z", 8, 0)))
	wantCall(t, "a file of 200 links", changedCall(inodeIs(3, 1, 200, 3, 0)), askRemove("/f"), unnamed(1, 1), leans(remIn(1, 1, "f", 3, 0)))
	second := changedCall(rootFuller)
	wantCall(t, "in the second block", second, askRemove("/l"), unnamed(9, 2), leans(remIn(9, 2, "l", 6, 0)))
	twice := changedCall(inodeIs(1, 2, 1, 1, 9), blockIs(9, filled(slot("f", 4))))
	got := wantCall(t, "of both blocks the first", twice, askRemove("/f"), unnamed(1, 1), leans(remIn(1, 1, "f", 3, 0)))
	wantCall(t, "then the second", got, askRemove("/f"), unnamed(9, 0), leans(remIn(9, 0, "f", 4, 0)))
	others := puts(addIn(1, 3, 4), shownIn(1, 0, 2), allocOf(3, 0, 3), freeOf(3, 1), remIn(1, 1, "x", 3, 0), remIn(2, 1, "f", 3, 0), impl.Dep{Kind: impl.DepFree, Ino: 3, Block: 1, Slot: 1, After: 5})
	wantCall(t, "a name that others lean beside", changedCall(others), askRemove("/f"), unnamed(1, 1), leans(remIn(1, 1, "f", 3, 0)))
}

// A name that is not on the disk: its link goes at once, and what waited for it waits no more.
func TestNewNodesAreRemoved(t *testing.T) {
	for _, kind := range []int{impl.DepAdd, impl.DepShown} {
		f, h, e := ofKind(kind, addIn(1, 1, 3)), ofKind(kind, addIn(2, 3, 6)), ofKind(kind, addIn(2, 1, 5))
		wantCall(t, "a file", changedCall(puts(f)), askRemove("/f"), unnamed(1, 1), dropped(1), lost(3, 3))
		wantCall(t, "a file without blocks", changedCall(puts(h)), askRemove("/d/h"), unnamed(2, 3), dropped(1), lost(6))
		wantCall(t, "a directory", changedCall(puts(e)), askRemove("/d/e"), unnamed(2, 1), dropped(1), lost(5))
		grew := changedCall(inodeIs(5, 2, 1, 9, 10), blockIs(9, filled()), blockIs(10, filled()), puts(e, allocOf(5, 0, 9), seenOf(5, 1, 10), remIn(9, 2, "x", 6, 0)))
		wantCall(t, "a directory that grew", grew, askRemove("/d/e"), unnamed(2, 1), dropped(1, 2, 3), lost(5, 9, 10))
		wantCall(t, "a file of two links", changedCall(inodeIs(3, 1, 2, 3, 0), puts(f)), askRemove("/f"), unnamed(1, 1), dropped(1), linksAre(3, 1))
		wantCall(t, "a file of no link", changedCall(inodeIs(3, 1, 0, 3, 0), puts(f)), askRemove("/f"), unnamed(1, 1), dropped(1), lost(3, 3))
		wantCall(t, "with its pointers", changedCall(puts(allocOf(3, 0, 3), f, seenOf(4, 1, 4))), askRemove("/f"), unnamed(1, 1), dropped(1, 2), lost(3, 3))
		both := changedCall(allDirty, puts(withFlags(true, true, f)))
		wantCall(t, "whatever flags it has", both, askRemove("/f"), unnamed(1, 1), dropped(1), lost(3, 3))
		waits := changedCall(inodeIs(3, 1, 3, 3, 0), puts(remIn(2, 0, "x", 3, 2), f, remIn(1, 2, "y", 3, 2), remIn(2, 2, "z", 3, 1), impl.Dep{Kind: impl.DepFree, Ino: 8, After: 2}))
		wantCall(t, "that others wait for", waits, askRemove("/f"), unnamed(1, 1), dropped(2), afterIs0(6, 1), afterIs0(5, 3), afterIs0(5, 5), linksAre(3, 2))
		far := changedCall(inodeIs(3, 1, 3, 3, 0), blockIs(12, filled()), puts(f, remIn(12, 2, "y", 3, 1)))
		wantCall(t, "that one in another block waits for", far, askRemove("/f"), unnamed(1, 1), dropped(1), afterIs0(16, 2), linksAre(3, 2))
		behind := changedCall(puts(remIn(1, 1, "x", 6, 0), f))
		wantCall(t, "behind one that is gone from its slot", behind, askRemove("/f"), unnamed(1, 1), dropped(2), lost(3, 3))
		two := changedCall(inodeIs(3, 1, 3, 3, 0), puts(f, ofKind(5-kind, f), remIn(2, 0, "x", 3, 1), remIn(2, 2, "y", 3, 2)))
		wantCall(t, "with both", two, askRemove("/f"), unnamed(1, 1), dropped(1, 2), afterIs0(6, 3, 4), linksAre(3, 2))
	}
}

func TestRemoveIsRefused(t *testing.T) {
	waits := func(block int) memDo {
		return all(inodeIs(5, 2, 1, 9, 10), blockIs(9, filled()), blockIs(10, filled()), puts(remIn(block, 2, "x", 6, 59)))
	}
	wantRows(t, []row{
		{"not right", notRight, askRemove("/f"), 6},
		{"not there", asItIs, askRemove("/n"), 1},
		{"of no directory", asItIs, askRemove("/q/n"), 1},
		{"in a file", asItIs, askRemove("/f/n"), 1},
		{"in a directory without blocks", asItIs, askRemove("/d/e/n"), 1},
		{"a directory with names", asItIs, askRemove("/d"), 5},
		{"a directory with one name", all(slotIs(2, 1, slot("", 0))), askRemove("/d"), 5},
		{"a directory with a name in its second block", all(inodeIs(5, 2, 1, 9, 10), blockIs(9, filled()), blockIs(10, dirBlock(slot("", 0), slot("", 0), slot("", 0), slot("x", 6)))), askRemove("/d/e"), 5},
		{"a name that is still shown in its first block", waits(9), askRemove("/d/e"), 5},
		{"a name that is still shown in its second block", waits(10), askRemove("/d/e"), 5},
		{"a name that is still shown in another directory", waits(2), askRemove("/d/e"), 0},
		{"a name that is not shown any more", all(inodeIs(5, 2, 1, 9, 0), blockIs(9, filled()), puts(remIn(9, 2, "x", 6, 0))), askRemove("/d/e"), 0},
		{"what waits, but is no DepRem", all(inodeIs(5, 2, 1, 9, 0), blockIs(9, filled()), puts(impl.Dep{Kind: impl.DepFree, Ino: 8, Block: 9, After: 59})), askRemove("/d/e"), 0},
		{"a file with a block that has a name that is still shown", all(inodeIs(3, 1, 1, 9, 0), blockIs(9, filled(slot("x", 1))), puts(remIn(9, 2, "y", 6, 59))), askRemove("/f"), 0},
		{"32 that lean", fills(32), askRemove("/f"), 0},
		{"33 that lean", fills(33), askRemove("/f"), 5},
		{"33 that lean, its own among them", all(puts(addIn(1, 1, 3)), fills(32)), askRemove("/f"), 5},
		{"32 that lean, its own among them", all(puts(addIn(1, 1, 3)), fills(31)), askRemove("/f"), 0},
		{"a Next of 99000", nextIs(99000), askRemove("/f"), 0},
		{"a Next of 99001", nextIs(99001), askRemove("/f"), 5},
		{"a Next of 99001, of its own", all(puts(shownIn(1, 1, 3)), nextIs(99001)), askRemove("/f"), 5},
		{"not right, not there", notRight, askRemove("/n"), 6},
		{"not right, a directory with names", notRight, askRemove("/d"), 6},
		{"not right, 41 that lean", fills(41), askRemove("/f"), 6},
		{"not there, no room", fills(33), askRemove("/n"), 1},
		{"a directory with names, no room", fills(33), askRemove("/d"), 5},
		{"nothing free", all(noInoFree, noBlockFree), askRemove("/f"), 0},
	})
	for _, p := range notNamed() {
		wantCode(t, "no path with a name", callMem(), askRemove(p), impl.CodeWrong)
		wantCode(t, "no path with a name, no room", changedCall(fills(33)), askRemove(p), impl.CodeWrong)
	}
}

// linked is a change in which the inode has one link more.
func linked(i, links int) memDo { return linksAre(i, links+1) }

// A name that is on the disk: the old one is shown until the new one is.
func TestFilesAreMoved(t *testing.T) {
	m := callMem()
	rem := func(after int) memDo { return leans(remIn(1, 1, "f", 3, after)) }
	wantCall(t, "within a directory", m, askMove("/f", "/n"), linked(3, 1), named(1, 2, "n", 3), unnamed(1, 1), rem(60))
	wantCall(t, "to another one", m, askMove("/f", "/d/n"), linked(3, 1), named(2, 0, "n", 3), unnamed(1, 1), rem(60))
	wantCall(t, "under its name", m, askMove("/f", "/d/f"), linked(3, 1), named(2, 0, "f", 3), unnamed(1, 1), rem(60))
	wantCall(t, "to one that grows", m, askMove("/f", "/d/e/n"), linked(3, 1), grown(5, 0, 5, filled()), named(5, 0, "n", 3), unnamed(1, 1), rem(61))
	wantCall(t, "to a root that grows", changedCall(rootFull), askMove("/f", "/n"), linked(3, 1), grown(1, 1, 5, filled()), named(5, 0, "n", 3), unnamed(1, 1), rem(61))
	wantCall(t, "out of a directory", m, askMove("/d/h", "/n"), linked(6, 1), named(1, 2, "n", 6), unnamed(2, 3), leans(remIn(2, 3, "h", 6, 60)))
	wantCall(t, "199 links", changedCall(inodeIs(3, 1, 199, 3, 0)), askMove("/f", "/n"), linked(3, 199), named(1, 2, "n", 3), unnamed(1, 1), rem(60))
	wantCall(t, "no link", changedCall(inodeIs(3, 1, 0, 3, 0)), askMove("/f", "/n"), linked(3, 0), named(1, 2, "n", 3), unnamed(1, 1), rem(60))
	wantCall(t, "without a free inode", changedCall(noInoFree), askMove("/f", "/n"), linked(3, 1), named(1, 2, "n", 3), unnamed(1, 1), rem(60))
	gone := changedCall(puts(remIn(1, 2, "n", 6, 0)))
	wantCall(t, "to a name that is gone", gone, askMove("/f", "/d/n"), linked(3, 1), named(2, 0, "n", 3), unnamed(1, 1), rem(60))
	wantCall(t, "past a slot that a Dep has", changedCall(puts(remIn(2, 0, "n", 6, 0))), askMove("/f", "/d/n"), linked(3, 1), named(2, 2, "n", 3), unnamed(1, 1), rem(60))
	leaning := changedCall(puts(allocOf(3, 0, 3), shownIn(1, 3, 4), remIn(1, 1, "x", 3, 0)))
	wantCall(t, "while others lean", leaning, askMove("/f", "/n"), linked(3, 1), named(1, 2, "n", 3), unnamed(1, 1), rem(60))
}

// A name that is not on the disk: its link goes at once, and what waited for it waits for the new one.
func TestNewFilesAreMoved(t *testing.T) {
	afterIs := func(after, unit int, ids ...int) memDo {
		return func(m *impl.Mem) {
			for k := range m.Deps {
				if slices.Contains(ids, m.Deps[k].Id) {
					m.Deps[k].After = after
				}
			}
			m.Dirty[unit] = true
		}
	}
	for _, kind := range []int{impl.DepAdd, impl.DepShown} {
		f, h := ofKind(kind, addIn(1, 1, 3)), ofKind(kind, addIn(2, 3, 6))
		wantCall(t, "within a directory", changedCall(puts(f)), askMove("/f", "/n"), named(1, 2, "n", 3), unnamed(1, 1), dropped(1))
		wantCall(t, "to another one", changedCall(puts(f)), askMove("/f", "/d/n"), named(2, 0, "n", 3), unnamed(1, 1), dropped(1))
		wantCall(t, "to one that grows", changedCall(puts(f)), askMove("/f", "/d/e/n"), grown(5, 0, 5, filled()), named(5, 0, "n", 3), unnamed(1, 1), dropped(1))
		wantCall(t, "out of a directory", changedCall(puts(h)), askMove("/d/h", "/n"), named(1, 2, "n", 6), unnamed(2, 3), dropped(1))
		wantCall(t, "199 links", changedCall(inodeIs(3, 1, 199, 3, 0), puts(f)), askMove("/f", "/n"), named(1, 2, "n", 3), unnamed(1, 1), dropped(1))
		wantCall(t, "its pointers stay", changedCall(puts(allocOf(3, 0, 3), f)), askMove("/f", "/n"), named(1, 2, "n", 3), unnamed(1, 1), dropped(2))
		wantCall(t, "out of a directory that is new", changedCall(puts(addIn(1, 0, 2), h)), askMove("/d/h", "/n"), named(1, 2, "n", 6), unnamed(2, 3), dropped(2))
		waits := changedCall(inodeIs(3, 1, 3, 3, 0), puts(remIn(2, 0, "x", 3, 2), f, remIn(1, 0, "y", 3, 2), remIn(2, 2, "z", 3, 1)))
		wantCall(t, "that others wait for", waits, askMove("/f", "/n"), named(1, 2, "n", 3), unnamed(1, 1), dropped(2), afterIs(60, 6, 1), afterIs(60, 5, 3))
		grows := changedCall(inodeIs(3, 1, 3, 3, 0), puts(f, remIn(2, 0, "x", 3, 1)))
		wantCall(t, "that one waits for, to one that grows", grows, askMove("/f", "/d/e/n"), grown(5, 0, 5, filled()), named(5, 0, "n", 3), unnamed(1, 1), dropped(1), afterIs(61, 6, 2))
	}
}

// Moved twice, a file has its old name on the disk until the newest one is there.
func TestFilesAreMovedOnAndOn(t *testing.T) {
	m, _ := checkCall(t, callMem(), askMove("/f", "/n"))
	m, _ = checkCall(t, m, askMove("/n", "/d/o"))
	want := []impl.Dep{withId(61, remIn(1, 1, "f", 3, 62)), withId(62, addIn(2, 0, 3))}
	if !slices.EqualFunc(m.Deps, want, sameDep) || m.Disk.Inodes[2].Links != 2 {
		t.Errorf("moved twice %v leans, with %d links", m.Deps, m.Disk.Inodes[2].Links)
	}
	wantCode(t, "back to where it is still shown", m, askMove("/d/o", "/f"), impl.CodeBusy)
	wantCode(t, "another one there", m, askMake("/f", 1), impl.CodeBusy)
	wantCode(t, "another one moved there", m, askMove("/g", "/f"), impl.CodeBusy)
	m, code := checkCall(t, m, askRemove("/d/o"))
	want = []impl.Dep{withId(61, remIn(1, 1, "f", 3, 0))}
	if code != 0 || !slices.EqualFunc(m.Deps, want, sameDep) || m.Disk.Inodes[2].Links != 1 {
		t.Errorf("removed then (%d) %v leans, with %d links", code, m.Deps, m.Disk.Inodes[2].Links)
	}
	if _, code := checkCall(t, m, askMake("/f", 2)); code != 0 {
		t.Errorf("another one under its name is refused with %d", code)
	}
}

func TestMoveIsRefused(t *testing.T) {
	waits := puts(remIn(1, 2, "n", 6, 59))
	links := inodeIs(3, 1, 200, 3, 0)
	second := all(inodeIs(1, 2, 1, 1, 9), blockIs(9, filled()), puts(remIn(9, 0, "n", 6, 59)))
	wantRows(t, []row{
		{"not right", notRight, askMove("/f", "/n"), 6},
		{"from what is not there", asItIs, askMove("/q", "/n"), 1},
		{"from what is in no directory", asItIs, askMove("/q/f", "/n"), 1},
		{"into what is not there", asItIs, askMove("/f", "/q/n"), 1},
		{"neither is there", asItIs, askMove("/q", "/q/n"), 1},
		{"a directory", asItIs, askMove("/d/e", "/n"), 3},
		{"what is of no kind", slotIs(1, 2, slot("z", 8)), askMove("/z", "/d/n"), 3},
		{"into a file", asItIs, askMove("/f", "/g/n"), 3},
		{"into itself", asItIs, askMove("/f", "/f/n"), 3},
		{"into what is of no kind", slotIs(1, 2, slot("z", 8)), askMove("/f", "/z/n"), 3},
		{"to a file", asItIs, askMove("/f", "/g"), 2},
		{"to a directory", asItIs, askMove("/f", "/d"), 2},
		{"to itself", asItIs, askMove("/f", "/f"), 2},
		{"to what is of no kind", slotIs(1, 2, slot("z", 8)), askMove("/f", "/z"), 2},
		{"to a name that is still shown", waits, askMove("/f", "/n"), 5},
		{"to a name that is still shown in the second block", second, askMove("/f", "/n"), 5},
		{"to a name that is still shown in another directory", waits, askMove("/f", "/d/n"), 0},
		{"below a directory that has a DepAdd", puts(addIn(1, 0, 2)), askMove("/f", "/d/n"), 5},
		{"below a directory that has a DepShown", puts(shownIn(1, 0, 2)), askMove("/f", "/d/n"), 5},
		{"deeper below one that has a DepAdd", puts(addIn(1, 0, 2)), askMove("/f", "/d/e/n"), 5},
		{"deeper below one that has a DepShown", puts(shownIn(1, 0, 2)), askMove("/f", "/d/e/n"), 5},
		{"below a second one that has a DepAdd", puts(addIn(2, 1, 5)), askMove("/f", "/d/e/n"), 5},
		{"below a second one that has a DepShown", puts(shownIn(2, 1, 5)), askMove("/f", "/d/e/n"), 5},
		{"within a directory that has a DepAdd", puts(addIn(1, 0, 2)), askMove("/d/h", "/d/n"), 5},
		{"beside a directory that has a DepAdd", puts(addIn(2, 1, 5)), askMove("/f", "/d/n"), 0},
		{"out of a directory that has a DepShown", puts(shownIn(1, 0, 2)), askMove("/d/h", "/n"), 0},
		{"below a directory that has a DepRem", puts(remIn(1, 0, "x", 2, 59)), askMove("/f", "/d/n"), 0},
		{"below a directory whose pointer leans", puts(allocOf(2, 0, 2), seenOf(1, 0, 1)), askMove("/f", "/d/n"), 0},
		{"32 that lean", fills(32), askMove("/f", "/d/e/n"), 0},
		{"33 that lean", fills(33), askMove("/f", "/n"), 4},
		{"a Next of 99000", nextIs(99000), askMove("/f", "/d/e/n"), 0},
		{"a Next of 99001", nextIs(99001), askMove("/f", "/n"), 4},
		{"200 links", links, askMove("/f", "/n"), 5},
		{"200 links of another", links, askMove("/g", "/n"), 0},
		{"no slot", rootFuller, askMove("/d/h", "/n"), 4},
		{"no slot but its own", rootFuller, askMove("/f", "/n"), 4},
		{"no block free for one that grows", noBlockFree, askMove("/f", "/d/e/n"), 4},
		{"no block free", noBlockFree, askMove("/f", "/d/n"), 0},
		{"no inode free", noInoFree, askMove("/f", "/d/n"), 0},
	})
	for _, p := range notNamed() {
		wantCode(t, "from no path with a name", callMem(), askMove(p, "/n"), impl.CodeWrong)
		wantCode(t, "to no path with a name", callMem(), askMove("/f", p), impl.CodeWrong)
		wantCode(t, "from what is not there to no path with a name", callMem(), askMove("/q", p), impl.CodeWrong)
		wantCode(t, "from no path with a name into what is not there", callMem(), askMove(p, "/q/n"), impl.CodeWrong)
		wantCode(t, "both no paths", callMem(), askMove(p, p), impl.CodeWrong)
	}
}

// Of several codes that apply the first counts; CodeBusy and CodeFull each stand in two places.
func TestMoveIsRefusedInOrder(t *testing.T) {
	waits := puts(remIn(1, 2, "n", 6, 59), remIn(1, 2, "g", 6, 59))
	newDir := puts(addIn(1, 0, 2))
	links := inodeIs(3, 1, 200, 3, 0)
	full := all(slotIs(2, 0, slot("x", 6)), slotIs(2, 2, slot("y", 6)), noBlockFree)
	wantRows(t, []row{
		{"not right, not there", notRight, askMove("/q", "/n"), 6},
		{"not right, a directory", notRight, askMove("/d", "/g"), 6},
		{"not there, into a file", asItIs, askMove("/q", "/g/n"), 1},
		{"not there, to what is there", asItIs, askMove("/q", "/g"), 1},
		{"not there, no room", fills(33), askMove("/q", "/n"), 1},
		{"a directory, into what is not there", asItIs, askMove("/d", "/q/n"), 1},
		{"200 links, into what is not there", links, askMove("/f", "/q/n"), 1},
		{"a directory, to what is there", asItIs, askMove("/d", "/g"), 3},
		{"a directory, to itself", asItIs, askMove("/d", "/d"), 3},
		{"a directory, into itself", asItIs, askMove("/d", "/d/n"), 3},
		{"a directory, still shown", waits, askMove("/d", "/n"), 3},
		{"a directory, no room", fills(33), askMove("/d", "/n"), 3},
		{"into a file, no room", fills(33), askMove("/f", "/g/n"), 3},
		{"into a file, 200 links", links, askMove("/f", "/g/n"), 3},
		{"into a file of a new directory", newDir, askMove("/f", "/d/h/n"), 3},
		{"there, still shown", waits, askMove("/f", "/g"), 2},
		{"there, in a new directory", newDir, askMove("/f", "/d/h"), 2},
		{"there, no room", fills(33), askMove("/f", "/g"), 2},
		{"there, 200 links", links, askMove("/f", "/g"), 2},
		{"there, no slot", rootFuller, askMove("/f", "/g"), 2},
		{"still shown, no room", all(waits, fills(33)), askMove("/f", "/n"), 5},
		{"still shown, no slot", all(rootFuller, waits), askMove("/f", "/n"), 5},
		{"in a new directory, no room", all(newDir, fills(33)), askMove("/f", "/d/n"), 5},
		{"in a new directory, no slot", all(full, newDir), askMove("/f", "/d/n"), 5},
		{"in a new directory, a Next of 99001", all(newDir, nextIs(99001)), askMove("/f", "/d/n"), 5},
		{"no room, 200 links", all(links, fills(33)), askMove("/f", "/n"), 4},
		{"a Next of 99001, 200 links", all(links, nextIs(99001)), askMove("/f", "/n"), 4},
		{"no room, no slot", all(full, fills(33)), askMove("/f", "/d/n"), 4},
		{"200 links, no slot", all(links, full), askMove("/f", "/d/n"), 5},
		{"200 links, both blocks full", all(links, rootFuller), askMove("/f", "/n"), 5},
		{"no slot", full, askMove("/f", "/d/n"), 4},
	})
}

func TestTextsAreRead(t *testing.T) {
	both := inodeIs(3, 1, 1, 3, 4)
	long := all(both, blockIs(3, textBlock("0123456789abcdef")), blockIs(4, textBlock("ghijklmnopqrstuv")))
	for _, c := range []struct {
		name string
		do   memDo
		path string
		text string
		code int
	}{
		{"the first one", asItIs, "/f", "head", 0},
		{"the second one", asItIs, "/g", "tail", 0},
		{"none", asItIs, "/d/h", "", 0},
		{"both", both, "/f", "headtail", 0},
		{"both at their limit", long, "/f", "0123456789abcdefghijklmnopqrstuv", 0},
		{"one twice", inodeIs(3, 1, 1, 4, 4), "/f", "tailtail", 0},
		{"empty texts", all(both, blockIs(3, textBlock("")), blockIs(4, textBlock(""))), "/f", "", 0},
		{"blocks of names", inodeIs(3, 1, 1, 1, 2), "/f", "", 0},
		{"a pointer that leans", puts(allocOf(3, 0, 3), addIn(1, 1, 3)), "/f", "head", 0},
		{"a root that is a file", inodeIs(1, 1, 1, 3, 4), "/", "headtail", 0},
		{"a memory that is not right", notRight, "/f", "head", 0},
		{"a memory with too much that leans", fills(41), "/g", "tail", 0},
		{"a directory", asItIs, "/d", "", 3},
		{"a directory without names", asItIs, "/d/e", "", 3},
		{"the root", asItIs, "/", "", 3},
		{"a directory with text", inodeIs(2, 2, 1, 3, 4), "/d", "", 3},
		{"of no kind", slotIs(1, 2, slot("z", 8)), "/z", "", 3},
		{"not there", asItIs, "/n", "", 1},
		{"of no directory", asItIs, "/q/f", "", 1},
		{"in a file", asItIs, "/f/f", "", 1},
		{"no disk", func(m *impl.Mem) { *m = impl.Mem{} }, "/", "", 1},
		{"no inodes", func(m *impl.Mem) { m.Disk.Inodes = nil }, "/f", "", 1},
		{"too few inodes", func(m *impl.Mem) { m.Disk.Inodes = m.Disk.Inodes[:3] }, "/g", "", 1},
		{"no blocks", func(m *impl.Mem) { m.Disk.Blocks = m.Disk.Blocks[:2] }, "/f", "", 0},
	} {
		m := changedCall(c.do)
		if got, code := checkRead(t, m, c.path); got != c.text || code != c.code {
			t.Errorf("%s: ReadText %q = %q, %d, want %q, %d", c.name, c.path, got, code, c.text, c.code)
		}
	}
	for _, p := range notNamed() {
		if got, code := checkRead(t, callMem(), p); got != "" || p != "/" && code != impl.CodeNone {
			t.Errorf("ReadText of %.40q = %q, %d", p, got, code)
		}
	}
}

// someCalls are calls of all kinds, refused and not, of callMem and of others.
func someCalls() []asked {
	list := []asked{
		askMake("/n", 1), askMake("/d/n", 2), askMake("/d/e/n", 1), askMake("/d/e/n", 2), askMake("/f", 1), askMake("/n", 3), askMake("/q/n", 1), askMake("/f/n", 1), askMake("/", 1),
		askWrite("/f", 0, "new"), askWrite("/f", 1, "new"), askWrite("/d/h", 0, "0123456789abcdef"), askWrite("/f", 2, ""), askWrite("/d", 0, ""), askWrite("/n", 1, ""), askWrite("/", 0, "x"),
		askRemove("/f"), askRemove("/g"), askRemove("/d"), askRemove("/d/e"), askRemove("/d/h"), askRemove("/n"), askRemove("/"),
		askMove("/f", "/n"), askMove("/f", "/d/n"), askMove("/d/h", "/d/e/n"), askMove("/f", "/f"), askMove("/d", "/n"), askMove("/n", "/o"), askMove("/f", "/g/n"), askMove("/", "/"),
	}
	for _, p := range []string{"/a", "/b", "/a/last", "/a/abcdef", "/a/012345", "/abcdef", "/a/012345/x"} {
		list = append(list, askMake(p, 1), askMake(p+"/x", 2), askWrite(p, 0, "x"), askWrite(p, 1, "x"), askRemove(p), askMove(p, "/y"), askMove(p, "/a/y"), askMove("/b", p))
	}
	return list
}

// Memories that are not right have CodeWrong whatever is asked; right ones whatever else the document says.
func TestCallsOfSampleMemories(t *testing.T) {
	for _, m := range sampleMems() {
		right := impl.MemOk(m)
		for _, a := range someCalls() {
			if _, code := checkCall(t, m, a); !right && code != impl.CodeWrong {
				t.Errorf("%s of a memory that is not right has the code %d", a.name, code)
			}
		}
		for _, p := range []string{"/", "/a", "/b", "/a/last", "/a/abcdef/b", "b"} {
			checkRead(t, m, p)
		}
	}
	for _, d := range wrongDisks() {
		m := impl.Mem{Disk: d, Dirty: flags(21), Next: 1}
		for _, a := range []asked{askMake("/n", 1), askWrite("/b", 0, "x"), askRemove("/b"), askMove("/b", "/n")} {
			wantCode(t, "a disk that is not right", m, a, impl.CodeWrong)
		}
		checkRead(t, m, "/b")
		checkRead(t, m, "/a/last")
	}
	wantCode(t, "nothing", impl.Mem{}, askMake("/n", 1), impl.CodeWrong)
}

// A Next below 1 is right where nothing leans, and is not above 99000: nothing can be put then, and no code says so.
func TestCallsWithANextBelowOne(t *testing.T) {
	for _, next := range []int{0, -1, math.MinInt} {
		m := changedCall(nextIs(next))
		for _, a := range someCalls() {
			got, code := checkCall(t, m, a)
			if code == 0 && (len(got.Deps) != 0 || got.Next != next || !impl.MemOk(got)) {
				t.Errorf("with a Next of %d %s answers %v", next, a.name, got)
			}
		}
	}
}

// slowTree has a text for each path that names lead to: the inode, its kind and its texts.
func slowTree(d impl.Disk) map[string]string {
	tree := map[string]string{}
	var grow func(i int, path string, deep int)
	grow = func(i int, path string, deep int) {
		for _, name := range slowNames(d, i) {
			p := path + "/" + name
			if _, there := tree[p]; there || deep == 4 {
				continue
			}
			to := slowWalk(d, p)
			head, tail := slowTexts(d, to)
			tree[p] = impl.Decimal(to) + " " + impl.Decimal(d.Inodes[to-1].Kind) + " " + head + " " + tail
			grow(to, p, deep+1)
		}
	}
	grow(1, "", 0)
	return tree
}

// lived is a life of calls and writes: what the calls asked for stands beside it.
type lived struct {
	m     impl.Mem
	v     impl.Device
	tree  map[string]string
	codes map[string]int
}

func newLife() *lived {
	return &lived{impl.MemNew(impl.DiskNew()), slowDevice(impl.DiskNew()), map[string]string{}, map[string]int{}}
}

// do holds a call against the document; memory stays right, and tells what want makes of its tree.
func (l *lived) do(t *testing.T, kind string, a asked, want func(tree map[string]string, was, is impl.Disk)) {
	t.Helper()
	got, code := checkCall(t, l.m, a)
	l.codes[kind+" "+impl.Decimal(code)]++
	if code == 0 {
		want(l.tree, l.m.Disk, got.Disk)
	}
	if tree := slowTree(got.Disk); !maps.Equal(tree, l.tree) {
		t.Fatalf("%s (%d): the names lead to %q, want %q", a.name, code, tree, l.tree)
	}
	if !impl.MemOk(got) {
		t.Fatalf("%s (%d): memory is not right any more: %v", a.name, code, got)
	}
	l.m = got
}

func (l *lived) make(t *testing.T, p string, kind int) {
	t.Helper()
	l.do(t, "make", askMake(p, kind), func(tree map[string]string, was, is impl.Disk) {
		i := impl.WalkPath(is, p)
		if i == 0 || was.Bits.Inos[i-1] || !is.Bits.Inos[i-1] || impl.WalkPath(was, p) != 0 {
			t.Errorf("%s is made as inode %d", p, i)
		}
		tree[p] = impl.Decimal(i) + " " + impl.Decimal(kind) + "  "
	})
}

func (l *lived) write(t *testing.T, p string, k int, s string) {
	t.Helper()
	l.do(t, "write", askWrite(p, k, s), func(tree map[string]string, was, _ impl.Disk) {
		i := impl.WalkPath(was, p)
		texts := [2]string{}
		texts[0], texts[1] = impl.TextOf(was, i)
		texts[k] = s
		tree[p] = impl.Decimal(i) + " 1 " + texts[0] + " " + texts[1]
	})
}

func (l *lived) remove(t *testing.T, p string) {
	t.Helper()
	l.do(t, "remove", askRemove(p), func(tree map[string]string, _, _ impl.Disk) { delete(tree, p) })
}

func (l *lived) move(t *testing.T, p, q string) {
	t.Helper()
	l.do(t, "move", askMove(p, q), func(tree map[string]string, _, _ impl.Disk) {
		tree[q] = tree[p]
		delete(tree, p)
	})
}

// back writes a unit; what memory tells is not changed by it.
func (l *lived) back(t *testing.T, u int) {
	t.Helper()
	s, ok := impl.ImageUnit(l.m, u)
	if !ok {
		t.Fatalf("unit %d of %v has no text", u, l.m)
	}
	l.v.Units[u] = s
	l.m = impl.Done(l.m, u)
	if tree := slowTree(l.m.Disk); !maps.Equal(tree, l.tree) {
		t.Fatalf("when unit %d is written the names lead to %q, want %q", u, tree, l.tree)
	}
}

// settle writes what is dirty, in a drawn order, until nothing is; the disk tells then what was asked for, and nothing leans.
func (l *lived) settle(t *testing.T, draw func(int) int) {
	t.Helper()
	for range 400 {
		u := draw(21)
		for range 20 {
			if !l.m.Dirty[u] {
				u = (u + 1) % 21
			}
		}
		if !l.m.Dirty[u] {
			break
		}
		l.back(t, u)
	}
	told := slowDisk(l.v)
	if !impl.Settled(l.m) || !slowSameDisk(told, l.m.Disk) || !maps.Equal(slowTree(told), l.tree) {
		t.Fatalf("when all is written memory is %v, the disk tells %v, asked for was %q", l.m, told, l.tree)
	}
	for i, x := range l.m.Disk.Inodes {
		if used := l.m.Disk.Bits.Inos[i]; used != (x.Kind != 0) || used && x.Links != 1 {
			t.Fatalf("when all is written inode %d is %v, its bit %v", i+1, x, used)
		}
	}
}

func drawnPath(draw func(int) int) string {
	names := []string{"a", "b", "c", "d", "e", "f", "g", "h", "i", "j"}
	p := ""
	for range 1 + draw(2)*draw(3) {
		p += "/" + names[draw(1+draw(10))]
	}
	return p
}

func (l *lived) drawn(t *testing.T, draw func(int) int) {
	t.Helper()
	switch draw(9) {
	case 0, 1:
		l.make(t, drawnPath(draw), impl.KindFile)
	case 2:
		l.make(t, drawnPath(draw), impl.KindDir)
	case 3:
		l.write(t, drawnPath(draw), draw(2), strings.Repeat(impl.Decimal(draw(10)), draw(18)))
	case 4:
		l.remove(t, drawnPath(draw))
	case 5, 6:
		l.move(t, drawnPath(draw), drawnPath(draw))
	default:
		for range draw(4) {
			l.back(t, draw(21))
		}
	}
	checkRead(t, l.m, drawnPath(draw))
}

// The promise, over drawn lives: what is refused changes nothing, what is made is there, what is removed is not, what is moved is there alone.
func TestDrawnCalls(t *testing.T) {
	codes := map[string]int{}
	for seed := range 300 {
		draw := drawer(uint32(seed))
		l := newLife()
		often := 5 + draw(60)
		for range 120 {
			l.drawn(t, draw)
			if draw(often) == 0 {
				l.settle(t, draw)
			}
		}
		l.settle(t, draw)
		for c, n := range l.codes {
			codes[c] += n
		}
	}
	for _, c := range []string{
		"make 0", "make 1", "make 2", "make 3", "make 4", "make 5", "write 0", "write 1", "write 3", "write 6",
		"remove 0", "remove 1", "remove 5", "move 0", "move 1", "move 2", "move 3", "move 5",
	} {
		if codes[c] < 20 {
			t.Errorf("in drawn lives %q comes %d times", c, codes[c])
		}
	}
}

// drawnCallMem is a right memory that no life leads to; all that is had is told used, and more.
func drawnCallMem(draw func(n int) int) impl.Mem {
	m := impl.Mem{Disk: drawnPathDisk(draw, true), Dirty: flags(21), Next: 50 + draw(3)*49475}
	for k, x := range m.Disk.Inodes {
		m.Disk.Inodes[k].Links = []int{0, 1, 2, 199, 200}[draw(5)] * min(x.Kind, 1)
		m.Disk.Bits.Inos[k] = true
	}
	if draw(4) > 0 {
		m.Disk.Inodes[7] = inode(0, 0, 0, 0)
		m.Disk.Bits.Inos[7] = false
	}
	for p, b := range m.Disk.Blocks {
		m.Disk.Bits.Blocks[p] = p < 8 || draw(2) == 0
		for k, s := range b.Slots {
			if s.Ino == 8 {
				b.Slots[k].Ino = 7
			}
		}
	}
	many := 3 + draw(2)*34
	for range draw(many) {
		d := impl.Dep{Kind: 1 + draw(6), Ino: 1 + draw(7), Ptr: draw(2), Block: 1 + draw(8), Slot: draw(4), Bits: draw(2) == 0, Other: draw(2) == 0}
		switch d.Kind {
		case 1, 6:
			d.Block = m.Disk.Inodes[d.Ino-1].Ptrs[d.Ptr]
		case 2, 3:
			if b := m.Disk.Blocks[d.Block-1]; b.Dir {
				d.Ino = b.Slots[d.Slot].Ino
			}
		case 4:
			d.Name, d.After = []string{"a", "b", "c", "d", "n"}[draw(5)], draw(2)*draw(40)
		case 5:
			d.After, d.Blocks = draw(40), []int{1 + draw(16)}
		}
		d.Id = len(m.Deps) + 1
		one := impl.Mem{Disk: m.Disk, Dirty: m.Dirty, Deps: []impl.Dep{d}, Next: m.Next}
		if slowMemOk(one) {
			m.Deps = append(m.Deps, d)
		}
	}
	return m
}

// Calls of right memories as odd as they may be: names in both blocks, blocks that two have, names that several lean on.
func TestDrawnCallsOfOddMemories(t *testing.T) {
	draw := drawer(12)
	paths := append(pathsOf(2, "a", "b", "c", "n"), "/a/b/c", "/b/a/n", "/c/c/c/c", "/b/b/b/n", "")
	path := func() string { return paths[draw(len(paths))] }
	codes := map[int]int{}
	for range 3000 {
		m := drawnCallMem(draw)
		if !impl.MemOk(m) {
			t.Fatalf("a drawn memory is not right: %v", m)
		}
		for _, a := range []asked{
			askMake(path(), 1), askMake(path(), 2), askMake(path(), 1), askWrite(path(), draw(2), "new"), askWrite(path(), draw(2), ""),
			askRemove(path()), askRemove(path()), askRemove(path()), askMove(path(), path()), askMove(path(), path()), askMove(path(), path()),
		} {
			_, code := checkCall(t, m, a)
			codes[code]++
		}
		checkRead(t, m, path())
	}
	for code := range 7 {
		if codes[code] < 100 {
			t.Errorf("code %d comes %d times", code, codes[code])
		}
	}
}

// Bits that tell that what is had is free: whatever is answered then, what was handed in stays, and what is refused is as it is.
func TestCallsOfWrongBits(t *testing.T) {
	draw := drawer(13)
	paths := append(pathsOf(2, "a", "b", "c", "n"), "/a/b/c", "/c/c/c/c")
	for range 2000 {
		m := drawnCallMem(draw)
		for k := range m.Disk.Bits.Blocks {
			m.Disk.Bits.Blocks[k] = draw(3) == 0
			m.Disk.Bits.Inos[k%8] = draw(3) == 0
		}
		was := fromMem(m)
		p, q := paths[draw(len(paths))], paths[draw(len(paths))]
		for _, a := range []asked{askMake(p, 1), askMake(p, 2), askWrite(p, draw(2), "new"), askRemove(p), askMove(p, q)} {
			got, code := a.fast(m)
			_, want := a.slow(m)
			if code != want || code != 0 && !sameMem(got, was) || !sameMem(m, was) {
				t.Errorf("%s of %v answers %v, %d, want %d", a.name, was, got, code, want)
			}
		}
	}
}

// A life told step by step: each call, and each unit that is written between.
func TestACalledLife(t *testing.T) {
	draw := drawer(14)
	l := newLife()
	l.make(t, "/d", impl.KindDir)
	l.make(t, "/d/e", impl.KindDir)
	l.make(t, "/d/e/x", impl.KindDir)
	l.make(t, "/d/e/x/y", impl.KindFile)
	l.make(t, "/d/e/x/y/z", impl.KindFile)
	l.write(t, "/d/e/x/y", 1, "0123456789abcdef")
	l.move(t, "/d/e/x/y", "/y")
	l.settle(t, draw)
	if s, code := impl.ReadText(l.m, "/y"); s != "0123456789abcdef" || code != 0 {
		t.Errorf("what was moved reads %q, %d", s, code)
	}
	l.write(t, "/y", 0, "head")
	l.move(t, "/y", "/d/y")
	l.move(t, "/d/y", "/d/e/y")
	l.make(t, "/y", impl.KindFile)
	l.remove(t, "/d/e/x")
	l.settle(t, draw)
	if s, code := impl.ReadText(l.m, "/d/e/y"); s != "head0123456789abcdef" || code != 0 {
		t.Errorf("what was moved twice reads %q, %d", s, code)
	}
	l.make(t, "/y", impl.KindFile)
	l.remove(t, "/d/e/y")
	l.remove(t, "/d/e")
	l.remove(t, "/d")
	l.remove(t, "/y")
	l.settle(t, draw)
	if l.codes["make 6"] != 1 || l.codes["make 5"] != 1 || l.codes["remove 0"] != 5 || l.codes["move 0"] != 3 || len(l.tree) != 0 {
		t.Errorf("the life has the codes %v, and leaves %q", l.codes, l.tree)
	}
}

// Eight inodes, eight names of one directory, and all blocks: what is one too many is refused, and room that is freed is had again.
func TestCallsTillNothingIsFree(t *testing.T) {
	draw := drawer(15)
	l := newLife()
	for _, p := range []string{"/a", "/b", "/c", "/d", "/e", "/f", "/g", "/h"} {
		l.make(t, p, impl.KindFile)
		l.settle(t, draw)
	}
	if l.codes["make 0"] != 7 || l.codes["make 4"] != 1 {
		t.Errorf("eight files have the codes %v", l.codes)
	}
	for _, p := range []string{"/a", "/b", "/c", "/d", "/e", "/f", "/g"} {
		l.write(t, p, 0, "x")
		l.write(t, p, 1, "y")
		l.settle(t, draw)
	}
	// Seven files with two blocks each and the root with two have all sixteen.
	if l.codes["write 0"] != 14 || impl.FirstFree(l.m.Disk.Bits.Blocks) != 0 {
		t.Errorf("fourteen texts have the codes %v, and the bits %v", l.codes, l.m.Disk.Bits)
	}
	l.move(t, "/a", "/i")
	l.remove(t, "/b")
	l.make(t, "/b", impl.KindDir)
	l.settle(t, draw)
	l.make(t, "/b", impl.KindDir)
	l.make(t, "/b/a", impl.KindFile)
	l.settle(t, draw)
	if l.codes["make 4"] != 3 || l.codes["make 0"] != 8 || l.codes["move 0"] != 1 {
		t.Errorf("then the codes are %v", l.codes)
	}
}

// sharingCallMem is right, and its lists share memory with each other, with room behind them.
func sharingCallMem() impl.Mem {
	m := changedCall(puts(addIn(1, 1, 3), remIn(2, 0, "old", 3, 1), freeOf(8, 5), remIn(2, 2, "older", 6, 0)))
	numbers := []int{1, 0, 5, 77, 77}
	m.Disk.Inodes[0].Ptrs = numbers[:2]
	none := make([]int, 2, 7)
	m.Disk.Inodes[4].Ptrs, m.Disk.Inodes[5].Ptrs, m.Disk.Inodes[6].Ptrs, m.Disk.Inodes[7].Ptrs = none, none, none, none
	m.Deps[2].Blocks, m.Deps[3].Blocks = numbers[2:3], numbers[:1]
	used := []bool{true, true, true, true, true, true, false, false, false, false, false, false, false, false, false, false, false, false, false, false, false, true}
	m.Disk.Bits.Blocks, m.Disk.Bits.Inos, m.Dirty = used[:16], used[:8], used[:21]
	return m
}

// callTexts are calls with texts of their own, which no constant shares.
func callTexts() (list []asked, rooms []room, keep []string) {
	p, q, e, s := strings.Clone("/f"), strings.Clone("/d/n"), strings.Clone("/d/e/n"), strings.Clone("some text")
	keep = []string{p, q, e, s}
	list = append(someCalls(), askMake(q, 1), askMake(e, 2), askWrite(p, 0, s), askWrite(p, 1, s), askRemove(p), askMove(p, q), askMove(p, e))
	return list, textRooms(keep...), keep
}

func TestCallsAreNewMemory(t *testing.T) {
	calls, rooms, keep := callTexts()
	sharing := sharingCallMem()
	if !impl.MemOk(sharing) {
		t.Fatalf("not right: %v", sharing)
	}
	waiting := changedCall(inodeIs(3, 1, 2, 3, 0), puts(addIn(1, 1, 3), remIn(2, 0, "old", 3, 1), freeOf(8, 5, 6), allocOf(4, 1, 4)))
	for _, m := range []impl.Mem{callMem(), waiting, sharing, leanMem(), changedCall(notRight), changedCall(fills(33)), {}} {
		m.Disk = ownTexts(m.Disk)
		for _, a := range calls {
			one, _ := a.fast(m)
			other, _ := a.fast(m)
			if twoMeet(memLists(one)) {
				t.Errorf("two lists of what %s answers share memory", a.name)
			}
			if anyMeets(memLists(one), memLists(m)) || anyMeets(memLists(one), memLists(other)) {
				t.Errorf("lists of what %s answers share memory with another", a.name)
			}
			if anyMeets(memTexts(one), memTexts(m)) || anyMeets(memTexts(one), memTexts(other)) || anyMeets(memTexts(one), rooms) {
				t.Errorf("texts of what %s answers share memory with another", a.name)
			}
			runtime.KeepAlive(one)
			runtime.KeepAlive(other)
		}
		for _, p := range []string{"/f", "/g", "/b"} {
			if s, _ := impl.ReadText(m, p); anyMeets(textRooms(s), memTexts(m)) {
				t.Errorf("what is read of %s shares memory with another", p)
			}
		}
		runtime.KeepAlive(m)
	}
	runtime.KeepAlive(keep)
}

// Whoever writes into an answer changes neither what was handed in nor the next answer; and the other way round.
func TestCallsThatAreSpoilt(t *testing.T) {
	waiting := changedCall(inodeIs(3, 1, 2, 3, 0), puts(shownIn(1, 1, 3), remIn(2, 0, "old", 3, 1), freeOf(8, 5, 6), allocOf(4, 1, 4)))
	for _, m := range []impl.Mem{callMem(), waiting, changedCall(fills(33))} {
		for _, a := range someCalls() {
			given := fromMem(m)
			first, code := a.fast(given)
			want := fromMem(first)
			spoilMem(first)
			if !sameMem(given, m) {
				t.Errorf("what %s answers leads back to what was handed in", a.name)
			}
			second, again := a.fast(given)
			if !sameMem(second, want) || again != code {
				t.Errorf("%s answers %v, %d behind a spoilt answer, want %v, %d", a.name, second, again, want, code)
			}
			spoilMem(given)
			if !sameMem(second, want) {
				t.Errorf("what %s answered changes with what was handed in", a.name)
			}
		}
	}
}

// What stands in spare room behind every list of a memory stays as it is.
func TestRoomBehindCallsIsNotWrittenInto(t *testing.T) {
	m := changedCall(puts(addIn(1, 1, 3), remIn(2, 0, "old", 3, 1), freeOf(8, 5)))
	was := fromMem(m)
	bits, inos := append(m.Disk.Bits.Blocks, false, true), append(m.Disk.Bits.Inos, false, true)
	dirty, deps := append(m.Dirty, false, true), append(m.Deps, impl.Dep{Id: 99, Name: "behind"}, impl.Dep{Id: 98})
	inodes, blocks := append(m.Disk.Inodes, inode(1, 1, 5, 5)), append(m.Disk.Blocks, textBlock("behind"))
	ptrs, slots, numbers := append(inodes[2].Ptrs, 77), append(blocks[1].Slots, slot("behind", 7)), append(deps[2].Blocks, 77)
	inodes[2].Ptrs, blocks[1].Slots, deps[2].Blocks = ptrs[:2], slots[:4], numbers[:1]
	m = impl.Mem{Disk: impl.Disk{Bits: bitsOf(bits[:16], inos[:8]), Inodes: inodes[:8], Blocks: blocks[:16]}, Dirty: dirty[:21], Deps: deps[:3], Next: 60}
	for _, a := range someCalls() {
		a.fast(m)
	}
	impl.ReadText(m, "/f")
	if !sameMem(m, was) {
		t.Errorf("a memory was written into: %v, was %v", m, was)
	}
	if bits[16] || !bits[17] || inos[8] || !inos[9] || dirty[21] || !dirty[22] || !sameDep(deps[3], impl.Dep{Id: 99, Name: "behind"}) || !sameDep(deps[4], impl.Dep{Id: 98}) {
		t.Error("spare room behind a memory was written into")
	}
	if !sameInode(inodes[8], inode(1, 1, 5, 5)) || !sameBlock(blocks[16], textBlock("behind")) || ptrs[2] != 77 || slots[4] != slot("behind", 7) || numbers[1] != 77 {
		t.Error("spare room behind a disk, or behind one that leans, was written into")
	}
}
