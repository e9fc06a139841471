package tests

import (
	"fmt"
	"slices"
	"strings"
	"sync"
	"testing"

	"loop.example/g00235/impl"
)

// The signatures that the document gives.
var (
	_ func(w impl.World) bool = impl.MemTrue
	_ func(w impl.World) bool = impl.DiskSafe
	_ func(d impl.Disk) bool  = impl.MendKeeps
	_ func(w impl.World) bool = impl.SoundWorld
)

// The four parts of a sound world.
type parts struct {
	right, memory, safe, keeps bool
}

// toldDisk is what the device of a world tells, nothing when it is not right.
func toldDisk(w impl.World) impl.Disk {
	d, _ := impl.DiskOf(w.Fs.Device)
	return d
}

func partsOf(w impl.World) parts {
	return parts{impl.FsOk(w.Fs), impl.MemTrue(w), impl.DiskSafe(w), impl.MendKeeps(toldDisk(w))}
}

func slowKeeps(d impl.Disk) bool {
	m := slowMendAll(d)
	return slowSameTree(slowNodes(m), slowNodes(d)) && slowExact(m) && slowSameDisk(slowMendAll(m), m)
}

func slowParts(w impl.World) parts {
	p := parts{right: slowFsOk(w.Fs), memory: slowSameTree(w.Model, slowNodes(w.Fs.Mem.Disk))}
	if slowDeviceOk(w.Fs.Device) {
		d := slowDisk(w.Fs.Device)
		p.safe, p.keeps = slowSafe(d), slowKeeps(d)
	}
	return p
}

func fromWorld(w impl.World) impl.World {
	return impl.World{Fs: fromFs(w.Fs), Model: slices.Clone(w.Model), Codes: slices.Clone(w.Codes), Kept: slices.Clone(w.Kept)}
}

// checkWorld holds all that is true of a world against the document, and wants the world as it was.
func checkWorld(t *testing.T, w impl.World) parts {
	t.Helper()
	was := fromWorld(w)
	got, want := partsOf(w), slowParts(was)
	if got != want {
		t.Errorf("of %v is true %+v, want %+v", was, got, want)
	}
	if sound := impl.SoundWorld(w); sound != (want == parts{true, true, true, true}) {
		t.Errorf("SoundWorld(%v) = %v, but of its parts is true %+v", was, sound, want)
	}
	if !sameWorld(w, was) {
		t.Errorf("a world was written into: %v, was %v", w, was)
	}
	return got
}

func wantParts(t *testing.T, name string, w impl.World, want parts) {
	t.Helper()
	if got := checkWorld(t, w); got != want {
		t.Errorf("%s: of the world is true %+v, want %+v", name, got, want)
	}
}

func checkKeeps(t *testing.T, d impl.Disk) bool {
	t.Helper()
	was := fromDisk(d)
	got := impl.MendKeeps(d)
	if want := slowKeeps(was); got != want {
		t.Errorf("MendKeeps(%v) = %v, want %v", was, got, want)
	}
	if !slowSameDisk(d, was) {
		t.Errorf("MendKeeps wrote into a disk: %v, was %v", d, was)
	}
	return got
}

// All is true of a world but what is named.
var (
	sound     = parts{true, true, true, true}
	butRight  = parts{false, true, true, true}
	butMemory = parts{true, false, true, true}
	butSafe   = parts{true, true, false, true}
	butKept   = parts{true, true, true, false}
	butDisk   = parts{true, true, false, false}
	butDevice = parts{false, true, false, false}
)

// treeLife has a model of files and directories, no two of which are alike in more than their texts; some of it is not written.
func treeLife() []impl.Event {
	return then(someLife(), evWrite("/b", 0, "head"), evFlush(), evDir("/d/e"), evMake("/d/e/f"), evWrite("/d/e/f", 1, "tail"), evBack(0), evBack(2), evBack(9))
}

func worldOf(t *testing.T, events []impl.Event) impl.World {
	t.Helper()
	w, ok := impl.RunLife(events)
	if !ok || slices.ContainsFunc(w.Codes, func(code int) bool { return code != 0 }) {
		t.Fatalf("RunLife(%v) = %v, %v", events, w, ok)
	}
	return w
}

func TestWorldsOfLivesAreSound(t *testing.T) {
	for _, events := range [][]impl.Event{
		nil, lifeOf(evFlush()), lifeOf(evFall()), lifeOf(evMake("/a")), lifeOf(evMake("/a"), evRemove("/a")), someLife(), treeLife(),
		then(someLife(), evFall()), then(someLife(), evFlush(), evFall()), then(someLife(), evBacks(5, 0, 3, 1, 5, 9)...),
		then(someLife(), evFlush(), evMove("/a", "/n"), evRemove("/b"), evWrite("/d/c", 0, "new"), evBack(5), evRemove("/d/c"), evRemove("/d")),
		lifeOf(evMake("/"), evMake("/a/b"), evRemove("/a"), evMove("/a", "/b"), evWrite("/a", 9, "x")),
		busyLife(), then(busyLife(), evFlush()), then(busyLife(), evFall()),
	} {
		for k := range len(events) + 1 {
			w, ok := impl.RunLife(events[:k])
			if !ok {
				t.Fatalf("no life: %v", events)
			}
			got := checkWorld(t, w)
			// A text of a file that has two names is asked for of one path alone.
			if got.memory = got.memory || twoNames(events[:k]); got != sound {
				t.Errorf("behind %v is true %+v", events[:k], got)
			}
		}
	}
}

// withModel is the world with another model.
func withModel(w impl.World, model []impl.Node) impl.World {
	w.Model = model
	return w
}

// withNode is the model with one node changed.
func withNode(list []impl.Node, k int, do func(n *impl.Node)) []impl.Node {
	list = slices.Clone(list)
	do(&list[k])
	return list
}

func TestModelsWithAnotherField(t *testing.T) {
	w := worldOf(t, treeLife())
	if len(w.Model) < 6 || !slices.ContainsFunc(w.Model, func(n impl.Node) bool { return n.Dir }) {
		t.Fatalf("the model is %v", w.Model)
	}
	wantParts(t, "as it is", w, sound)
	wantParts(t, "the same", withModel(w, slices.Clone(w.Model)), sound)
	for k, n := range w.Model {
		for _, p := range []string{"", "/", n.Path + "x", n.Path + "/", n.Path[1:], strings.ToUpper(n.Path), "/" + n.Path, n.Path[:len(n.Path)-1] + "0", n.Path + "\x00"} {
			wantParts(t, "another Path", withModel(w, withNode(w.Model, k, func(n *impl.Node) { n.Path = p })), butMemory)
		}
		wantParts(t, "another Dir", withModel(w, withNode(w.Model, k, func(n *impl.Node) { n.Dir = !n.Dir })), butMemory)
		for _, s := range []string{"", "x", n.Head + "x", n.Tail + "x", strings.TrimSuffix(n.Head, "d"), strings.ToUpper(n.Tail), n.Head + "\x00"} {
			want := map[bool]parts{true: sound, false: butMemory}
			wantParts(t, "another Head", withModel(w, withNode(w.Model, k, func(n *impl.Node) { n.Head = s })), want[s == n.Head])
			wantParts(t, "another Tail", withModel(w, withNode(w.Model, k, func(n *impl.Node) { n.Tail = s })), want[s == n.Tail])
		}
		turned := withModel(w, withNode(w.Model, k, func(n *impl.Node) { n.Head, n.Tail = n.Tail, n.Head }))
		if got := checkWorld(t, turned); got.memory != (n.Head == n.Tail) {
			t.Errorf("with Head and Tail of %v turned round is true %+v", n, got)
		}
	}
}

func TestModelsWithOtherNodes(t *testing.T) {
	w := worldOf(t, treeLife())
	n := len(w.Model)
	for k := range n + 1 {
		for _, more := range append(slices.Clone(w.Model), fileNode("/0", "", ""), dirNode("/n"), fileNode("/z", "head", "tail"), impl.Node{}, dirNode("/")) {
			wantParts(t, "a node more", withModel(w, slices.Insert(slices.Clone(w.Model), k, more)), butMemory)
		}
		wantParts(t, "the first ones alone", withModel(w, w.Model[:k]), parts{true, k == n, true, true})
		wantParts(t, "the last ones alone", withModel(w, w.Model[n-k:]), parts{true, k == n, true, true})
	}
	for k := range n {
		wantParts(t, "a node less", withModel(w, slices.Delete(slices.Clone(w.Model), k, k+1)), butMemory)
		for o := range k {
			list := slices.Clone(w.Model)
			list[k], list[o] = list[o], list[k]
			wantParts(t, "two that have changed places", withModel(w, list), butMemory)
		}
	}
	turned := slices.Clone(w.Model)
	slices.Reverse(turned)
	wantParts(t, "turned round", withModel(w, turned), butMemory)
	wantParts(t, "twice", withModel(w, append(slices.Clone(w.Model), w.Model...)), butMemory)
	wantParts(t, "none", withModel(w, nil), butMemory)
	wantParts(t, "an empty one", withModel(w, []impl.Node{}), butMemory)
	empty := worldOf(t, nil)
	wantParts(t, "none of none", withModel(empty, nil), sound)
	wantParts(t, "an empty one of none", withModel(empty, []impl.Node{}), sound)
	for _, more := range w.Model {
		wantParts(t, "one of none", withModel(empty, []impl.Node{more}), butMemory)
	}
}

// A model is held against the memory's disk: neither the device nor what is kept, nor codes, nor what leans are asked for.
func TestModelsAndNothingElse(t *testing.T) {
	w := worldOf(t, treeLife())
	told := impl.TreeOf(toldDisk(w))
	if impl.SameTree(told, w.Model) || impl.SameTree(w.Kept, w.Model) {
		t.Fatalf("all is written of %v", w)
	}
	for _, model := range [][]impl.Node{told, w.Kept} {
		wantParts(t, "what is on the disk", withModel(w, model), butMemory)
	}
	for _, c := range []struct {
		name string
		do   func(w *impl.World)
		want parts
	}{
		{"nothing is kept", func(w *impl.World) { w.Kept = nil }, sound},
		{"something else is kept", func(w *impl.World) { w.Kept = []impl.Node{fileNode("/q", "x", "y")} }, sound},
		{"no codes", func(w *impl.World) { w.Codes = nil }, sound},
		{"other codes", func(w *impl.World) { w.Codes = []int{-1, 77, 6} }, sound},
		{"nothing leans", func(w *impl.World) { w.Fs.Mem.Deps = nil }, sound},
		{"nothing is dirty", func(w *impl.World) { w.Fs.Mem.Dirty = flags(21) }, sound},
		{"another device", func(w *impl.World) { w.Fs.Device = slowDevice(exactDisk()) }, sound},
		{"no device", func(w *impl.World) { w.Fs.Device = impl.Device{} }, butDevice},
		{"other bits", func(w *impl.World) { w.Fs.Mem.Disk.Bits = bitsOf(flags(16), flags(8)) }, sound},
		{"other links", func(w *impl.World) { w.Fs.Mem.Disk.Inodes[2].Links = 77 }, sound},
		{"a block that nobody has", func(w *impl.World) { w.Fs.Mem.Disk.Blocks[15] = textBlock("x") }, sound},
		{"another text", func(w *impl.World) { w.Fs.Mem.Disk.Blocks[1] = textBlock("another") }, butMemory},
		{"another name", func(w *impl.World) { w.Fs.Mem.Disk.Blocks[0].Slots[1].Name = "q" }, butMemory},
		{"another memory", func(w *impl.World) { w.Fs.Mem = impl.MemNew(exactDisk()) }, butMemory},
		{"another memory and its tree", func(w *impl.World) { w.Fs.Mem, w.Model = impl.MemNew(exactDisk()), slowNodes(exactDisk()) }, sound},
		{"a new memory", func(w *impl.World) { w.Fs.Mem = impl.MemNew(impl.DiskNew()) }, butMemory},
		{"a new memory and nothing", func(w *impl.World) { w.Fs.Mem, w.Model = impl.MemNew(impl.DiskNew()), nil }, sound},
	} {
		v := fromWorld(w)
		c.do(&v)
		wantParts(t, c.name, v, c.want)
	}
}

// TreeOf a disk that is not right is nothing.
func TestMemoriesWhoseDiskIsNotRight(t *testing.T) {
	for _, from := range []impl.World{worldOf(t, treeLife()), worldOf(t, nil)} {
		for _, c := range wrongChanges() {
			w := fromWorld(from)
			w.Fs.Mem.Disk = changed(w.Fs.Mem.Disk, c)
			for _, model := range [][]impl.Node{nil, {}, w.Model, slowNodes(exactDisk()), {{}}} {
				wantParts(t, c.name, withModel(w, model), parts{false, len(model) == 0, true, true})
			}
		}
	}
}

// withDisk is the world whose device has this disk.
func withDisk(w impl.World, d impl.Disk) impl.World {
	w.Fs.Device = slowDevice(d)
	return w
}

// Devices of disks that are spoilt in one way; the memory is as it was.
func TestDevicesThatAreSpoilt(t *testing.T) {
	w := worldOf(t, treeLife())
	wantParts(t, "an exact disk", withDisk(w, exactDisk()), sound)
	for _, r := range []struct {
		name string
		do   []diskDo
		want parts
	}{
		{"a name of nothing", does(isGone(2)), butSafe},
		{"a name of nothing below", does(isGone(7)), butSafe},
		{"a name of nothing, of a directory with names", does(isGone(3)), butSafe},
		{"a name more, of nothing", does(isSlot(1, 1, "n", 8)), butSafe},
		{"a name of nothing ahead of one of a file", does(isSlot(1, 1, "m", 8)), butDisk},
		{"a block that two files have", does(pointsTo(4, 3, 0), marksBlocks(false, 6)), butDisk},
		{"a block that two files have, without text", does(pointsTo(4, 6, 3), isBlock(3, textBlock(""))), butSafe},
		{"a block that one file has twice", does(pointsTo(4, 6, 6)), butDisk},
		{"a block that two directories have", does(pointsTo(6, 5, 0), hasLinks(5, 3), hasLinks(6, 2), hasLinks(7, 2)), butDisk},
		{"a block that one has that is not reached, too", does(isInode(8, 1, 1, 3, 0)), butSafe},
		{"a block that one has that is not reached, ahead", does(emptied(1, 0), pointsTo(7, 4, 3)), butDisk},
		{"a bit of a block that is not set", does(marksBlocks(false, 4)), butSafe},
		{"the bit of an inode that is not set", does(marksInos(false, 7)), butSafe},
		{"the bit of the root that is not set", does(marksInos(false, 1)), butSafe},
		{"no bits", does(func(d *impl.Disk) { d.Bits = bitsOf(flags(16), flags(8)) }), butSafe},
		{"no links", does(hasLinks(2, 0)), butSafe},
		{"a link too few", does(hasLinks(5, 1)), butSafe},
		{"a name more, and no link more", does(isSlot(1, 1, "n", 4)), butSafe},
		{"a file with names", does(isBlock(6, filled())), butSafe},
		{"a file with names in place of a text that was", does(isBlock(3, filled(slot("n", 4)))), butSafe},
		{"a directory with a text", does(pointsTo(6, 8, 0), isBlock(8, textBlock("x")), marksBlocks(true, 8)), butSafe},
		{"the root with a text", does(isBlock(2, textBlock("x")), hasLinks(5, 2)), butSafe},
		{"the root a file", does(isInode(1, 1, 1, 0, 0)), butSafe},
		{"the root of no kind", does(isGone(1)), butSafe},
		{"the root of no kind, and nothing else", does(func(d *impl.Disk) { *d = emptyDisk() }), butSafe},
		{"a bit more", does(marksBlocks(true, 16)), sound},
		{"a link more", does(hasLinks(4, 2)), sound},
		{"one that is not reached", does(isInode(8, 2, 1, 8, 9), isBlock(9, filled())), sound},
		{"a directory with two names", does(isSlot(2, 0, "e", 3), hasLinks(3, 2)), butKept},
		{"a directory in itself", does(isSlot(5, 0, "s", 3), hasLinks(3, 2)), butKept},
		{"the root in itself", does(isSlot(1, 1, "r", 1)), butKept},
		{"the root below", does(isSlot(5, 0, "r", 1)), butKept},
		{"a file with two names", does(isSlot(2, 0, "e", 4), hasLinks(4, 2)), sound},
		{"a name twice in a directory", does(isSlot(2, 0, "z", 4), hasLinks(4, 2)), sound},
	} {
		d := exactBut(r.do...)
		wantParts(t, r.name, withDisk(w, d), r.want)
		if got := checkKeeps(t, d); got != r.want.keeps {
			t.Errorf("%s: MendKeeps = %v", r.name, got)
		}
		// Nothing but the device is asked for.
		if got := checkWorld(t, impl.World{Fs: impl.Fs{Device: slowDevice(d)}}); got.safe != r.want.safe || got.keeps != r.want.keeps {
			t.Errorf("%s: of a world that has only a device is true %+v", r.name, got)
		}
	}
}

func TestDevicesThatAreNotRight(t *testing.T) {
	w := worldOf(t, treeLife())
	list := wrongDevices()
	for n := range 30 {
		// Units of this world, and too few or too many of them.
		if n != 21 {
			list = append(list, device(append(slices.Clone(w.Fs.Device.Units), texts(9)...)[:n]...))
		}
	}
	list = append(list, device(append(slices.Clone(w.Fs.Device.Units), w.Fs.Device.Units...)...))
	for u := range 21 {
		list = append(list, withText(w.Fs.Device, u, xs(61)), withText(w.Fs.Device, u, w.Fs.Device.Units[u]+xs(61)), withText(w.Fs.Device, u, strings.Repeat("é", 31)))
	}
	for _, v := range list {
		spoilt := w
		spoilt.Fs.Device = v
		wantParts(t, fmt.Sprintf("%d units", len(v.Units)), spoilt, butDevice)
	}
}

// Each unit of a device gets another text: of another unit, cut, longer, or none at all.
func TestUnitsWithAnotherText(t *testing.T) {
	var seen [4]int
	for _, w := range []impl.World{worldOf(t, treeLife()), worldOf(t, nil), withDisk(worldOf(t, nil), exactDisk())} {
		for u, s := range w.Fs.Device.Units {
			others := append(slices.Clone(w.Fs.Device.Units), "", "x", s+"x", s+"\x00", s[:len(s)-1], xs(60), "\x00\x00\x00", "\xff\xff\xff", "t", "d\x00\x00\x00\x00\x00\x00\x00\x00", "d\x01\x01r\x00\x00\x00\x00\x00\x00", "d\x08\x01n\x00\x00\x00\x00\x00\x00", "\x02\x01\x01\x00\x01\x01\x05\x05")
			for _, other := range others {
				spoilt := fromWorld(w)
				spoilt.Fs.Device = withText(w.Fs.Device, u, other)
				got := checkWorld(t, spoilt)
				if !got.right || !got.memory {
					t.Errorf("unit %d is %q: of the world is true %+v", u, other, got)
				}
				k := 0
				if got.safe {
					k++
				}
				if got.keeps {
					k += 2
				}
				seen[k]++
			}
		}
	}
	if seen[0] < 10 || seen[1] < 3 || seen[2] < 200 || seen[3] < 200 {
		t.Errorf("of spoilt devices are seen only %v (neither, safe, kept, both)", seen)
	}
}

func TestDisksThatTellTheSameWhenMended(t *testing.T) {
	for _, d := range []impl.Disk{impl.DiskNew(), exactDisk(), emptyDisk(), worldOf(t, treeLife()).Fs.Mem.Disk, exactBut(isBlock(16, filled(slot("n", 8), slot("r", 1))))} {
		if !checkKeeps(t, d) {
			t.Errorf("MendKeeps(%v) is false", d)
		}
	}
	// Safe, but not exact.
	for _, r := range []struct {
		name string
		do   []diskDo
		want bool
	}{
		{"a file that is not reached", does(isInode(8, 1, 0, 0, 0)), true},
		{"a directory that is not reached", does(isInode(8, 2, 1, 8, 0), isBlock(8, filled(slot("n", 2)))), true},
		{"marked and not reached", does(isInode(8, 1, 1, 8, 9), marksInos(true, 8), marksBlocks(true, 8, 9)), true},
		{"bits more", does(marksBlocks(true, 8, 9, 10, 11, 12, 13, 14, 15, 16), marksInos(true, 8)), true},
		{"links more", does(hasLinks(2, 200), hasLinks(3, 2), hasLinks(5, 3)), true},
		{"the root without links", does(hasLinks(1, 0)), true},
		{"the root with links", does(hasLinks(1, 200)), true},
		{"all below that is not reached", does(emptied(1, 2)), true},
		{"a ring that is not reached", does(emptied(5, 1), isInode(6, 2, 1, 8, 0), isInode(8, 2, 1, 9, 0), isBlock(8, filled(slot("a", 8))), isBlock(9, filled(slot("b", 6)))), true},
		{"the root in one that is not reached", does(isInode(8, 2, 0, 8, 0), isBlock(8, filled(slot("r", 1)))), true},
		{"a directory that one names that is not reached, behind", does(isInode(8, 2, 0, 8, 0), isBlock(8, filled(slot("y", 6)))), true},
		{"a directory that one names that is not reached, ahead", does(isGone(2), isSlot(1, 0, "z", 7), hasLinks(7, 2), isInode(2, 2, 0, 8, 0), isBlock(8, filled(slot("y", 6)))), false},
		{"a directory with two names", does(isSlot(1, 1, "y", 6), hasLinks(6, 2)), false},
		{"a directory that one below it names", does(pointsTo(6, 8, 0), isBlock(8, filled(slot("u", 3))), marksBlocks(true, 8), hasLinks(3, 2)), false},
		{"the root in its second block", does(isSlot(2, 2, "r", 1), hasLinks(1, 2)), false},
	} {
		d := exactBut(r.do...)
		if !impl.SafeDisk(d) || impl.ExactDisk(d) {
			t.Fatalf("%s: the disk is not just safe: %+v", r.name, countsOf(d))
		}
		if got := checkKeeps(t, d); got != r.want {
			t.Errorf("%s: MendKeeps = %v", r.name, got)
		}
	}
}

// Disks that are not safe tell something else when they are mended, or the same.
func TestDisksThatTellSomethingElseWhenMended(t *testing.T) {
	for _, r := range []struct {
		name string
		do   []diskDo
		want bool
	}{
		{"a head of another file", does(pointsTo(4, 3, 0)), false},
		{"a tail that is the head, too", does(pointsTo(4, 6, 6)), false},
		{"a head that is the tail, too", does(pointsTo(2, 4, 4)), false},
		{"names of the root", does(pointsTo(3, 2, 5)), false},
		{"names of what it is in", does(pointsTo(6, 5, 0)), false},
		{"all names of the root", does(pointsTo(6, 1, 2)), false},
		{"a directory with two names and one link", does(isSlot(2, 0, "e", 3)), false},
		{"a directory in itself with one link", does(isSlot(5, 0, "s", 3)), false},
		{"a name of nothing ahead of one of a file", does(isSlot(1, 1, "0", 8)), false},
		{"the root in itself, and a link too few", does(isSlot(1, 3, "r", 1), hasLinks(2, 0)), false},
		{"a file with a text of another one", does(isInode(3, 1, 1, 0, 3)), false},
		{"a name twice, of a file and a directory", does(isSlot(2, 0, "z", 6)), true},
		{"a file with a block of names", does(pointsTo(4, 6, 5)), true},
		{"all links and bits wrong", does(hasLinks(2, 0), hasLinks(3, 9), hasLinks(5, 0), marksBlocks(false, 1, 2, 3), marksInos(false, 1, 2, 3), marksBlocks(true, 9)), true},
	} {
		d := exactBut(r.do...)
		if !impl.DiskOk(d) || impl.SafeDisk(d) {
			t.Fatalf("%s: the disk is safe: %v", r.name, d)
		}
		if got := checkKeeps(t, d); got != r.want {
			t.Errorf("%s: MendKeeps = %v", r.name, got)
		}
	}
}

// Right disks of all kinds, each of which tells the same when it is mended, or does not.
func TestMendingOfManyDisks(t *testing.T) {
	var kept, safe [2]int
	count := func(d impl.Disk) {
		k := 0
		if checkKeeps(t, d) {
			k = 1
		}
		kept[k]++
		if impl.SafeDisk(d) {
			safe[k]++
		}
	}
	oneThingChanged(count)
	for _, d := range append(rightDisks(), namedDisk(), pathDisk(), deepDisk(1), deepDisk(2)) {
		count(d)
	}
	draw := drawer(18)
	for range 400 {
		count(drawnPathDisk(draw, true))
		d := exactDisk()
		for range 1 + draw(3) {
			oneChange(draw, &d)
		}
		count(d)
	}
	if min(kept[0], kept[1], safe[1]) < 100 || safe[0] < 20 {
		t.Errorf("of right disks tell something else and the same when mended only %v, of safe ones %v", kept, safe)
	}
}

// MendAll leaves a disk that is not right as it is, which is not exact then.
func TestDisksThatAreNotRightAreNotKept(t *testing.T) {
	list := append(wrongDisks(), impl.Disk{})
	for _, c := range wrongChanges() {
		list = append(list, changed(exactDisk(), c), changed(impl.DiskNew(), c))
	}
	for inodes := range 9 {
		for blocks := range 17 {
			d := exactDisk()
			d.Inodes, d.Blocks, d.Bits.Blocks, d.Bits.Inos = d.Inodes[:inodes], d.Blocks[:blocks], d.Bits.Blocks[:16-blocks], d.Bits.Inos[:8-inodes]
			list = append(list, d)
		}
	}
	draw := drawer(1818)
	for range 100 {
		if d := drawnPathDisk(draw, false); !impl.DiskOk(d) {
			list = append(list, d)
		}
	}
	for _, d := range list {
		if impl.DiskOk(d) || checkKeeps(t, d) {
			t.Errorf("MendKeeps(%v) is true", d)
		}
	}
}

// Each of the four parts is false alone.
func TestWorldsThatAreNotSound(t *testing.T) {
	for _, events := range [][]impl.Event{nil, someLife(), treeLife(), then(treeLife(), evFlush()), then(treeLife(), evFall()), then(someLife(), evFlush(), evMove("/a", "/n"), evBack(0), evBack(1))} {
		w := worldOf(t, events)
		wantParts(t, "as it is", w, sound)
		for _, c := range []struct {
			name string
			do   func(w *impl.World)
			want parts
		}{
			{"20 units that may be dirty", func(w *impl.World) { w.Fs.Mem.Dirty = w.Fs.Mem.Dirty[:20] }, butRight},
			{"22 units that may be dirty", func(w *impl.World) { w.Fs.Mem.Dirty = append(w.Fs.Mem.Dirty, false) }, butRight},
			{"none that may be dirty", func(w *impl.World) { w.Fs.Mem.Dirty = nil }, butRight},
			{"a Next that is too great", func(w *impl.World) { w.Fs.Mem.Next = 100001 }, butRight},
			{"41 that lean", func(w *impl.World) { w.Fs.Mem.Deps, w.Fs.Mem.Next = freeDeps(41), 99 }, butRight},
			{"one that leans twice", func(w *impl.World) {
				w.Fs.Mem.Deps, w.Fs.Mem.Next = []impl.Dep{withId(1, freeOf(2)), withId(1, freeOf(3))}, 9
			}, butRight},
			{"one of no kind", func(w *impl.World) { w.Fs.Mem.Deps, w.Fs.Mem.Next = []impl.Dep{{Id: 1, Ino: 1}}, 9 }, butRight},
			{"a name that leans where none is", func(w *impl.World) {
				w.Fs.Mem.Deps, w.Fs.Mem.Next = []impl.Dep{withId(1, addIn(16, 0, 2))}, 9
			}, butRight},
			{"an Id that is not below Next", func(w *impl.World) { w.Fs.Mem.Deps, w.Fs.Mem.Next = []impl.Dep{withId(9, freeOf(2))}, 9 }, butRight},
			{"another model", func(w *impl.World) { w.Model = append(w.Model, dirNode("/zz")) }, butMemory},
			{"another memory", func(w *impl.World) { w.Fs.Mem = impl.MemNew(exactDisk()) }, butMemory},
			{"a disk that is not safe", func(w *impl.World) { w.Fs.Device = slowDevice(exactBut(marksInos(false, 4))) }, butSafe},
			{"its own disk, not safe", func(w *impl.World) { w.Fs.Device = withText(w.Fs.Device, 0, "\x00\x00\x00") }, butSafe},
			{"a disk that is not kept", func(w *impl.World) { w.Fs.Device = slowDevice(exactBut(isSlot(1, 1, "r", 1))) }, butKept},
			{"a disk that is neither", func(w *impl.World) { w.Fs.Device = slowDevice(exactBut(pointsTo(4, 3, 6))) }, butDisk},
			{"no device", func(w *impl.World) { w.Fs.Device = impl.Device{} }, butDevice},
			{"another safe disk", func(w *impl.World) { w.Fs.Device = slowDevice(exactDisk()) }, sound},
		} {
			v := fromWorld(w)
			c.do(&v)
			wantParts(t, c.name, v, c.want)
			if impl.SoundWorld(v) != (c.want == sound) {
				t.Errorf("%s: SoundWorld = %v", c.name, impl.SoundWorld(v))
			}
		}
	}
}

// All that may be true or false of a world, together.
func TestWorldsOfAllParts(t *testing.T) {
	seen := map[parts]bool{}
	for _, dirty := range []int{20, 21} {
		for _, model := range [][]impl.Node{nil, {dirNode("/d")}} {
			for _, d := range []impl.Disk{exactDisk(), exactBut(marksInos(false, 4)), exactBut(isSlot(1, 1, "r", 1)), exactBut(pointsTo(4, 3, 6))} {
				w := withDisk(worldOf(t, nil), d)
				w.Fs.Mem.Dirty, w.Model = flags(dirty), model
				seen[checkWorld(t, w)] = true
			}
		}
	}
	if len(seen) != 16 {
		t.Errorf("only %d of 16 are seen: %v", len(seen), seen)
	}
}

func TestWorldsWithoutAnything(t *testing.T) {
	w := worldOf(t, treeLife())
	wantParts(t, "nothing", impl.World{}, butDevice)
	wantParts(t, "empty lists", impl.World{Fs: impl.Fs{Device: device()}, Model: []impl.Node{}, Codes: []int{}, Kept: []impl.Node{}}, butDevice)
	wantParts(t, "a model alone", impl.World{Model: w.Model}, parts{})
	wantParts(t, "codes and what is kept alone", impl.World{Codes: w.Codes, Kept: w.Kept}, butDevice)
	wantParts(t, "a device alone", impl.World{Fs: impl.Fs{Device: w.Fs.Device}}, butRight)
	wantParts(t, "a memory alone", impl.World{Fs: impl.Fs{Mem: w.Fs.Mem}}, parts{})
	wantParts(t, "a memory and its model", impl.World{Fs: impl.Fs{Mem: w.Fs.Mem}, Model: w.Model}, butDevice)
	wantParts(t, "a device of empty texts", impl.World{Fs: impl.Fs{Mem: impl.MemNew(impl.DiskNew()), Device: device(make([]string, 21)...)}}, butSafe)
	wantParts(t, "a new one", impl.World{Fs: impl.FsNew()}, sound)
	if impl.MendKeeps(impl.Disk{}) || impl.SoundWorld(impl.World{}) {
		t.Errorf("something is true of nothing")
	}
	refused, ok := impl.RunLife(slices.Repeat(lifeOf(evFlush()), 61))
	if ok {
		t.Fatal("61 events are a life")
	}
	wantParts(t, "what is refused", refused, butDevice)
}

// wantGood wants what is promised of a world at any moment, and tells whether its disk has to be mended.
func wantGood(t *testing.T, events []impl.Event, w impl.World) bool {
	t.Helper()
	d := toldDisk(w)
	got := checkWorld(t, w)
	// A text of a file that has two names is asked for of one path alone.
	if got.memory = got.memory || twoNames(events); got != sound {
		t.Fatalf("behind %v is true %+v, the disk is %v", events, got, d)
	}
	if !impl.SafeDisk(d) || !slowSafe(d) || !impl.FsOk(w.Fs) {
		t.Fatalf("behind %v the disk is not safe: %v", events, d)
	}
	return !impl.SameDisk(impl.MendAll(d), d)
}

// wantAllWritten wants the disk behind a flush exact, and telling just what was asked for.
func wantAllWritten(t *testing.T, events []impl.Event, before impl.World) {
	t.Helper()
	w, ok := impl.RunLife(then(events, evFlush()))
	d := toldDisk(w)
	tree := impl.TreeOf(d)
	if !ok || !impl.ExactDisk(d) || !slowExact(d) || !impl.Settled(w.Fs.Mem) || !slowSameDisk(d, w.Fs.Mem.Disk) {
		t.Fatalf("behind %v and a flush the disk is %v, memory is %v", events, d, w.Fs.Mem)
	}
	if !slowSameTree(tree, slowNodes(w.Fs.Mem.Disk)) || !slowSameTree(tree, slowNodes(before.Fs.Mem.Disk)) {
		t.Fatalf("behind %v and a flush the disk tells %v, memory %v, ahead of it %v", events, tree, slowNodes(w.Fs.Mem.Disk), slowNodes(before.Fs.Mem.Disk))
	}
	if !twoNames(events) && (!slowSameTree(tree, before.Model) || !slowSameTree(tree, w.Kept) || !impl.SoundWorld(w)) {
		t.Fatalf("behind %v and a flush the disk tells %v, asked for was %v", events, tree, before.Model)
	}
}

// wantFall wants behind a fall the tree that the disk told, and tells whether that is less or other than what memory told.
func wantFall(t *testing.T, events []impl.Event, before impl.World) bool {
	t.Helper()
	w, ok := impl.RunLife(then(events, evFall()))
	told := slowNodes(toldDisk(before))
	if !ok || !slowSameTree(w.Model, told) || !slowSameTree(w.Kept, told) || !slowSameTree(impl.TreeOf(w.Fs.Mem.Disk), told) || !slowSameTree(impl.TreeOf(toldDisk(w)), told) {
		t.Fatalf("behind %v and a fall is %v, the disk told %v", events, w, told)
	}
	if !impl.SoundWorld(w) || !impl.ExactDisk(toldDisk(w)) || !impl.Settled(w.Fs.Mem) {
		t.Fatalf("behind %v and a fall the world is not sound: %v", events, w)
	}
	return !slowSameTree(told, before.Model)
}

// How many moments were seen, how many disks had to be mended, and how many falls lost something; and what else is wanted of each disk.
type seenMoments struct {
	all, mended, lost int
	also              func(d impl.Disk) bool
}

func (s *seenMoments) moment(t *testing.T, events []impl.Event, w impl.World) {
	t.Helper()
	s.all++
	if wantGood(t, events, w) {
		s.mended++
	}
	if s.also != nil && !s.also(toldDisk(w)) {
		t.Fatalf("behind %v the disk tells only %v", events, impl.TreeOf(toldDisk(w)))
	}
	if len(events) == 60 {
		return
	}
	wantAllWritten(t, events, w)
	if wantFall(t, events, w) {
		s.lost++
	}
}

// eachMoment goes through all worlds that are to be had behind a life when calls, in their order, and units that are dirty, in whatever order, come one by one, until there is neither.
func (s *seenMoments) eachMoment(t *testing.T, life []impl.Event, calls ...impl.Event) {
	t.Helper()
	type open struct {
		events []impl.Event
		left   []impl.Event
		w      impl.World
	}
	seen := map[string]bool{}
	var list []open
	add := func(f impl.Fs, events, left []impl.Event) {
		// What was written ahead is not seen in a world but by its memory and its device.
		if key := fmt.Sprint(len(left), f); !seen[key] {
			seen[key] = true
			w, _ := impl.RunLife(events)
			if !sameFs(w.Fs, f) {
				t.Fatalf("behind %v is %v, want %v", events, w.Fs, f)
			}
			list = append(list, open{events, left, w})
		}
	}
	first, ok := impl.RunLife(life)
	if !ok {
		t.Fatalf("no life: %v", life)
	}
	for add(first.Fs, life, calls); len(list) > 0; {
		o := list[len(list)-1]
		list = list[:len(list)-1]
		s.moment(t, o.events, o.w)
		for _, u := range dirtyUnits(o.w.Fs) {
			f, _ := impl.WriteBack(o.w.Fs, u)
			add(f, then(o.events, evBack(u)), o.left)
		}
		if len(o.left) > 0 {
			events := then(o.events, o.left[0])
			w, _ := impl.RunLife(events)
			add(w.Fs, events, o.left[1:])
		}
	}
}

func (s seenMoments) atLeast(t *testing.T, all, mended, lost int) {
	t.Helper()
	if s.all < all || s.mended < mended || s.lost < lost {
		t.Errorf("of %d moments %d disks had to be mended, and %d falls lost something", s.all, s.mended, s.lost)
	}
}

// The promise, at each moment of short lives, in whatever order units are written and wherever calls come between them.
func TestMomentsInEachOrder(t *testing.T) {
	var s seenMoments
	a, d := lifeOf(evMake("/a"), evWrite("/a", 0, "x"), evFlush()), lifeOf(evMake("/a"), evDir("/d"), evMake("/d/b"), evFlush())
	s.eachMoment(t, nil)
	s.eachMoment(t, nil, evMake("/a"), evWrite("/a", 0, "x"))
	s.eachMoment(t, nil, evDir("/d"), evMake("/d/a"))
	s.eachMoment(t, nil, evMake("/a"), evRemove("/a"), evDir("/a"))
	s.eachMoment(t, a, evWrite("/a", 0, "y"), evWrite("/a", 1, "z"))
	s.eachMoment(t, a, evRemove("/a"), evDir("/a"))
	s.eachMoment(t, a, evRemove("/a"), evMake("/b"), evWrite("/b", 1, "y"))
	s.eachMoment(t, a, evMove("/a", "/b"), evMove("/b", "/c"))
	s.eachMoment(t, a, evMove("/a", "/b"), evRemove("/b"))
	s.eachMoment(t, a, evMove("/a", "/b"), evMake("/a"), evRemove("/b"))
	s.eachMoment(t, d, evMove("/a", "/d/a"), evMove("/d/a", "/c"))
	s.eachMoment(t, d, evMove("/d/b", "/b"), evRemove("/d"))
	s.eachMoment(t, d, evMove("/a", "/d/a"), evMove("/d/b", "/a"))
	s.eachMoment(t, d, evRemove("/d/b"), evRemove("/d"), evMake("/d"))
	s.eachMoment(t, then(d, evFall()), evRemove("/d/b"), evDir("/d/b"), evRemove("/a"))
	s.eachMoment(t, then(d, evMove("/a", "/c"), evBack(0), evBack(1), evBack(5), evFall()), evMove("/a", "/d/a"), evRemove("/c"))
	s.atLeast(t, 500, 300, 300)
}

// A file that was written and is moved is on the disk at any moment: under its old path, its new one, or both.
func TestMovedFilesAreNeverLost(t *testing.T) {
	s := seenMoments{also: func(d impl.Disk) bool {
		return slices.ContainsFunc(impl.TreeOf(d), func(n impl.Node) bool { return !n.Dir && n.Head == "kept" && n.Tail == "too" })
	}}
	file := lifeOf(evMake("/a"), evWrite("/a", 0, "kept"), evWrite("/a", 1, "too"))
	alone, beside := then(file, evFlush()), then(file, evDir("/d"), evFlush())
	full := then(file, evMake("/b"), evMake("/c"), evMake("/e"), evFlush())
	s.eachMoment(t, alone, evMove("/a", "/b"), evMove("/b", "/a"), evMove("/b", "/c"))
	s.eachMoment(t, alone, evDir("/d"), evMove("/a", "/d/a"))
	s.eachMoment(t, alone, evMove("/a", "/b"), evMake("/a"), evMake("/c"))
	s.eachMoment(t, beside, evMove("/a", "/d/a"), evMake("/b"), evMake("/a"))
	s.eachMoment(t, beside, evMove("/a", "/d/a"), evRemove("/d"), evMove("/d/a", "/b"), evRemove("/d"))
	s.eachMoment(t, beside, evDir("/d/e"), evMove("/a", "/d/e/a"))
	s.eachMoment(t, full, evMove("/a", "/n"), evMake("/a"))
	s.eachMoment(t, full, evMove("/a", "/n"), evMove("/b", "/m"))
	s.atLeast(t, 300, 200, 100)
}

// Longer lives: all is written, in whatever order, behind the calls.
func TestMomentsOfLongerLives(t *testing.T) {
	var s seenMoments
	s.eachMoment(t, lifeOf(evDir("/d"), evMake("/d/a"), evWrite("/d/a", 0, "x"), evMake("/b")))
	s.eachMoment(t, then(someLife(), evFlush(), evMove("/a", "/d/n"), evRemove("/b"), evWrite("/d/c", 0, "new")))
	s.eachMoment(t, then(someLife(), evFlush(), evRemove("/d/c"), evRemove("/d"), evMove("/a", "/n"), evMake("/d")))
	s.eachMoment(t, lifeOf(evDir("/d"), evDir("/d/e"), evMake("/d/e/f"), evFlush(), evRemove("/d/e/f"), evRemove("/d/e"), evRemove("/d"), evDir("/d")))
	s.atLeast(t, 300, 150, 250)
}

// The promise, in drawn lives: behind each event, with a flush and a fall at each moment.
func TestDrawnLivesAreGood(t *testing.T) {
	var s seenMoments
	for seed := range 25 {
		events := drawnLife(drawer(uint32(18000 + seed)))
		for k := range len(events) + 1 {
			w, ok := impl.RunLife(events[:k])
			if !ok {
				t.Fatalf("no life: %v", events[:k])
			}
			s.moment(t, events[:k], w)
		}
	}
	s.atLeast(t, 1000, 200, 400)
}

// shuffledLife writes all that is dirty behind each few calls, in a drawn order, and falls now and then.
func shuffledLife(draw func(int) int) []impl.Event {
	var events []impl.Event
	for len(events) < 58 {
		w, _ := impl.RunLife(events)
		list := dirtyUnits(w.Fs)
		switch {
		case len(list) > 0 && draw(3) > 0:
			events = append(events, evBack(list[draw(len(list))]))
		case draw(12) == 0:
			events = append(events, evFall())
		default:
			e := drawnEvent(draw, w.Model)
			if e.Kind == 4 || e.Kind == 5 || draw(2) == 0 {
				events = append(events, e)
			}
		}
	}
	return events
}

func TestShuffledLivesAreGood(t *testing.T) {
	var s seenMoments
	for seed := range 25 {
		events := shuffledLife(drawer(uint32(18500 + seed)))
		for k := range len(events) + 1 {
			w, _ := impl.RunLife(events[:k])
			s.moment(t, events[:k], w)
		}
	}
	s.atLeast(t, 1000, 400, 400)
}

// A fall amid a move may leave a file with two names. What is written to one of them is asked for of that path alone, so that memory tells more than the model; all else holds.
func TestFilesWithTwoNames(t *testing.T) {
	two := then(lifeOf(evMake("/a"), evFlush(), evMove("/a", "/b")), append(evBacks(0, 1, 5), evFall())...)
	w := worldOf(t, two)
	if len(w.Model) != 2 {
		t.Fatalf("the model is %v", w.Model)
	}
	wantParts(t, "two names", w, sound)
	written := worldOf(t, then(two, evWrite("/a", 0, "x")))
	wantParts(t, "one written", written, butMemory)
	if !impl.DiskSafe(written) || impl.MemTrue(written) || impl.SoundWorld(written) {
		t.Errorf("of a file with two names, one of which is written: %+v", partsOf(written))
	}
	wantParts(t, "both written alike", worldOf(t, then(two, evWrite("/a", 0, "x"), evWrite("/b", 0, "x"))), sound)
	wantParts(t, "one written, and removed", worldOf(t, then(two, evWrite("/a", 0, "x"), evRemove("/b"))), sound)
	wantParts(t, "one written, and the other left", worldOf(t, then(two, evWrite("/a", 0, "x"), evRemove("/a"))), butMemory)
	wantParts(t, "one written, and all flushed", worldOf(t, then(two, evWrite("/a", 0, "x"), evFlush())), butMemory)
	wantParts(t, "one written, and all flushed, and fallen", worldOf(t, then(two, evWrite("/a", 0, "x"), evFlush(), evFall())), sound)
	var s seenMoments
	s.eachMoment(t, two, evWrite("/a", 0, "x"), evRemove("/b"))
	s.eachMoment(t, two, evMove("/a", "/c"), evWrite("/b", 1, "y"))
	s.atLeast(t, 30, 10, 10)
}

// What stands in spare room behind the lists of a world is neither asked for nor written into.
func TestRoomBehindWorldsIsLeftAlone(t *testing.T) {
	w := worldOf(t, treeLife())
	model, kept := append(slices.Clone(w.Model), dirNode("/behind")), append(slices.Clone(w.Kept), dirNode("/behind"))
	codes, units := append(slices.Clone(w.Codes), 77), append(slices.Clone(w.Fs.Device.Units), "behind")
	d := w.Fs.Mem.Disk
	inodes, blocks := append(slices.Clone(d.Inodes), inode(1, 0, 1, 1)), append(slices.Clone(d.Blocks), filled(slot("behind", 8)))
	bits, inos := append(slices.Clone(d.Bits.Blocks), true), append(slices.Clone(d.Bits.Inos), true)
	w.Model, w.Kept, w.Codes = model[:len(w.Model)], kept[:len(w.Kept)], codes[:len(w.Codes)]
	w.Fs.Device.Units = units[:21]
	w.Fs.Mem.Disk = impl.Disk{Bits: bitsOf(bits[:16], inos[:8]), Inodes: inodes[:8], Blocks: blocks[:16]}
	wantParts(t, "spare room", w, sound)
	if !checkKeeps(t, w.Fs.Mem.Disk) {
		t.Error("with spare room behind it a disk is not kept")
	}
	if model[len(model)-1] != dirNode("/behind") || kept[len(kept)-1] != dirNode("/behind") || codes[len(codes)-1] != 77 || units[21] != "behind" {
		t.Error("spare room behind a world was written into")
	}
	if !sameInode(inodes[8], inode(1, 0, 1, 1)) || !sameBlock(blocks[16], filled(slot("behind", 8))) || !bits[16] || !inos[8] {
		t.Error("spare room behind a disk was written into")
	}
}

// Nothing is kept from one call to another: a world that is spoilt behind a call is asked anew.
func TestWorldsAreAskedAnew(t *testing.T) {
	for range 3 {
		w := worldOf(t, treeLife())
		wantParts(t, "as it is", w, sound)
		w.Model[0].Head += "x"
		wantParts(t, "another model", w, butMemory)
		w.Fs.Mem.Dirty = w.Fs.Mem.Dirty[:3]
		wantParts(t, "not right, either", w, parts{false, false, true, true})
		w.Fs.Device.Units[0] = "\x00\x00\x00"
		wantParts(t, "not safe, either", w, parts{false, false, false, true})
		w.Fs.Device.Units = w.Fs.Device.Units[:3]
		wantParts(t, "nothing is true", w, parts{})
	}
}

// Calls at the same time, of one world: each answers as it does alone.
func TestTruthsAtTheSameTime(t *testing.T) {
	w := worldOf(t, treeLife())
	not := withDisk(withModel(w, nil), exactBut(pointsTo(4, 3, 6)))
	d := toldDisk(w)
	var all sync.WaitGroup
	var same [8]bool
	for k := range same {
		all.Go(func() {
			same[k] = partsOf(w) == sound && impl.SoundWorld(w) && impl.MendKeeps(d) && partsOf(not) == parts{right: true} && !impl.SoundWorld(not)
		})
	}
	all.Wait()
	if slices.Contains(same[:], false) {
		t.Errorf("at the same time as others answers are the same: %v", same)
	}
}
