package tests

import (
	"maps"
	"math"
	"runtime"
	"slices"
	"strings"
	"sync"
	"testing"

	"loop.example/g00235/impl"
)

// The signatures and the struct that the document gives.
var (
	_ func() impl.Fs                             = impl.FsNew
	_ func(f impl.Fs) bool                       = impl.FsOk
	_ func(f impl.Fs, u int) (impl.Fs, bool)     = impl.WriteBack
	_ func(f impl.Fs) impl.Fs                    = impl.Flush
	_ func(d impl.Device) (f impl.Fs, told bool) = impl.Mounted

	_ struct {
		Mem    impl.Mem
		Device impl.Device
	} = impl.Fs{}
)

func fromFs(f impl.Fs) impl.Fs {
	return impl.Fs{Mem: fromMem(f.Mem), Device: fromDevice(f.Device)}
}

func sameFs(a, b impl.Fs) bool { return sameMem(a.Mem, b.Mem) && sameDevice(a.Device, b.Device) }

func slowDeviceOk(v impl.Device) bool {
	return len(v.Units) == 21 && !slices.ContainsFunc(v.Units, func(s string) bool { return len(s) > 60 })
}

func slowFsOk(f impl.Fs) bool { return slowMemOk(f.Mem) && slowDeviceOk(f.Device) }

func slowBack(f impl.Fs, u int) (impl.Fs, bool) {
	c := fromFs(f)
	if !slowFsOk(f) || u < 0 || u > 20 {
		return c, false
	}
	c.Device.Units[u], _ = slowImageUnit(f.Mem, u)
	c.Mem = slowDone(f.Mem, u)
	return c, true
}

// slowFlush tells, too, how many units it has written.
func slowFlush(f impl.Fs) (impl.Fs, int) {
	c := fromFs(f)
	for n := range 400 {
		u := slices.Index(c.Mem.Dirty, true)
		if u < 0 {
			return c, n
		}
		next, ok := slowBack(c, u)
		if !ok {
			return c, n
		}
		c = next
	}
	return c, 400
}

// checkBack holds a writing against the document: just one unit of the device is another one, what is right stays right, what is refused is as it is.
func checkBack(t *testing.T, f impl.Fs, u int) impl.Fs {
	t.Helper()
	was := fromFs(f)
	want, right := slowBack(f, u)
	got, ok := impl.WriteBack(f, u)
	if ok != right || !sameFs(got, want) {
		t.Errorf("WriteBack %d of %v = %v, %v, want %v, %v", u, was, got, ok, want, right)
	}
	if !sameFs(f, was) {
		t.Errorf("WriteBack %d has written into %v, which was %v", u, f, was)
	}
	if !ok && !sameFs(got, was) {
		t.Errorf("WriteBack %d is refused, and has changed %v to %v", u, was, got)
	}
	if !ok {
		return got
	}
	for k, s := range got.Device.Units {
		if k != u && s != was.Device.Units[k] {
			t.Errorf("WriteBack %d has written unit %d", u, k)
		}
	}
	if !impl.FsOk(got) || !sameMem(got.Mem, impl.Done(was.Mem, u)) {
		t.Errorf("behind WriteBack %d it is %v", u, got)
	}
	return got
}

func wantNoBack(t *testing.T, name string, f impl.Fs, u int) {
	t.Helper()
	if got, ok := impl.WriteBack(f, u); ok || !sameFs(got, f) {
		t.Errorf("%s: WriteBack %d = %v, %v, want %v as it is", name, u, got, ok, f)
	}
	checkBack(t, f, u)
}

func checkFlush(t *testing.T, f impl.Fs) (impl.Fs, int) {
	t.Helper()
	was := fromFs(f)
	want, writes := slowFlush(f)
	got := impl.Flush(f)
	if !sameFs(got, want) {
		t.Errorf("Flush of %v = %v, want %v", was, got, want)
	}
	if !sameFs(f, was) {
		t.Errorf("Flush has written into %v, which was %v", f, was)
	}
	if again := impl.Flush(got); writes < 400 && !sameFs(again, got) {
		t.Errorf("flushed again %v is %v", got, again)
	}
	return got, writes
}

func checkMounted(t *testing.T, v impl.Device) impl.Fs {
	t.Helper()
	was := fromDevice(v)
	got, ok := impl.Mounted(v)
	if !sameDevice(v, was) {
		t.Errorf("Mounted has written into %q, which was %q", v, was)
	}
	if !slowDeviceOk(v) {
		if ok || !sameFs(got, impl.Fs{}) {
			t.Errorf("Mounted of %d units = %v, %v, want a refusal", len(v.Units), got, ok)
		}
		return got
	}
	want := impl.Fs{Mem: impl.Mem{Disk: slowDisk(v), Dirty: flags(21), Next: 1}, Device: was}
	if !ok || !sameFs(got, want) || !impl.FsOk(got) || !impl.Settled(got.Mem) {
		t.Errorf("Mounted of %q = %v, %v, want %v", v, got, ok, want)
	}
	return got
}

// wantFlushed wants nothing dirty, nothing that leans, and the disk of the memory on the device, with just this tree; mounted it is the same.
func wantFlushed(t *testing.T, f impl.Fs, tree map[string]string) {
	t.Helper()
	told, ok := impl.DiskOf(f.Device)
	if !impl.Settled(f.Mem) || slices.Contains(f.Mem.Dirty, true) || len(f.Mem.Deps) != 0 {
		t.Fatalf("flushed it still leans: %v", f.Mem)
	}
	if !ok || !slowSameDisk(told, f.Mem.Disk) || !sameDevice(f.Device, slowDevice(f.Mem.Disk)) {
		t.Fatalf("flushed the device tells %v, memory %v", told, f.Mem.Disk)
	}
	if got := slowTree(told); !maps.Equal(got, tree) {
		t.Fatalf("flushed the names lead to %q, want %q", got, tree)
	}
	n := checkMounted(t, f.Device)
	if !sameMem(n.Mem, impl.MemNew(f.Mem.Disk)) || n.Mem.Next != 1 || !sameDevice(n.Device, f.Device) {
		t.Fatalf("mounted it is %v, flushed was %v", n, f)
	}
}

// settledFs has on its device what its memory has.
func settledFs(m impl.Mem) impl.Fs { return impl.Fs{Mem: m, Device: slowDevice(m.Disk)} }

// calledFs is a new file system behind these calls, of which each must be done.
func calledFs(t *testing.T, calls ...asked) impl.Fs {
	t.Helper()
	return calledOn(t, impl.FsNew(), calls...)
}

func calledOn(t *testing.T, f impl.Fs, calls ...asked) impl.Fs {
	t.Helper()
	for _, a := range calls {
		m, code := a.fast(f.Mem)
		if code != 0 {
			t.Fatalf("%s has the code %d", a.name, code)
		}
		f.Mem = m
	}
	return f
}

// busyFs is behind makes, texts, moves and removals, some of them written, some not.
func busyFs(t *testing.T) impl.Fs {
	t.Helper()
	f := calledFs(t, askMake("/d", 2), askMake("/d/e", 2), askMake("/a", 1), askMake("/d/b", 1), askWrite("/a", 0, "head"), askWrite("/a", 1, "0123456789abcdef"), askMake("/c", 1))
	f = calledOn(t, impl.Flush(f), askWrite("/a", 0, "another"), askMove("/a", "/d/a"), askRemove("/d/b"), askRemove("/d/e"), askMake("/f", 1), askWrite("/c", 1, "text"))
	for _, u := range []int{7, 0, 1} {
		f, _ = impl.WriteBack(f, u)
	}
	return calledOn(t, f, askMove("/c", "/g"), askMake("/d/n", 1), askWrite("/d/n", 0, ""), askMove("/d/a", "/h"), askRemove("/f"))
}

// sampleFss are right ones, of all kinds.
func sampleFss(t *testing.T) map[string]impl.Fs {
	t.Helper()
	file := calledFs(t, askMake("/a", 1), askWrite("/a", 1, "text"))
	full := calledFs(t, askMake("/a", 1), askMake("/b", 1), askMake("/c", 1), askMake("/d", 2), askMake("/e", 2))
	full = calledOn(t, full, askMake("/d/a", 1), askMake("/d/b", 1))
	list := map[string]impl.Fs{
		"new":     impl.FsNew(),
		"made":    file,
		"flushed": impl.Flush(file),
		"moved":   calledOn(t, impl.Flush(file), askMove("/a", "/b")),
		"removed": calledOn(t, impl.Flush(file), askRemove("/a")),
		"unmade":  calledOn(t, file, askRemove("/a")),
		"full":    full,
		"emptied": calledOn(t, impl.Flush(full), askRemove("/a"), askRemove("/d/a"), askRemove("/d/b"), askRemove("/d"), askMove("/b", "/e/b")),
		"busy":    busyFs(t),
		"leaning": settledFs(leanMem()),
		"odd":     {Mem: leanMem(), Device: device(texts(21)...)},
	}
	for name, f := range list {
		if !impl.FsOk(f) || !slowFsOk(f) {
			t.Fatalf("%s: not right: %v", name, f)
		}
	}
	return list
}

// wrongDevices are too short, too long, or have a text that is.
func wrongDevices() []impl.Device {
	list := []impl.Device{{}, device(), device(""), device(texts(20)...), device(texts(22)...), device(texts(42)...), device(make([]string, 277)...)}
	for u := range 21 {
		v := device(texts(21)...)
		v.Units[u] = strings.Repeat("x", 61)
		list = append(list, v)
	}
	runes := slowDevice(fullDisk())
	runes.Units[20] = strings.Repeat("é", 31)
	return append(list, runes)
}

// someUnits are all, and others that are none.
func someUnits() []int {
	list := []int{math.MinInt, -2, -1, 21, 22, 277, math.MaxInt}
	for u := range 21 {
		list = append(list, u)
	}
	return list
}

func TestFsNew(t *testing.T) {
	d := emptyDisk()
	d.Bits.Inos[0] = true
	d.Inodes[0] = inode(2, 1, 0, 0)
	units := slices.Repeat([]string{"t"}, 21)
	units[0], units[1] = "\x00\x00\x01", "\x02\x01\x00\x00\x00\x00\x00\x00"
	units[2], units[3], units[4] = strings.Repeat("\x00", 8), strings.Repeat("\x00", 8), strings.Repeat("\x00", 8)
	want := impl.Fs{Mem: impl.Mem{Disk: d, Dirty: flags(21), Next: 1}, Device: device(units...)}
	f := impl.FsNew()
	if !sameFs(f, want) || !impl.FsOk(f) || !impl.Settled(f.Mem) {
		t.Errorf("FsNew() = %v, want %v", f, want)
	}
	v, ok := impl.DeviceOf(impl.DiskNew())
	if !sameMem(f.Mem, impl.MemNew(impl.DiskNew())) || !ok || !sameDevice(f.Device, v) {
		t.Errorf("FsNew() = %v, which is not MemNew of DiskNew and DeviceOf it", f)
	}
	wantFlushed(t, f, map[string]string{})
}

func TestFsOk(t *testing.T) {
	// What a device tells is not asked for: it needs to be right alone.
	devices := []impl.Device{slowDevice(impl.DiskNew()), device(make([]string, 21)...), device(texts(21)...), device(slices.Repeat([]string{strings.Repeat("x", 60)}, 21)...)}
	for _, c := range rightMemChanges() {
		m := changedMem(leanMem(), c)
		for _, v := range devices {
			if f := (impl.Fs{Mem: m, Device: v}); !impl.FsOk(f) {
				t.Errorf("%s: FsOk is false of %v", c.name, f)
			}
		}
		for _, v := range wrongDevices() {
			if f := (impl.Fs{Mem: m, Device: v}); impl.FsOk(f) {
				t.Errorf("%s: FsOk is true of the device %q", c.name, v)
			}
		}
	}
	for _, c := range wrongMemChanges() {
		m := changedMem(leanMem(), c)
		for _, v := range append(wrongDevices(), devices...) {
			if f := (impl.Fs{Mem: m, Device: v}); impl.FsOk(f) {
				t.Errorf("%s: FsOk is true of %v", c.name, f)
			}
		}
	}
	for _, d := range wrongDisks() {
		if impl.FsOk(impl.Fs{Mem: impl.MemNew(d), Device: devices[0]}) {
			t.Errorf("FsOk is true of the disk %v", d)
		}
	}
	if impl.FsOk(impl.Fs{}) {
		t.Error("FsOk is true of nothing")
	}
}

// A written is a unit that is written, with what is there then.
type written struct {
	u     int
	text  string
	dirty []int
	kinds []int
}

// wantWritten writes one unit behind the other.
func wantWritten(t *testing.T, name string, f impl.Fs, list []written) impl.Fs {
	t.Helper()
	for k, w := range list {
		units := fromDevice(f.Device).Units
		f = checkBack(t, f, w.u)
		units[w.u] = w.text
		if !slices.Equal(f.Device.Units, units) {
			t.Errorf("%s, %d: the units are %q, want %q", name, k, f.Device.Units, units)
		}
		var kinds []int
		for _, d := range f.Mem.Deps {
			kinds = append(kinds, d.Kind)
		}
		if !slices.Equal(f.Mem.Dirty, flags(21, w.dirty...)) || !slices.Equal(kinds, w.kinds) {
			t.Errorf("%s, %d: dirty is %v, of the kinds %v lean, want %v and %v", name, k, f.Mem.Dirty, kinds, w.dirty, w.kinds)
		}
	}
	return f
}

const (
	rootBare    = "\x02\x01\x00\x00" // the root ahead of its block
	rootGrown   = "\x02\x01\x01\x00"
	fileBare    = "\x01\x01\x00\x00"
	fileTwice   = "\x01\x02\x00\x00"
	noInode     = "\x00\x00\x00\x00"
	noSlot      = "\x00\x00"
	slotA       = "\x02\x01a"
	slotB       = "\x02\x01b"
	namesNone   = "d" + noSlot + noSlot + noSlot + noSlot
	namesA      = "d" + slotA + noSlot + noSlot + noSlot
	namesB      = "d" + noSlot + slotB + noSlot + noSlot
	namesAB     = "d" + slotA + slotB + noSlot + noSlot
	bitsOfFile  = "\x01\x00\x03"
	bitsOfBlock = "\x01\x00\x01"
)

// What leans is left out of its unit, and written when the unit is written again.
func TestUnitsAreWrittenAgain(t *testing.T) {
	alloc, add, shown, rem, free, seen := impl.DepAlloc, impl.DepAdd, impl.DepShown, impl.DepRem, impl.DepFree, impl.DepSeen
	made := wantWritten(t, "made", calledFs(t, askMake("/a", 1)), []written{
		{1, rootBare + fileBare, []int{0, 5}, []int{alloc, add}},
		{5, namesNone, []int{0}, []int{alloc, add}},
		{1, rootBare + fileBare, []int{0}, []int{alloc, add}},
		{0, bitsOfFile, []int{1}, []int{seen, add}},
		{5, namesNone, []int{1}, []int{seen, add}},
		{0, bitsOfFile, []int{1}, []int{seen, add}},
		{1, rootGrown + fileBare, []int{5}, []int{shown}},
		{1, rootGrown + fileBare, []int{5}, []int{shown}},
		{5, namesA, nil, nil},
		{5, namesA, nil, nil},
		{20, "t", nil, nil},
	})
	moved := wantWritten(t, "moved", calledOn(t, made, askMove("/a", "/b")), []written{
		{5, namesA, []int{0, 1}, []int{add, rem}},
		{1, rootGrown + fileTwice, []int{0}, []int{add, rem}},
		{5, namesA, []int{0}, []int{add, rem}},
		{0, bitsOfFile, []int{5}, []int{shown, rem}},
		{1, rootGrown + fileTwice, []int{5}, []int{shown, rem}},
		{5, namesAB, []int{5}, []int{rem}},
		{5, namesB, []int{1}, nil},
		{0, bitsOfFile, []int{1}, nil},
		{1, rootGrown + fileBare, nil, nil},
	})
	wantWritten(t, "removed", calledOn(t, moved, askRemove("/b")), []written{
		{1, rootGrown + fileBare, []int{5}, []int{rem}},
		{0, bitsOfFile, []int{5}, []int{rem}},
		{5, namesNone, []int{1}, []int{free}},
		{5, namesNone, []int{1}, []int{free}},
		{0, bitsOfFile, []int{1}, []int{free}},
		{1, rootGrown + noInode, []int{0}, nil},
		{1, rootGrown + noInode, []int{0}, nil},
		{0, bitsOfBlock, nil, nil},
	})
}

// Each unit of each file system, dirty or not, and twice.
func TestEachUnitIsWritten(t *testing.T) {
	for name, f := range sampleFss(t) {
		for u := range 21 {
			text, told := impl.ImageUnit(f.Mem, u)
			one := checkBack(t, f, u)
			if !told || one.Device.Units[u] != text {
				t.Errorf("%s: unit %d is %q, want %q", name, u, one.Device.Units[u], text)
			}
			for v := range 21 {
				checkBack(t, one, v)
			}
		}
	}
}

func TestBacksOfUnitsThatAreNone(t *testing.T) {
	for name, f := range sampleFss(t) {
		for _, u := range append(oddNumbers(), -2, -1, 21, 22, 23, 42) {
			wantNoBack(t, name, f, u)
		}
	}
}

func TestBacksOfWhatIsNotRight(t *testing.T) {
	for _, c := range wrongMemChanges() {
		f := impl.Fs{Mem: changedMem(leanMem(), c), Device: slowDevice(fullDisk())}
		for _, u := range someUnits() {
			wantNoBack(t, c.name, f, u)
		}
	}
	for _, v := range wrongDevices() {
		for _, m := range []impl.Mem{leanMem(), busyFs(t).Mem, {}} {
			for _, u := range someUnits() {
				wantNoBack(t, "a wrong device", impl.Fs{Mem: m, Device: v}, u)
			}
		}
	}
	for _, d := range wrongDisks() {
		wantNoBack(t, "a wrong disk", impl.Fs{Mem: impl.Mem{Disk: d, Dirty: allFlags(21), Next: 1}, Device: slowDevice(impl.DiskNew())}, 5)
	}
}

// A name that would be shown twice in its block: memory is right, and has no image. Nothing says that this is refused, so the text is the empty one that ImageUnit answers.
func TestBacksWithoutAnImage(t *testing.T) {
	m := leaningMem(remIn(1, 2, "a", 4, 1))
	if _, ok := impl.ImageUnit(m, 0); ok || !impl.MemOk(m) {
		t.Fatalf("an image is told of %v", m)
	}
	m.Dirty = flags(21, 2, 5)
	f := settledFs(m)
	for u := range 21 {
		got := checkBack(t, f, u)
		if got.Device.Units[u] != "" || got.Mem.Dirty[u] {
			t.Errorf("unit %d is %q then, dirty: %v", u, got.Device.Units[u], got.Mem.Dirty[u])
		}
	}
	got, writes := checkFlush(t, f)
	if writes != 2 || got.Device.Units[2] != "" || got.Device.Units[5] != "" || got.Device.Units[6] != f.Device.Units[6] {
		t.Errorf("Flush writes %d units, %q", writes, got.Device.Units)
	}
}

func TestBacksOfSampleMemories(t *testing.T) {
	for _, m := range sampleMems() {
		f := impl.Fs{Mem: m, Device: device(texts(21)...)}
		for _, u := range someUnits() {
			checkBack(t, f, u)
		}
		f.Mem = changedMem(m, memChange{"", allDirty})
		checkFlush(t, f)
	}
}

// Right memories that no life leads to: units are written one behind the other, and the rest by a flush.
func TestDrawnBacks(t *testing.T) {
	draw := drawer(16)
	most := 0
	for range 600 {
		f := impl.Fs{Mem: drawnLeaning(draw), Device: device(texts(21)...)}
		if draw(4) == 0 {
			f.Mem = drawnMem(draw)
		}
		for range draw(6) {
			f = checkBack(t, f, draw(21))
		}
		_, writes := checkFlush(t, f)
		f.Mem.Dirty = allFlags(21)
		_, more := checkFlush(t, f)
		most = max(most, writes, more)
	}
	// More are written than there are units, as some are written again; 400 are never needed.
	if most < 30 || most >= 400 {
		t.Errorf("of drawn memories at most %d units are written", most)
	}
}

func TestWhatIsFlushed(t *testing.T) {
	for _, c := range []struct {
		name string
		do   []asked
		tree map[string]string
	}{
		{"nothing", nil, map[string]string{}},
		{"a file", []asked{askMake("/a", 1)}, map[string]string{"/a": "2 1  "}},
		{"a directory", []asked{askMake("/a", 2)}, map[string]string{"/a": "2 2  "}},
		{"a file in a directory", []asked{askMake("/a", 2), askMake("/a/b", 1)}, map[string]string{"/a": "2 2  ", "/a/b": "3 1  "}},
		{"four deep", []asked{askMake("/a", 2), askMake("/a/b", 2), askMake("/a/b/c", 2), askMake("/a/b/c/d", 1)}, map[string]string{"/a": "2 2  ", "/a/b": "3 2  ", "/a/b/c": "4 2  ", "/a/b/c/d": "5 1  "}},
		{"both texts", []asked{askMake("/a", 1), askWrite("/a", 1, "tail"), askWrite("/a", 0, "0123456789abcdef")}, map[string]string{"/a": "2 1 0123456789abcdef tail"}},
		{"a text twice", []asked{askMake("/a", 1), askWrite("/a", 0, "one"), askWrite("/a", 0, "two")}, map[string]string{"/a": "2 1 two "}},
		{"an empty text", []asked{askMake("/a", 1), askWrite("/a", 0, "")}, map[string]string{"/a": "2 1  "}},
		{"a new file moved", []asked{askMake("/a", 1), askWrite("/a", 0, "x"), askMove("/a", "/b")}, map[string]string{"/b": "2 1 x "}},
		{"a new file moved on and on", []asked{askMake("/a", 1), askMove("/a", "/b"), askMove("/b", "/c"), askMove("/c", "/a")}, map[string]string{"/a": "2 1  "}},
		{"a new file removed", []asked{askMake("/a", 1), askWrite("/a", 0, "x"), askRemove("/a")}, map[string]string{}},
		{"a new directory removed", []asked{askMake("/a", 2), askMake("/a/b", 1), askRemove("/a/b"), askRemove("/a")}, map[string]string{}},
		{"another one of a name", []asked{askMake("/a", 1), askRemove("/a"), askMake("/a", 2)}, map[string]string{"/a": "3 2  "}},
		{"five names", []asked{askMake("/a", 1), askMake("/b", 1), askMake("/c", 1), askMake("/d", 1), askMake("/e", 1)}, map[string]string{"/a": "2 1  ", "/b": "3 1  ", "/c": "4 1  ", "/d": "5 1  ", "/e": "6 1  "}},
	} {
		f, writes := checkFlush(t, calledFs(t, c.do...))
		wantFlushed(t, f, c.tree)
		if (writes == 0) != (len(c.do) == 0) {
			t.Errorf("%s: %d units are written", c.name, writes)
		}
	}
}

// Behind a flush, too: what is on the disk already is moved, removed and written over.
func TestWhatIsFlushedAgain(t *testing.T) {
	from := map[string]string{"/d": "2 2  ", "/d/e": "3 2  ", "/f": "4 1 head ", "/d/g": "5 1  tail"}
	calls := []asked{askMake("/d", 2), askMake("/d/e", 2), askMake("/f", 1), askMake("/d/g", 1), askWrite("/f", 0, "head"), askWrite("/d/g", 1, "tail")}
	flushed, _ := checkFlush(t, calledFs(t, calls...))
	wantFlushed(t, flushed, from)
	with := func(changes ...string) map[string]string {
		tree := maps.Clone(from)
		for k := 0; k < len(changes); k += 2 {
			tree[changes[k]] = changes[k+1]
		}
		maps.DeleteFunc(tree, func(_, what string) bool { return what == "" })
		return tree
	}
	mounted := checkMounted(t, flushed.Device)
	for _, c := range []struct {
		name string
		do   []asked
		tree map[string]string
	}{
		{"nothing", nil, from},
		{"a file moved", []asked{askMove("/f", "/d/e/f")}, with("/f", "", "/d/e/f", "4 1 head ")},
		{"a file moved there and back", []asked{askMove("/f", "/d/f"), askMove("/d/f", "/h"), askMove("/h", "/i")}, with("/f", "", "/i", "4 1 head ")},
		{"a file moved and removed", []asked{askMove("/f", "/d/f"), askRemove("/d/f")}, with("/f", "")},
		{"a file removed", []asked{askRemove("/f")}, with("/f", "")},
		{"directories removed", []asked{askRemove("/d/e"), askRemove("/d/g"), askRemove("/d")}, map[string]string{"/f": "4 1 head "}},
		{"a directory that a file was moved out of", []asked{askRemove("/d/e"), askMove("/d/g", "/g")}, with("/d/e", "", "/d/g", "", "/g", "5 1  tail")},
		{"a text over another one", []asked{askWrite("/f", 0, "new"), askWrite("/f", 1, "more")}, with("/f", "4 1 new more")},
		{"a text of what is moved", []asked{askMove("/f", "/h"), askWrite("/h", 0, "new")}, with("/f", "", "/h", "4 1 new ")},
		{"a name for another", []asked{askRemove("/f"), askMake("/f", 2), askMake("/f/f", 1)}, with("/f", "6 2  ", "/f/f", "7 1  ")},
	} {
		for _, start := range []impl.Fs{flushed, mounted} {
			f, writes := checkFlush(t, calledOn(t, start, c.do...))
			wantFlushed(t, f, c.tree)
			if (writes == 0) != (len(c.do) == 0) {
				t.Errorf("%s: %d units are written", c.name, writes)
			}
		}
	}
	busy, _ := checkFlush(t, busyFs(t))
	wantFlushed(t, busy, map[string]string{"/d": "2 2  ", "/d/n": "8 1  ", "/g": "6 1  text", "/h": "4 1 another 0123456789abcdef"})
}

// Where nothing is dirty nothing is written, be it that something leans, or that the device has something else.
func TestFlushesWithNothingDirty(t *testing.T) {
	leaning := leanMem()
	leaning.Dirty = flags(21)
	made := calledFs(t, askMake("/a", 1))
	made.Mem.Dirty = flags(21)
	for _, f := range []impl.Fs{impl.FsNew(), settledFs(callMem()), settledFs(leaning), made, {Mem: callMem(), Device: device(texts(21)...)}} {
		if got, writes := checkFlush(t, f); writes != 0 || !sameFs(got, f) {
			t.Errorf("Flush of %v writes %d units: %v", f, writes, got)
		}
	}
}

// Just what is dirty is written.
func TestFlushesOfOneUnit(t *testing.T) {
	for u := range 21 {
		f := impl.Fs{Mem: callMem(), Device: device(texts(21)...)}
		f.Mem.Dirty[u] = true
		want := fromFs(f)
		want.Mem.Dirty[u] = false
		want.Device.Units[u] = slowUnitText(f.Mem.Disk, u)
		if got, writes := checkFlush(t, f); writes != 1 || !sameFs(got, want) {
			t.Errorf("Flush with unit %d dirty writes %d units: %v, want %v", u, writes, got, want)
		}
	}
}

func TestFlushesOfWhatIsNotRight(t *testing.T) {
	same := func(name string, f impl.Fs) {
		t.Helper()
		if got, _ := checkFlush(t, f); !sameFs(got, f) {
			t.Errorf("%s: Flush of %v = %v, want it as it is", name, f, got)
		}
	}
	same("nothing", impl.Fs{})
	for _, c := range wrongMemChanges() {
		m := changedMem(leanMem(), c)
		same(c.name, impl.Fs{Mem: m, Device: slowDevice(fullDisk())})
		m.Dirty = slices.Repeat([]bool{true}, len(m.Dirty))
		same(c.name, impl.Fs{Mem: m, Device: slowDevice(fullDisk())})
	}
	for _, v := range wrongDevices() {
		same("a wrong device", impl.Fs{Mem: leanMem(), Device: v})
		same("a wrong device", impl.Fs{Mem: busyFs(t).Mem, Device: v})
	}
	for _, d := range wrongDisks() {
		same("a wrong disk", impl.Fs{Mem: impl.Mem{Disk: d, Dirty: allFlags(21), Next: 1}, Device: slowDevice(impl.DiskNew())})
	}
	far := leanMem()
	far.Dirty = flags(22, 21)
	same("a unit too many", impl.Fs{Mem: far, Device: device(texts(22)...)})
}

// Whatever leans, a flush ends: also with as much as there may be, that waits for itself, for each other, or for nothing that is there.
func TestFlushesEnd(t *testing.T) {
	var waiting, turned []impl.Dep
	for k := range 40 {
		// A name of its own in each slot: else there is no image.
		waiting = append(waiting, remIn([]int{1, 2, 8, 10, 16}[k%5], k%4, "old"+impl.Decimal(k%4), k%8+1, (k*7+3)%41))
		turned = append(turned, remIn(8, k%4, "old", k%8+1, 0))
	}
	lost := leaningMem(turned...)
	for i := range lost.Disk.Inodes {
		lost.Disk.Inodes[i] = inode(2, 5, 8, 16)
	}
	freed := leaningMem()
	freed.Deps = freeDeps(40)
	for name, m := range map[string]impl.Mem{"waiting": leaningMem(waiting...), "lost": lost, "freed": freed} {
		m.Dirty = allFlags(21)
		if !impl.MemOk(m) {
			t.Fatalf("%s: not right: %v", name, m)
		}
		if _, ok := impl.ImageUnit(m, 0); !ok {
			t.Fatalf("%s: no image of %v", name, m)
		}
		f, writes := checkFlush(t, settledFs(m))
		if slices.Contains(f.Mem.Dirty, true) || writes < 21 || writes >= 400 {
			t.Errorf("%s: %d units are written, dirty is %v", name, writes, f.Mem.Dirty)
		}
	}
}

// eachOrder hands on each order of these units.
func eachOrder(units []int, use func(order []int)) {
	var grow func(n int)
	grow = func(n int) {
		if n == len(units) {
			use(slices.Clone(units))
			return
		}
		for k := n; k < len(units); k++ {
			units[n], units[k] = units[k], units[n]
			grow(n + 1)
			units[n], units[k] = units[k], units[n]
		}
	}
	grow(0)
}

func dirtyUnits(f impl.Fs) []int {
	var list []int
	for u, dirty := range f.Mem.Dirty {
		if dirty {
			list = append(list, u)
		}
	}
	return list
}

// wantSameEnd writes units in this order ahead of a flush, and wants the same in the end as without.
func wantSameEnd(t *testing.T, name string, f impl.Fs, order []int) {
	t.Helper()
	want := impl.Flush(f)
	g := f
	for _, u := range order {
		g, _ = impl.WriteBack(g, u)
	}
	g = impl.Flush(g)
	wantFlushed(t, g, slowTree(f.Mem.Disk))
	if !sameDevice(g.Device, want.Device) || !slowSameDisk(g.Mem.Disk, want.Mem.Disk) {
		t.Errorf("%s: with %v written ahead of a flush it is %v, without %v", name, order, g, want)
	}
}

// The units that are dirty in each order that there is, and written twice.
func TestUnitsInEachOrder(t *testing.T) {
	list := sampleFss(t)
	for _, name := range []string{"new", "made", "flushed", "moved", "removed", "unmade"} {
		eachOrder(dirtyUnits(list[name]), func(order []int) {
			wantSameEnd(t, name, list[name], order)
			wantSameEnd(t, name, list[name], append(order, order...))
		})
	}
}

// All units, in orders by steps, forward and backward, some of them more than once.
func TestUnitsInSeveralOrders(t *testing.T) {
	list := sampleFss(t)
	for _, name := range []string{"made", "moved", "removed", "full", "emptied", "busy"} {
		for step := 1; step < 21; step++ {
			var order []int
			for k := range 50 {
				order = append(order, k*step%21)
			}
			for _, n := range []int{1, 5, 21, 50} {
				wantSameEnd(t, name, list[name], order[:n])
			}
			slices.Reverse(order)
			wantSameEnd(t, name, list[name], order[:30])
		}
	}
}

// The promise, over drawn lives: whatever was written ahead of it, what is flushed is on the disk, and nothing leans any more.
func TestDrawnFlushes(t *testing.T) {
	for seed := range 150 {
		draw := drawer(uint32(1300 + seed))
		l := newLife()
		for range 60 {
			l.drawn(t, draw)
			f := impl.Fs{Mem: l.m, Device: l.v}
			if draw(8) == 0 {
				u := draw(21)
				f = checkBack(t, f, u)
				l.back(t, u)
			}
			if draw(12) > 0 {
				continue
			}
			f, _ = checkFlush(t, f)
			wantFlushed(t, f, l.tree)
			switch draw(3) {
			case 0:
				l.m, l.v = f.Mem, f.Device
			case 1:
				n, _ := impl.Mounted(f.Device)
				l.m, l.v = n.Mem, n.Device
			}
		}
		f := impl.Fs{Mem: l.m, Device: l.v}
		var order []int
		for range draw(30) {
			order = append(order, draw(21))
		}
		wantSameEnd(t, "drawn", f, order)
	}
}

func TestMounted(t *testing.T) {
	v, _ := impl.DeviceOf(impl.DiskNew())
	if f := checkMounted(t, v); !sameFs(f, impl.FsNew()) {
		t.Errorf("a new device is mounted as %v", f)
	}
	for _, d := range rightDisks() {
		f := checkMounted(t, slowDevice(d))
		if !sameMem(f.Mem, impl.MemNew(d)) {
			t.Errorf("mounted of %v is the memory %v", d, f.Mem)
		}
	}
	// The device is as it was, also where its units tell nothing; what they tell is not written to them.
	for _, v := range []impl.Device{device(make([]string, 21)...), device(texts(21)...), device(slices.Repeat([]string{strings.Repeat("x", 60)}, 21)...), device(slices.Repeat([]string{"t"}, 21)...)} {
		f := checkMounted(t, v)
		if got, writes := checkFlush(t, f); writes != 0 || !sameFs(got, f) {
			t.Errorf("of what is mounted %d units are written", writes)
		}
	}
	for u := range 21 {
		for _, s := range []string{"", "t", "x", namesAB, namesNone, bitsOfFile, rootGrown + fileBare, strings.Repeat("\xff", 8)} {
			checkMounted(t, withText(slowDevice(fullDisk()), u, s))
		}
	}
}

func TestDevicesThatAreNotMounted(t *testing.T) {
	for _, v := range wrongDevices() {
		checkMounted(t, v)
		if f, ok := impl.Mounted(v); ok || f.Mem.Next != 0 || len(f.Mem.Dirty)+len(f.Device.Units)+len(f.Mem.Disk.Inodes) != 0 {
			t.Errorf("Mounted of %d units = %v, %v", len(v.Units), f, ok)
		}
	}
	for n := range 50 {
		checkMounted(t, device(texts(n)...))
	}
}

func fsLists(f impl.Fs) []room { return append(memLists(f.Mem), listRoom(f.Device.Units)) }

func fsTexts(f impl.Fs) []room { return append(memTexts(f.Mem), deviceTexts(f.Device)...) }

// ownFs has texts of its own, which no constant shares.
func ownFs(f impl.Fs) impl.Fs {
	f = fromFs(f)
	f.Mem.Disk = ownTexts(f.Mem.Disk)
	for k, d := range f.Mem.Deps {
		f.Mem.Deps[k].Name = strings.Clone(d.Name)
	}
	for u, s := range f.Device.Units {
		f.Device.Units[u] = strings.Clone(s)
	}
	return f
}

type fsCall struct {
	name string
	do   func(impl.Fs) impl.Fs
}

// fsCalls are all that answer a file system, where they do what is asked and where they refuse it.
func fsCalls() []fsCall {
	list := []fsCall{
		{"Flush", impl.Flush},
		{"Mounted", func(f impl.Fs) impl.Fs { f, _ = impl.Mounted(f.Device); return f }},
		{"FsNew", func(impl.Fs) impl.Fs { return impl.FsNew() }},
		{"Flush of what is not right", func(f impl.Fs) impl.Fs { f.Mem.Next = 100001; return impl.Flush(f) }},
		{"WriteBack of what is not right", func(f impl.Fs) impl.Fs { f.Mem.Next = 100001; f, _ = impl.WriteBack(f, 5); return f }},
	}
	for u := -1; u <= 21; u++ {
		list = append(list, fsCall{"WriteBack " + impl.Decimal(u), func(f impl.Fs) impl.Fs { f, _ = impl.WriteBack(f, u); return f }})
	}
	return list
}

func TestFsAreNewMemory(t *testing.T) {
	list := slices.Collect(maps.Values(sampleFss(t)))
	sharing := impl.Fs{Mem: sharingRightMem(), Device: device(texts(30)[:21]...)}
	sharing.Mem.Dirty[6], sharing.Mem.Dirty[20] = true, true
	if !impl.FsOk(sharing) {
		t.Fatalf("not right: %v", sharing)
	}
	list = append(list, impl.Fs{}, impl.Fs{Mem: leanMem(), Device: device(texts(3)...)})
	for k := range list {
		list[k] = ownFs(list[k])
	}
	for _, f := range append(list, sharing) {
		for _, call := range fsCalls() {
			one, other := call.do(f), call.do(f)
			if twoMeet(fsLists(one)) {
				t.Errorf("two lists of what %s answers share memory", call.name)
			}
			if anyMeets(fsLists(one), fsLists(f)) || anyMeets(fsLists(one), fsLists(other)) {
				t.Errorf("lists of what %s answers share memory with another", call.name)
			}
			if anyMeets(fsTexts(one), fsTexts(f)) {
				t.Errorf("texts of what %s answers share memory with what was handed in", call.name)
			}
			runtime.KeepAlive(one)
			runtime.KeepAlive(other)
		}
		runtime.KeepAlive(f)
	}
}

func spoilFs(f impl.Fs) {
	spoilMem(f.Mem)
	spoilTexts(f.Device.Units)
}

// Whoever writes into an answer changes neither what was handed in nor the next answer; and the other way round.
func TestFsThatAreSpoilt(t *testing.T) {
	for name, f := range sampleFss(t) {
		for _, call := range fsCalls() {
			given := fromFs(f)
			first := call.do(given)
			want := fromFs(first)
			spoilFs(first)
			if !sameFs(given, f) {
				t.Errorf("%s: what %s answers leads back to what was handed in", name, call.name)
			}
			second := call.do(given)
			if !sameFs(second, want) {
				t.Errorf("%s: %s answers %v behind a spoilt answer, want %v", name, call.name, second, want)
			}
			spoilFs(given)
			if !sameFs(second, want) {
				t.Errorf("%s: what %s answered changes with what was handed in", name, call.name)
			}
		}
	}
}

// What stands in spare room behind every list of a file system stays as it is.
func TestRoomBehindFsIsNotWrittenInto(t *testing.T) {
	m := changedCall(allDirty, puts(addIn(1, 1, 3), remIn(2, 0, "old", 3, 1), freeOf(8, 5), allocOf(4, 1, 4)))
	was := fromMem(m)
	bits, inos := append(m.Disk.Bits.Blocks, false, true), append(m.Disk.Bits.Inos, false, true)
	dirty, deps := append(m.Dirty, false, true), append(m.Deps, impl.Dep{Id: 99, Name: "behind"}, impl.Dep{Id: 98})
	inodes, blocks := append(m.Disk.Inodes, inode(1, 1, 5, 5)), append(m.Disk.Blocks, textBlock("behind"))
	ptrs, slots, numbers := append(inodes[2].Ptrs, 77), append(blocks[1].Slots, slot("behind", 7)), append(deps[2].Blocks, 77)
	inodes[2].Ptrs, blocks[1].Slots, deps[2].Blocks = ptrs[:2], slots[:4], numbers[:1]
	units := append(texts(21), "behind", "more")
	m = impl.Mem{Disk: impl.Disk{Bits: bitsOf(bits[:16], inos[:8]), Inodes: inodes[:8], Blocks: blocks[:16]}, Dirty: dirty[:21], Deps: deps[:4], Next: 60}
	f := impl.Fs{Mem: m, Device: device(units[:21]...)}
	if !impl.FsOk(f) {
		t.Fatalf("not right: %v", f)
	}
	for _, call := range fsCalls() {
		call.do(f)
	}
	if !sameMem(f.Mem, was) || !slices.Equal(units, append(texts(21), "behind", "more")) {
		t.Errorf("a file system was written into: %v, %q", f, units)
	}
	if bits[16] || !bits[17] || inos[8] || !inos[9] || dirty[21] || !dirty[22] || !sameDep(deps[4], impl.Dep{Id: 99, Name: "behind"}) || !sameDep(deps[5], impl.Dep{Id: 98}) {
		t.Error("spare room behind a memory was written into")
	}
	if !sameInode(inodes[8], inode(1, 1, 5, 5)) || !sameBlock(blocks[16], textBlock("behind")) || ptrs[2] != 77 || slots[4] != slot("behind", 7) || numbers[1] != 77 {
		t.Error("spare room behind a disk, or behind one that leans, was written into")
	}
}

// Calls at the same time, of one file system: each answers as it does alone, and none waits for another for ever.
func TestFsAtTheSameTime(t *testing.T) {
	f := busyFs(t)
	calls := fsCalls()
	want, got := make([]impl.Fs, len(calls)), make([][4]impl.Fs, len(calls))
	for k, call := range calls {
		want[k] = call.do(f)
	}
	var all sync.WaitGroup
	for k, call := range calls {
		for n := range 4 {
			all.Go(func() { got[k][n] = call.do(f) })
		}
	}
	all.Wait()
	for k, call := range calls {
		for n := range 4 {
			if !sameFs(got[k][n], want[k]) {
				t.Errorf("%s at the same time as others answers %v, want %v", call.name, got[k][n], want[k])
			}
		}
	}
}
