package tests

import (
	"math"
	"runtime"
	"slices"
	"strings"
	"testing"
	"time"
	"unsafe"

	"loop.example/g00235/impl"
)

// The signatures and the struct that the document gives.
var (
	_ func() impl.Disk                    = impl.DiskNew
	_ func(impl.Disk) bool                = impl.DiskOk
	_ func(impl.Disk, int) (string, bool) = impl.UnitText
	_ func(impl.Device) (impl.Disk, bool) = impl.DiskOf
	_ func(impl.Disk) (impl.Device, bool) = impl.DeviceOf
	_ func(a impl.Disk, b impl.Disk) bool = impl.SameDisk
	_ struct {
		Bits   impl.Bits
		Inodes []impl.Inode
		Blocks []impl.Block
	} = impl.Disk{}
)

func fromInode(x impl.Inode) impl.Inode { return inode(x.Kind, x.Links, slices.Clone(x.Ptrs)...) }

func fromBlock(b impl.Block) impl.Block {
	return impl.Block{Dir: b.Dir, Slots: slices.Clone(b.Slots), Text: b.Text}
}

// fromDisk is a disk of its own that has all that is there.
func fromDisk(d impl.Disk) impl.Disk {
	c := impl.Disk{Bits: bitsOf(slices.Clone(d.Bits.Blocks), slices.Clone(d.Bits.Inos))}
	for _, x := range d.Inodes {
		c.Inodes = append(c.Inodes, fromInode(x))
	}
	for _, b := range d.Blocks {
		c.Blocks = append(c.Blocks, fromBlock(b))
	}
	return c
}

func slowSameDisk(a, b impl.Disk) bool {
	if !sameBits(a.Bits, b.Bits) || len(a.Inodes) != len(b.Inodes) || len(a.Blocks) != len(b.Blocks) {
		return false
	}
	for k := range a.Inodes {
		if !sameInode(a.Inodes[k], b.Inodes[k]) {
			return false
		}
	}
	for k := range a.Blocks {
		if !sameBlock(a.Blocks[k], b.Blocks[k]) {
			return false
		}
	}
	return true
}

// emptyDisk is written out: nothing is used, no inode is of a kind, no block has text.
func emptyDisk() impl.Disk {
	d := impl.Disk{Bits: bitsOf(flags(16), flags(8))}
	for range 8 {
		d.Inodes = append(d.Inodes, inode(0, 0, 0, 0))
	}
	d.Blocks = make([]impl.Block, 16)
	return d
}

// fullDisk has no two inodes and no two blocks alike, and every limit is met somewhere.
func fullDisk() impl.Disk {
	d := emptyDisk()
	d.Bits = bitsOf(flags(16, 0, 3, 7, 8, 14), flags(8, 0, 1, 2, 6))
	d.Inodes[0] = inode(2, 1, 1, 0)
	d.Inodes[1] = inode(2, 2, 16, 8)
	d.Inodes[2] = inode(1, 200, 3, 4)
	d.Inodes[3] = inode(1, 0, 0, 0)
	d.Inodes[5] = inode(2, 0, 0, 16)
	d.Inodes[6] = inode(1, 1, 16, 16)
	d.Inodes[7] = inode(2, 200, 5, 5)
	d.Blocks[0] = filled(slot("a", 2), slot("b", 3))
	d.Blocks[1] = filled()
	d.Blocks[2] = textBlock("x")
	d.Blocks[3] = textBlock("0123456789abcdef")
	d.Blocks[5] = textBlock("\x00\xff\n t")
	d.Blocks[6] = textBlock("d\x00\x00\x00\x00\x00\x00\x00\x00")
	d.Blocks[7] = dirBlock(slot("abcdef", 1), slot("012345", 8), slot("zzzzzz", 8), slot("999999", 1))
	d.Blocks[9] = dirBlock(slot("", 0), slot("q", 4), slot("", 0), slot("r", 4))
	d.Blocks[14] = textBlock("t")
	d.Blocks[15] = dirBlock(slot("", 0), slot("", 0), slot("", 0), slot("last", 5))
	return d
}

func usedDisk() impl.Disk {
	d := emptyDisk()
	d.Bits = bitsOf(allFlags(16), allFlags(8))
	for k := range d.Inodes {
		d.Inodes[k] = inode(2, 200, 16, 16)
	}
	for k := range d.Blocks {
		d.Blocks[k] = dirBlock(slot("abcdef", 8), slot("abcdeg", 8), slot("abcdeh", 8), slot("abcdei", 8))
	}
	return d
}

// A change of a disk, in its own lists.
type change struct {
	name string
	do   func(*impl.Disk)
}

// rightChanges are such that leave a full disk right; each leads to a disk of its own.
func rightChanges() []change {
	list := []change{{"none", func(*impl.Disk) {}}}
	for k := range 16 {
		list = append(list, change{"block bit " + impl.Decimal(k), func(d *impl.Disk) { d.Bits.Blocks[k] = !d.Bits.Blocks[k] }})
		list = append(list, change{"text " + impl.Decimal(k), func(d *impl.Disk) { d.Blocks[k] = textBlock("changed") }})
		list = append(list, change{"no text " + impl.Decimal(k), func(d *impl.Disk) { d.Blocks[k] = textBlock("u") }})
		for s := range 4 {
			list = append(list, change{"slot " + impl.Decimal(4*k+s), func(d *impl.Disk) {
				d.Blocks[k] = filled()
				d.Blocks[k].Slots[s] = slot("new", 6)
			}})
		}
		list = append(list, change{"slot of another name " + impl.Decimal(k), func(d *impl.Disk) { d.Blocks[k] = filled(slot("neu", 6)) }})
		list = append(list, change{"slot of another inode " + impl.Decimal(k), func(d *impl.Disk) { d.Blocks[k] = filled(slot("new", 7)) }})
	}
	for k := range 8 {
		list = append(list, change{"inode bit " + impl.Decimal(k), func(d *impl.Disk) { d.Bits.Inos[k] = !d.Bits.Inos[k] }})
		list = append(list, change{"file " + impl.Decimal(k), func(d *impl.Disk) { d.Inodes[k] = inode(1, 9, 9, 9) }})
		list = append(list, change{"kind " + impl.Decimal(k), func(d *impl.Disk) { d.Inodes[k] = inode(2, 9, 9, 9) }})
		list = append(list, change{"links " + impl.Decimal(k), func(d *impl.Disk) { d.Inodes[k] = inode(1, 10, 9, 9) }})
		list = append(list, change{"pointer 0 " + impl.Decimal(k), func(d *impl.Disk) { d.Inodes[k] = inode(1, 9, 10, 9) }})
		list = append(list, change{"pointer 1 " + impl.Decimal(k), func(d *impl.Disk) { d.Inodes[k] = inode(1, 9, 9, 10) }})
	}
	return list
}

// wrongChanges are such that leave no disk right; each leads to a disk of its own.
func wrongChanges() []change {
	list := []change{
		{"no bits", func(d *impl.Disk) { d.Bits = impl.Bits{} }},
		{"no block bits", func(d *impl.Disk) { d.Bits.Blocks = nil }},
		{"no inode bits", func(d *impl.Disk) { d.Bits.Inos = nil }},
		{"15 block bits", func(d *impl.Disk) { d.Bits.Blocks = d.Bits.Blocks[:15] }},
		{"17 block bits", func(d *impl.Disk) { d.Bits.Blocks = append(d.Bits.Blocks, false) }},
		{"7 inode bits", func(d *impl.Disk) { d.Bits.Inos = d.Bits.Inos[:7] }},
		{"9 inode bits", func(d *impl.Disk) { d.Bits.Inos = append(d.Bits.Inos, false) }},
		{"bits turned round", func(d *impl.Disk) { d.Bits.Blocks, d.Bits.Inos = d.Bits.Inos, d.Bits.Blocks }},
		{"no inodes", func(d *impl.Disk) { d.Inodes = nil }},
		{"1 inode", func(d *impl.Disk) { d.Inodes = d.Inodes[:1] }},
		{"7 inodes", func(d *impl.Disk) { d.Inodes = d.Inodes[:7] }},
		{"9 inodes", func(d *impl.Disk) { d.Inodes = append(d.Inodes, inode(0, 0, 0, 0)) }},
		{"16 inodes", func(d *impl.Disk) { d.Inodes = append(d.Inodes, fromDisk(*d).Inodes...) }},
		{"no blocks", func(d *impl.Disk) { d.Blocks = nil }},
		{"1 block", func(d *impl.Disk) { d.Blocks = d.Blocks[:1] }},
		{"15 blocks", func(d *impl.Disk) { d.Blocks = d.Blocks[:15] }},
		{"17 blocks", func(d *impl.Disk) { d.Blocks = append(d.Blocks, impl.Block{}) }},
		{"272 blocks", func(d *impl.Disk) { d.Blocks = append(d.Blocks, make([]impl.Block, 256)...) }},
		{"nothing", func(d *impl.Disk) { *d = impl.Disk{} }},
	}
	for k := range 8 {
		for _, x := range []impl.Inode{
			{}, inode(1, 1), inode(1, 1, 0), inode(1, 1, 0, 0, 0), inode(3, 1, 0, 0), inode(-1, 0, 0, 0), inode(257, 1, 0, 0),
			inode(1, -1, 0, 0), inode(1, 201, 0, 0), inode(1, 1, -1, 0), inode(1, 1, 17, 0), inode(2, 1, 0, 17), inode(1, 1, 0, 256),
			inode(0, 1, 0, 0), inode(0, 0, 1, 0), inode(0, 0, 0, 1), inode(math.MinInt, math.MaxInt, math.MinInt, math.MaxInt),
		} {
			list = append(list, change{"a wrong inode " + impl.Decimal(k), func(d *impl.Disk) { d.Inodes[k] = fromInode(x) }})
		}
	}
	for k := range 16 {
		for _, b := range []impl.Block{
			dirBlock(), dirBlock(make([]impl.Slot, 3)...), dirBlock(make([]impl.Slot, 5)...),
			{Dir: true, Slots: make([]impl.Slot, 4), Text: "x"}, {Slots: make([]impl.Slot, 4)}, {Slots: make([]impl.Slot, 1)},
			textBlock("0123456789abcdefg"), textBlock(strings.Repeat("x", 60)), textBlock(strings.Repeat("x", 272)),
			filled(slot("a", 0)), filled(slot("", 1)), filled(slot("a", 9)), filled(slot("A", 1)), filled(slot("abcdefg", 1)), filled(slot("a", 1), slot("a", 2)),
		} {
			list = append(list, change{"a wrong block " + impl.Decimal(k), func(d *impl.Disk) { d.Blocks[k] = fromBlock(b) }})
		}
	}
	return list
}

func changed(d impl.Disk, c change) impl.Disk {
	d = fromDisk(d)
	c.do(&d)
	return d
}

func rightDisks() []impl.Disk {
	list := []impl.Disk{emptyDisk(), usedDisk(), impl.DiskNew()}
	for _, c := range rightChanges() {
		list = append(list, changed(fullDisk(), c), changed(emptyDisk(), c))
	}
	return list
}

func wrongDisks() []impl.Disk {
	var list []impl.Disk
	for _, from := range []impl.Disk{emptyDisk(), fullDisk(), usedDisk()} {
		for _, c := range wrongChanges() {
			list = append(list, changed(from, c))
		}
	}
	return list
}

func slowInodeText(x impl.Inode) string {
	return string([]byte{byte(x.Kind), byte(x.Links), byte(x.Ptrs[0]), byte(x.Ptrs[1])})
}

// slowUnitText asks each unit for what it has by UnitOfIno and UnitOfBlock.
func slowUnitText(d impl.Disk, u int) string {
	text := ""
	if u == 0 {
		text = slowBits(d.Bits)
	}
	for k, x := range d.Inodes {
		if impl.UnitOfIno(k+1) == u {
			text += slowInodeText(x)
		}
	}
	for k, b := range d.Blocks {
		if impl.UnitOfBlock(k+1) == u {
			text += slowBlockText(b)
		}
	}
	return text
}

func slowDevice(d impl.Disk) impl.Device {
	v := device(make([]string, 21)...)
	for u := range v.Units {
		v.Units[u] = slowUnitText(d, u)
	}
	return v
}

// slowDisk takes the units of a right device one by one.
func slowDisk(v impl.Device) impl.Disk {
	d := emptyDisk()
	d.Bits = bitsOf(allFlags(16), allFlags(8))
	if len(v.Units[0]) == 3 {
		d.Bits = slowReadBits(v.Units[0])
	}
	for i := range 8 {
		s := v.Units[1+i/2]
		if len(s) != 8 {
			continue
		}
		s = s[i%2*4 : i%2*4+4]
		x := inode(int(s[0]), int(s[1]), int(s[2]), int(s[3]))
		if rightInode(x) {
			d.Inodes[i] = x
		}
	}
	for p := range 16 {
		if b, ok := slowReadBlock(v.Units[5+p]); ok {
			d.Blocks[p] = b
		}
	}
	return d
}

func TestDiskNew(t *testing.T) {
	want := emptyDisk()
	want.Bits.Inos[0] = true
	want.Inodes[0] = inode(2, 1, 0, 0)
	d := impl.DiskNew()
	if !slowSameDisk(d, want) || !impl.SameDisk(d, want) || !impl.DiskOk(d) {
		t.Errorf("DiskNew() = %v", d)
	}
	v, ok := impl.DeviceOf(d)
	units := slices.Repeat([]string{"t"}, 21)
	units[0] = "\x00\x00\x01"
	for u := 1; u <= 4; u++ {
		units[u] = strings.Repeat("\x00", 8)
	}
	units[1] = "\x02\x01\x00\x00\x00\x00\x00\x00"
	if !ok || !slices.Equal(v.Units, units) {
		t.Errorf("DeviceOf(DiskNew()) = %q, %v, want %q", v.Units, ok, units)
	}
}

// wantNoDisk wants a refusal of all that take a disk, at every unit.
func wantNoDisk(t *testing.T, d impl.Disk) {
	t.Helper()
	if impl.DiskOk(d) {
		t.Errorf("DiskOk(%v) is true", d)
	}
	if v, ok := impl.DeviceOf(d); ok || len(v.Units) != 0 {
		t.Errorf("DeviceOf(%v) = %q, %v, want a refusal", d, v.Units, ok)
	}
	for u := -2; u < 24; u++ {
		if s, ok := impl.UnitText(d, u); ok || s != "" {
			t.Errorf("UnitText(%v, %d) = %q, %v, want a refusal", d, u, s, ok)
		}
	}
}

// Not even the units of which nothing is wrong are told of a wrong disk.
func TestDisksRefused(t *testing.T) {
	wantNoDisk(t, impl.Disk{})
	for _, d := range wrongDisks() {
		was := fromDisk(d)
		wantNoDisk(t, d)
		if !slowSameDisk(d, was) {
			t.Errorf("a wrong disk was written into: %v, was %v", d, was)
		}
	}
}

// checkDisk holds what is told of a right disk against the document, and wants it back from its units.
func checkDisk(t *testing.T, d impl.Disk) {
	t.Helper()
	was, want := fromDisk(d), slowDevice(d)
	if !impl.DiskOk(d) {
		t.Errorf("DiskOk(%v) is false", d)
	}
	for u := range 21 {
		if s, ok := impl.UnitText(d, u); !ok || s != want.Units[u] {
			t.Errorf("UnitText(%v, %d) = %q, %v, want %q", d, u, s, ok, want.Units[u])
		}
	}
	v, ok := impl.DeviceOf(d)
	if !ok || !sameDevice(v, want) || !impl.DeviceOk(v) {
		t.Errorf("DeviceOf(%v) = %q, %v, want %q", d, v.Units, ok, want.Units)
	}
	if back, told := impl.DiskOf(v); !told || !slowSameDisk(back, was) {
		t.Errorf("%v comes back as %v, %v", was, back, told)
	}
	if !slowSameDisk(d, was) {
		t.Errorf("a disk was written into: %v, was %v", d, was)
	}
}

func TestDisksComeBack(t *testing.T) {
	for _, d := range rightDisks() {
		checkDisk(t, d)
	}
}

func TestUnitTextsKnown(t *testing.T) {
	for u, want := range []string{
		"\x89\x41\x47",
		"\x02\x01\x01\x00\x02\x02\x10\x08", "\x01\xc8\x03\x04\x01\x00\x00\x00", "\x00\x00\x00\x00\x02\x00\x00\x10", "\x01\x01\x10\x10\x02\xc8\x05\x05",
		"d\x02\x01a\x03\x01b\x00\x00\x00\x00", "d\x00\x00\x00\x00\x00\x00\x00\x00", "tx", "t0123456789abcdef",
		"t", "t\x00\xff\n t", "td\x00\x00\x00\x00\x00\x00\x00\x00", "d\x01\x06abcdef\x08\x06012345\x08\x06zzzzzz\x01\x06999999",
		"t", "d\x00\x00\x04\x01q\x00\x00\x04\x01r", "t", "t", "t", "t", "tt", "d\x00\x00\x00\x00\x00\x00\x05\x04last",
	} {
		if s, ok := impl.UnitText(fullDisk(), u); !ok || s != want {
			t.Errorf("UnitText of %d = %q, %v, want %q", u, s, ok, want)
		}
	}
}

func TestUnitTextOfNoUnit(t *testing.T) {
	numbers := oddNumbers()
	for n := 1; n < 600; n++ {
		numbers = append(numbers, -n, 20+n)
	}
	for _, d := range []impl.Disk{impl.DiskNew(), fullDisk(), usedDisk(), {}} {
		for _, u := range numbers {
			if s, ok := impl.UnitText(d, u); ok || s != "" {
				t.Errorf("UnitText of %d = %q, %v, want a refusal", u, s, ok)
			}
		}
	}
}

// checkDevice holds what the units of a right device tell against the document.
func checkDevice(t *testing.T, v impl.Device) {
	t.Helper()
	was, want := fromDevice(v), slowDisk(v)
	d, ok := impl.DiskOf(v)
	if !ok || !slowSameDisk(d, want) {
		t.Errorf("DiskOf(%q) = %v, %v, want %v", v.Units, d, ok, want)
	}
	if !impl.DiskOk(d) {
		t.Errorf("what DiskOf(%q) answers is not right", v.Units)
	}
	if !sameDevice(v, was) {
		t.Errorf("a device was written into: %q, was %q", v.Units, was.Units)
	}
}

// withText is the device with this text in one unit.
func withText(v impl.Device, u int, s string) impl.Device {
	v = fromDevice(v)
	v.Units[u] = s
	return v
}

func TestUnitsThatTellNothing(t *testing.T) {
	for _, s := range []string{"", "x", "t", "d", "\x00", strings.Repeat("\x00", 60), strings.Repeat("\xff", 60), strings.Repeat("x", 60)} {
		want := emptyDisk()
		want.Bits = bitsOf(allFlags(16), allFlags(8))
		d, ok := impl.DiskOf(device(slices.Repeat([]string{s}, 21)...))
		if !ok || !slowSameDisk(d, want) {
			t.Errorf("DiskOf of units %q = %v, %v", s, d, ok)
		}
	}
}

// The bits of another unit's text, and of texts of every length.
func TestBitsTold(t *testing.T) {
	for _, d := range []impl.Disk{emptyDisk(), fullDisk(), usedDisk()} {
		v := slowDevice(d)
		for n := range 61 {
			checkDevice(t, withText(v, 0, strings.Repeat("\x00", n)))
			checkDevice(t, withText(v, 0, strings.Repeat("\xff", n)))
			checkDevice(t, withText(v, 0, strings.Repeat("\x5a", n)))
		}
		for c := range 256 {
			checkDevice(t, withText(v, 0, string([]byte{byte(c), 1, 2})))
			checkDevice(t, withText(v, 0, string([]byte{1, byte(c), 2})))
			checkDevice(t, withText(v, 0, string([]byte{1, 2, byte(c)})))
		}
		for _, s := range v.Units {
			checkDevice(t, withText(v, 0, s))
		}
	}
	none, ok := impl.DiskOf(withText(slowDevice(fullDisk()), 0, "\x00\x00"))
	if want := fullDisk(); !ok || !sameBits(none.Bits, bitsOf(allFlags(16), allFlags(8))) || len(none.Inodes) != 8 || !sameInode(none.Inodes[2], want.Inodes[2]) {
		t.Errorf("DiskOf with bits that are none = %v, %v", none, ok)
	}
}

// An inode that is none leaves the one beside it; without 8 bytes both are none.
func TestInodesTold(t *testing.T) {
	for u := 1; u <= 4; u++ {
		v := slowDevice(fullDisk())
		for _, first := range []string{"\x00\x00\x00\x00", "\x01\x02\x03\x04", "\x02\xc8\x10\x10", "\x03\x00\x00\x00", "\x00\x01\x00\x00", "\x01\xc9\x00\x00", "\x02\x01\x11\x00", "\xff\xff\xff\xff"} {
			for _, second := range []string{"\x00\x00\x00\x00", "\x01\x05\x06\x07", "\x02\xc8\x10\x10", "\x03\x00\x00\x00", "\x00\x00\x00\x01", "\x01\xff\x00\x00", "\x02\x01\x00\x11", "abcd"} {
				both := first + second
				for n := range len(both) + 1 {
					checkDevice(t, withText(v, u, both[:n]))
				}
				checkDevice(t, withText(v, u, both+"\x00"))
				checkDevice(t, withText(v, u, both+first))
				checkDevice(t, withText(v, u, strings.Repeat(both, 7)))
			}
		}
		for n := range 61 {
			checkDevice(t, withText(v, u, strings.Repeat("\x01", n)))
			checkDevice(t, withText(v, u, strings.Repeat("\x00", n)))
		}
	}
	d, ok := impl.DiskOf(withText(slowDevice(fullDisk()), 1, "\x09\x01\x00\x00\x01\x02\x03\x04"))
	if !ok || !sameInode(d.Inodes[0], inode(0, 0, 0, 0)) || !sameInode(d.Inodes[1], inode(1, 2, 3, 4)) {
		t.Errorf("DiskOf with an inode that is none = %v, %v", d, ok)
	}
	d, ok = impl.DiskOf(withText(slowDevice(fullDisk()), 1, "\x01\x02\x03\x04\x09\x01\x00\x00"))
	if !ok || !sameInode(d.Inodes[0], inode(1, 2, 3, 4)) || !sameInode(d.Inodes[1], inode(0, 0, 0, 0)) {
		t.Errorf("DiskOf with a second inode that is none = %v, %v", d, ok)
	}
}

func TestBlocksTold(t *testing.T) {
	for u := 5; u <= 20; u++ {
		v := slowDevice(fullDisk())
		for _, s := range []string{
			"", "t", "d", "x", "T", "D", "\x00", "tabc", "t0123456789abcdef", "t0123456789abcdefg", "d\x00\x00\x00\x00\x00\x00\x00", "d\x00\x00\x00\x00\x00\x00\x00\x00", "d\x00\x00\x00\x00\x00\x00\x00\x00\x00",
			"d\x01\x01a\x00\x00\x00\x00\x00\x00", "d\x00\x01a\x00\x00\x00\x00\x00\x00", "d\x09\x01a\x00\x00\x00\x00\x00\x00", "d\x01\x01A\x00\x00\x00\x00\x00\x00", "d\x01\x01a\x01\x01a\x00\x00\x00\x00", "d\x01\x81\x00a\x00\x00\x00\x00\x00\x00",
			"d\x01\x06abcdef\x08\x06012345\x08\x06zzzzzz\x01\x06999999", "d\x01\x07abcdefg\x00\x00\x00\x00\x00\x00", strings.Repeat("d", 60), strings.Repeat("t", 60),
		} {
			checkDevice(t, withText(v, u, s))
		}
		for n := range 61 {
			checkDevice(t, withText(v, u, "t"+strings.Repeat("x", n%60)))
		}
	}
}

// Each unit's text in every other's place, and every text with one byte turned or left out.
func TestUnitsAstray(t *testing.T) {
	v := slowDevice(fullDisk())
	for u := range 21 {
		for w := range 21 {
			checkDevice(t, withText(v, u, v.Units[w]))
		}
		s := v.Units[u]
		for at := range len(s) {
			checkDevice(t, withText(v, u, s[:at]+s[at+1:]))
			for _, c := range []byte{0, 1, 2, 3, 8, 9, 16, 17, 200, 201, 255, 'a', 'd', 't', 'z'} {
				checkDevice(t, withText(v, u, s[:at]+string([]byte{c})+s[at+1:]))
			}
		}
		checkDevice(t, withText(v, u, s+"\x00"))
		checkDevice(t, withText(v, u, ""))
	}
}

func TestDiskOfNoDevice(t *testing.T) {
	wantNone := func(v impl.Device) {
		t.Helper()
		was := fromDevice(v)
		d, ok := impl.DiskOf(v)
		if ok || !slowSameDisk(d, impl.Disk{}) {
			t.Errorf("DiskOf of %d units = %v, %v, want a refusal", len(v.Units), d, ok)
		}
		if !sameDevice(v, was) {
			t.Errorf("a device of %d units was written into", len(v.Units))
		}
	}
	for _, n := range []int{0, 1, 5, 19, 20, 22, 23, 42, 277, 1<<16 + 21} {
		wantNone(device(make([]string, n)...))
		wantNone(device(texts(n)...))
	}
	wantNone(impl.Device{})
	full := slowDevice(fullDisk())
	wantNone(device(full.Units[:20]...))
	wantNone(device(append(fromDevice(full).Units, "t")...))
	for u := range 21 {
		for _, n := range []int{61, 62, 256, 316, 20000} {
			wantNone(withText(full, u, strings.Repeat("t", n)))
		}
		checkDevice(t, withText(full, u, strings.Repeat("t", 60)))
	}
}

// Each disk is the same as itself, and as no other, whichever stands first.
func TestSameDisk(t *testing.T) {
	var list []impl.Disk
	right := len(rightChanges())
	for _, c := range slices.Concat(rightChanges(), wrongChanges()) {
		list = append(list, changed(fullDisk(), c))
	}
	for k, a := range list {
		for m, b := range list {
			if got := impl.SameDisk(a, b); got != slowSameDisk(a, b) {
				t.Fatalf("SameDisk(%v, %v) = %v", a, b, got)
			}
			if k < right && m < right && (k == m) != slowSameDisk(a, b) {
				t.Fatalf("changes %d and %d lead to the same disk", k, m)
			}
		}
		if !impl.SameDisk(a, fromDisk(a)) || !impl.SameDisk(fromDisk(a), a) {
			t.Fatalf("%v is not the same as a copy", a)
		}
	}
}

// Disks that are not right are the same when all that is in them is.
func TestSameDiskByEachPart(t *testing.T) {
	base := func() impl.Disk {
		return impl.Disk{Bits: bitsOf([]bool{true}, []bool{false}), Inodes: []impl.Inode{inode(7, -1, 3)}, Blocks: []impl.Block{{Dir: true, Slots: []impl.Slot{slot("X", -1)}, Text: "both"}}}
	}
	if !impl.SameDisk(base(), base()) {
		t.Error("two disks that are wrong in the same way are not the same")
	}
	for _, c := range []change{
		{"block bit", func(d *impl.Disk) { d.Bits.Blocks[0] = false }},
		{"inode bit", func(d *impl.Disk) { d.Bits.Inos[0] = true }},
		{"one more block bit", func(d *impl.Disk) { d.Bits.Blocks = append(d.Bits.Blocks, false) }},
		{"one more inode bit", func(d *impl.Disk) { d.Bits.Inos = append(d.Bits.Inos, false) }},
		{"kind", func(d *impl.Disk) { d.Inodes[0].Kind = 8 }},
		{"links", func(d *impl.Disk) { d.Inodes[0].Links = 0 }},
		{"pointer", func(d *impl.Disk) { d.Inodes[0].Ptrs[0] = 4 }},
		{"one pointer more", func(d *impl.Disk) { d.Inodes[0].Ptrs = append(d.Inodes[0].Ptrs, 0) }},
		{"no pointers", func(d *impl.Disk) { d.Inodes[0].Ptrs = nil }},
		{"one inode more", func(d *impl.Disk) { d.Inodes = append(d.Inodes, impl.Inode{}) }},
		{"no inodes", func(d *impl.Disk) { d.Inodes = nil }},
		{"no directory", func(d *impl.Disk) { d.Blocks[0].Dir = false }},
		{"name", func(d *impl.Disk) { d.Blocks[0].Slots[0].Name = "x" }},
		{"inode of a name", func(d *impl.Disk) { d.Blocks[0].Slots[0].Ino = 255 }},
		{"one slot more", func(d *impl.Disk) { d.Blocks[0].Slots = append(d.Blocks[0].Slots, impl.Slot{}) }},
		{"no slots", func(d *impl.Disk) { d.Blocks[0].Slots = nil }},
		{"text", func(d *impl.Disk) { d.Blocks[0].Text = "botH" }},
		{"a longer text", func(d *impl.Disk) { d.Blocks[0].Text = "both\x00" }},
		{"no text", func(d *impl.Disk) { d.Blocks[0].Text = "" }},
		{"one block more", func(d *impl.Disk) { d.Blocks = append(d.Blocks, impl.Block{}) }},
		{"no blocks", func(d *impl.Disk) { d.Blocks = nil }},
	} {
		d := base()
		c.do(&d)
		if impl.SameDisk(base(), d) || impl.SameDisk(d, base()) {
			t.Errorf("a disk with another %s is the same", c.name)
		}
	}
}

// An empty list and nil are the same value; spare room behind a list is none of it.
func TestSameDiskWithoutAny(t *testing.T) {
	empty := impl.Disk{Bits: bitsOf([]bool{}, []bool{}), Inodes: []impl.Inode{}, Blocks: []impl.Block{}}
	if !impl.SameDisk(empty, impl.Disk{}) || !impl.SameDisk(impl.Disk{}, empty) || !impl.SameDisk(impl.Disk{}, impl.Disk{}) {
		t.Error("empty lists and none are not the same")
	}
	inner := impl.Disk{Inodes: []impl.Inode{{Ptrs: []int{}}}, Blocks: []impl.Block{{Slots: []impl.Slot{}}}}
	outer := impl.Disk{Inodes: make([]impl.Inode, 1), Blocks: make([]impl.Block, 1)}
	if !impl.SameDisk(inner, outer) || !impl.SameDisk(outer, inner) {
		t.Error("empty lists within and none are not the same")
	}
	wide := fullDisk()
	wide.Inodes = append(wide.Inodes, inode(1, 1, 1, 1))[:8]
	wide.Blocks = append(wide.Blocks, textBlock("behind"))[:16]
	wide.Bits.Blocks = append(wide.Bits.Blocks, true)[:16]
	wide.Blocks[4].Slots = make([]impl.Slot, 0, 4)
	if !impl.SameDisk(wide, fullDisk()) || !impl.DiskOk(wide) {
		t.Error("spare room counts")
	}
	checkDisk(t, wide)
}

// A room is the memory of a list with its spare room, or of a text.
type room struct{ from, behind uintptr }

func listRoom[T any](list []T) room {
	var one T
	from := uintptr(unsafe.Pointer(unsafe.SliceData(list)))
	return room{from, from + uintptr(cap(list))*unsafe.Sizeof(one)}
}

func textRoom(s string) room {
	from := uintptr(unsafe.Pointer(unsafe.StringData(s)))
	return room{from, from + uintptr(len(s))}
}

func (r room) meets(o room) bool {
	return r.from < r.behind && o.from < o.behind && r.from < o.behind && o.from < r.behind
}

func diskLists(d impl.Disk) []room {
	list := []room{listRoom(d.Bits.Blocks), listRoom(d.Bits.Inos), listRoom(d.Inodes), listRoom(d.Blocks)}
	for _, x := range d.Inodes {
		list = append(list, listRoom(x.Ptrs))
	}
	for _, b := range d.Blocks {
		list = append(list, listRoom(b.Slots))
	}
	return list
}

func diskTexts(d impl.Disk) []room {
	var list []room
	for _, b := range d.Blocks {
		list = append(list, textRoom(b.Text))
		for _, s := range b.Slots {
			list = append(list, textRoom(s.Name))
		}
	}
	return list
}

func deviceTexts(v impl.Device) []room {
	var list []room
	for _, s := range v.Units {
		list = append(list, textRoom(s))
	}
	return list
}

func anyMeets(a, b []room) bool {
	for _, r := range a {
		if slices.ContainsFunc(b, r.meets) {
			return true
		}
	}
	return false
}

// twoMeet tells whether two of these lists share memory.
func twoMeet(list []room) bool {
	for k := range list {
		if anyMeets(list[:k], list[k:k+1]) {
			return true
		}
	}
	return false
}

func TestDisksAreNewMemory(t *testing.T) {
	for _, v := range []impl.Device{slowDevice(fullDisk()), slowDevice(usedDisk()), device(make([]string, 21)...), device(texts(21)...)} {
		one, _ := impl.DiskOf(v)
		other, _ := impl.DiskOf(v)
		if twoMeet(diskLists(one)) || anyMeets(diskLists(one), diskLists(other)) {
			t.Error("lists of disks that units tell share memory")
		}
		if anyMeets(diskTexts(one), deviceTexts(v)) {
			t.Error("a disk shares its texts with the units that tell it")
		}
		runtime.KeepAlive(other)
	}
	one, other := impl.DiskNew(), impl.DiskNew()
	if twoMeet(diskLists(one)) || anyMeets(diskLists(one), diskLists(other)) {
		t.Error("lists of new disks share memory")
	}
	runtime.KeepAlive(other)
}

func TestUnitTextsAreNewMemory(t *testing.T) {
	for _, d := range []impl.Disk{fullDisk(), usedDisk()} {
		one, _ := impl.DeviceOf(d)
		other, _ := impl.DeviceOf(d)
		if listRoom(one.Units).meets(listRoom(other.Units)) {
			t.Error("two devices share memory")
		}
		for u := range 21 {
			s, _ := impl.UnitText(d, u)
			if anyMeets([]room{textRoom(s), textRoom(one.Units[u])}, diskTexts(d)) {
				t.Errorf("the text of unit %d shares that of the disk", u)
			}
		}
		runtime.KeepAlive(other)
	}
}

// What stands in spare room behind every list of a disk stays as it is.
func TestDisksAreNotWrittenInto(t *testing.T) {
	d := fullDisk()
	bits, inos := append(d.Bits.Blocks, true, false), append(d.Bits.Inos, true, false)
	inodes, blocks := append(d.Inodes, inode(5, 5, 5, 5)), append(d.Blocks, textBlock("behind"))
	ptrs, slots := append(inodes[1].Ptrs, 77), append(blocks[0].Slots, slot("behind", 77))
	units := append(texts(21), "behind")
	d = impl.Disk{Bits: bitsOf(bits[:16], inos[:8]), Inodes: inodes[:8], Blocks: blocks[:16]}
	d.Inodes[1].Ptrs, d.Blocks[0].Slots = ptrs[:2], slots[:4]
	impl.DiskOk(d)
	impl.UnitText(d, 1)
	impl.DeviceOf(d)
	impl.SameDisk(d, impl.DiskNew())
	impl.SameDisk(impl.DiskNew(), d)
	impl.DiskOf(device(units[:21]...))
	if !slowSameDisk(d, fullDisk()) || units[21] != "behind" {
		t.Error("a disk or a device was written into")
	}
	if !bits[16] || bits[17] || !inos[8] || inos[9] || !sameInode(inodes[8], inode(5, 5, 5, 5)) || !sameBlock(blocks[16], textBlock("behind")) {
		t.Error("spare room behind a disk was written into")
	}
	if ptrs[2] != 77 || slots[4] != slot("behind", 77) {
		t.Error("spare room behind an inode or a block was written into")
	}
}

// Nobody still waits at a channel when calls have answered, be it with a refusal.
func TestSendersAreJoined(t *testing.T) {
	was := runtime.NumGoroutine()
	for range 200 {
		v, _ := impl.DeviceOf(fullDisk())
		impl.DiskOf(v)
		impl.DiskOf(impl.Device{})
		impl.DeviceOf(impl.Disk{})
	}
	for wait := 0; runtime.NumGoroutine() > was && wait < 200; wait++ {
		time.Sleep(10 * time.Millisecond)
	}
	if now := runtime.NumGoroutine(); now > was {
		t.Errorf("%d goroutines are left, there were %d", now, was)
	}
}
