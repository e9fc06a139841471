package tests

import (
	"math"
	"slices"
	"strings"
	"testing"

	"loop.example/g00235/impl"
)

// The signatures, the struct and the constant that the document gives.
var (
	_ func(impl.Device) bool                             = impl.DeviceOk
	_ func(int) int                                      = impl.UnitOfIno
	_ func(int) int                                      = impl.UnitOfBlock
	_ func(impl.Device, int, string) (impl.Device, bool) = impl.WriteUnit

	_ struct{ Units []string } = impl.Device{}

	_ [21]int = [impl.Units]int{}
)

func device(units ...string) impl.Device { return impl.Device{Units: units} }

// texts is a list of n texts of which no two are alike, each of at most 60 bytes.
func texts(n int) []string {
	list := make([]string, n)
	for k := range list {
		list[k] = strings.Repeat("u", k%40) + impl.Decimal(k)
	}
	return list
}

func sameDevice(a, b impl.Device) bool { return slices.Equal(a.Units, b.Units) }

func fromDevice(d impl.Device) impl.Device { return device(slices.Clone(d.Units)...) }

// oddNumbers stand beside no limit, or wrap round to one in fewer bits.
func oddNumbers() []int {
	list := []int{math.MinInt, math.MinInt + 1, math.MinInt + 4, math.MaxInt, math.MaxInt - 1, math.MaxInt - 4}
	for _, wrap := range []int{1 << 8, 1 << 16, 1 << 31, 1 << 32, 1 << 33, 1 << 62} {
		for n := -22; n <= 22; n++ {
			list = append(list, wrap+n, n-wrap)
		}
	}
	return list
}

func wantNoDevice(t *testing.T, d impl.Device) {
	t.Helper()
	if impl.DeviceOk(d) {
		t.Errorf("DeviceOk of %d units is true", len(d.Units))
	}
	for _, u := range []int{math.MinInt, -1, 0, 1, 5, 19, 20, 21, 22, len(d.Units) - 1, len(d.Units), math.MaxInt} {
		wantNoWrite(t, d, u, "")
		wantNoWrite(t, d, u, "x")
	}
}

// wantNoWrite wants the device as it is.
func wantNoWrite(t *testing.T, d impl.Device, u int, s string) {
	t.Helper()
	was := fromDevice(d)
	got, ok := impl.WriteUnit(d, u, s)
	if ok || !sameDevice(got, was) {
		t.Errorf("WriteUnit of %d units, %d, %d bytes = %q, %v, want it as it is, false", len(was.Units), u, len(s), got.Units, ok)
	}
	if !sameDevice(d, was) {
		t.Errorf("WriteUnit of %d units, %d changed what was handed in", len(was.Units), u)
	}
}

// checkWrite wants the text in its unit, and every other unit as it was.
func checkWrite(t *testing.T, d impl.Device, u int, s string) impl.Device {
	t.Helper()
	was, want := fromDevice(d), fromDevice(d)
	want.Units[u] = s
	got, ok := impl.WriteUnit(d, u, s)
	if !ok || !sameDevice(got, want) {
		t.Errorf("WriteUnit of %d, %d bytes = %q, %v, want %q", u, len(s), got.Units, ok, want.Units)
	}
	if !impl.DeviceOk(got) {
		t.Errorf("what WriteUnit of %d, %d bytes answers is not right", u, len(s))
	}
	if !sameDevice(d, was) {
		t.Errorf("WriteUnit of %d changed what was handed in", u)
	}
	return got
}

func TestUnitOfIno(t *testing.T) {
	for i, want := range []int{-1, 1, 1, 2, 2, 3, 3, 4, 4, -1, -1, -1} {
		if got := impl.UnitOfIno(i); got != want {
			t.Errorf("UnitOfIno(%d) = %d, want %d", i, got, want)
		}
	}
	for i := 9; i < 600; i++ {
		if impl.UnitOfIno(i) != -1 || impl.UnitOfIno(9-i) != -1 {
			t.Errorf("UnitOfIno of %d or %d is not -1", i, 9-i)
		}
	}
	for _, i := range oddNumbers() {
		if got := impl.UnitOfIno(i); got != -1 {
			t.Errorf("UnitOfIno(%d) = %d, want -1", i, got)
		}
	}
}

func TestUnitOfBlock(t *testing.T) {
	for p := 1; p <= 16; p++ {
		if got := impl.UnitOfBlock(p); got != p+4 {
			t.Errorf("UnitOfBlock(%d) = %d, want %d", p, got, p+4)
		}
	}
	for p := 17; p < 600; p++ {
		if impl.UnitOfBlock(p) != -1 || impl.UnitOfBlock(17-p) != -1 {
			t.Errorf("UnitOfBlock of %d or %d is not -1", p, 17-p)
		}
	}
	for _, p := range oddNumbers() {
		if got := impl.UnitOfBlock(p); got != -1 {
			t.Errorf("UnitOfBlock(%d) = %d, want -1", p, got)
		}
	}
}

// Every unit but that of the bits has two inodes or one block, and none has both.
func TestEachHasItsUnit(t *testing.T) {
	had := make([]string, impl.Units)
	for i := 1; i <= impl.MaxInos; i++ {
		had[impl.UnitOfIno(i)] += "i"
	}
	for p := 1; p <= impl.MaxBlocks; p++ {
		had[impl.UnitOfBlock(p)] += "b"
	}
	for u, what := range had {
		want := "b"
		if u == 0 {
			want = ""
		} else if u < 5 {
			want = "ii"
		}
		if what != want {
			t.Errorf("unit %d has %q, want %q", u, what, want)
		}
	}
	if impl.UnitOfBlock(impl.MaxBlocks) != impl.Units-1 {
		t.Error("the last block's unit is not the last one")
	}
}

func TestDeviceOkByNumber(t *testing.T) {
	for _, n := range []int{0, 1, 4, 5, 19, 20, 22, 23, 42, 255, 256, 277, 1<<16 + 21} {
		wantNoDevice(t, device(make([]string, n)...))
		wantNoDevice(t, device(texts(n)...))
	}
	wantNoDevice(t, impl.Device{})
	wantNoDevice(t, device([]string{}...))
	// Spare room behind a list is none of it.
	room := texts(40)
	wantNoDevice(t, device(room[:20]...))
	for _, units := range [][]string{make([]string, 21), texts(21), room[:21], room[10:31]} {
		if !impl.DeviceOk(device(units...)) {
			t.Errorf("DeviceOk(%q) is false", units)
		}
	}
	room[21] = strings.Repeat("x", 61)
	if !impl.DeviceOk(device(room[:21]...)) {
		t.Error("what stands behind the last unit counts")
	}
}

// A text of each length in each unit.
func TestDeviceOkByLength(t *testing.T) {
	for u := range 21 {
		for _, n := range []int{0, 1, 3, 8, 59, 60} {
			for _, c := range []string{"x", "\x00", "\xff", " "} {
				units := texts(21)
				units[u] = strings.Repeat(c, n)
				if !impl.DeviceOk(device(units...)) {
					t.Errorf("DeviceOk with %d bytes in unit %d is false", n, u)
				}
			}
		}
		for _, n := range []int{61, 62, 120, 255, 256, 257, 316, 20000, 1 << 16, 1<<16 + 60} {
			units := texts(21)
			units[u] = strings.Repeat("x", n)
			wantNoDevice(t, device(units...))
			units = make([]string, 21)
			units[u] = strings.Repeat("\x00", n)
			wantNoDevice(t, device(units...))
		}
	}
	full := slices.Repeat([]string{strings.Repeat("x", 60)}, 21)
	if !impl.DeviceOk(device(full...)) {
		t.Error("DeviceOk of full units is false")
	}
	// Bytes are counted, not runes.
	full[20] = strings.Repeat("é", 31)
	wantNoDevice(t, device(full...))
	full[20] = strings.Repeat("é", 30)
	if !impl.DeviceOk(device(full...)) {
		t.Error("DeviceOk with 60 bytes of runes in the last unit is false")
	}
}

// A text of every length in every unit of devices of all kinds.
func TestWriteUnit(t *testing.T) {
	for _, units := range [][]string{make([]string, 21), texts(21), slices.Repeat([]string{strings.Repeat("x", 60)}, 21)} {
		for u := range 21 {
			for n := range 61 {
				checkWrite(t, device(units...), u, strings.Repeat("w", n))
			}
			for _, s := range []string{"\x00", "\xff\xfe", "\n", "d\x00\x00", strings.Repeat("\x00", 60), strings.Repeat("é", 30), units[u], units[20-u]} {
				checkWrite(t, device(units...), u, s)
			}
			for _, n := range []int{61, 62, 120, 255, 256, 257, 316, 20000, 20001, 1<<16 + 60} {
				wantNoWrite(t, device(units...), u, strings.Repeat("w", n))
			}
			wantNoWrite(t, device(units...), u, strings.Repeat("é", 31))
		}
	}
}

func TestWriteUnitThatIsNotThere(t *testing.T) {
	for _, units := range [][]string{make([]string, 21), texts(21), texts(60)[:21]} {
		for n := 1; n < 600; n++ {
			wantNoWrite(t, device(units...), -n, "x")
			wantNoWrite(t, device(units...), 20+n, "x")
		}
		for _, u := range oddNumbers() {
			wantNoWrite(t, device(units...), u, "x")
			wantNoWrite(t, device(units...), u, "")
		}
		for _, u := range []int{math.MinInt, -1, 21, math.MaxInt} {
			wantNoWrite(t, device(units...), u, strings.Repeat("x", 60))
			wantNoWrite(t, device(units...), u, strings.Repeat("x", 61))
		}
	}
}

// Not even the unit that is at fault can be written over.
func TestWriteUnitOfNoDevice(t *testing.T) {
	for u := range 21 {
		units := texts(21)
		units[u] = strings.Repeat("x", 61)
		for v := range 21 {
			wantNoWrite(t, device(units...), v, "x")
		}
	}
	for n := range 21 {
		for u := range 22 {
			wantNoWrite(t, device(texts(n)...), u, "x")
			wantNoWrite(t, device(texts(n+22)...), u, "x")
		}
	}
}

// Writes in any order: each unit has what was written to it last.
func TestWritesInAnyOrder(t *testing.T) {
	for step := 1; step < 21; step++ {
		d, want := device(make([]string, 21)...), make([]string, 21)
		for k := range 63 {
			u := k * step % 21
			want[u] = strings.Repeat("w", k%61)
			d = checkWrite(t, d, u, want[u])
		}
		if !slices.Equal(d.Units, want) {
			t.Errorf("by steps of %d: %q, want %q", step, d.Units, want)
		}
	}
}

// spoilTexts turns every text of a list, and of the spare room behind it.
func spoilTexts(list []string) {
	room := list[:cap(list)]
	for k := range room {
		room[k] = "spoilt"
	}
}

// Neither what is written nor what is refused shares memory with what was handed in, or with another answer.
func TestDevicesAreNewMemory(t *testing.T) {
	for _, n := range []int{1, 20, 21, 22} {
		for _, u := range []int{-1, 0, 10, 20, 21} {
			room := texts(40)
			d := device(room[:n]...)
			one, _ := impl.WriteUnit(d, u, "x")
			other, _ := impl.WriteUnit(d, u, "x")
			want := fromDevice(one)
			spoilTexts(one.Units)
			if !slices.Equal(room, texts(40)) {
				t.Errorf("an answer shares memory with a device of %d, unit %d", n, u)
			}
			if !sameDevice(other, want) {
				t.Errorf("two answers share memory: %d units, %d", n, u)
			}
			spoilTexts(room)
			if !sameDevice(other, want) {
				t.Errorf("an answer keeps a device of %d, unit %d", n, u)
			}
		}
	}
}

func TestUnitsAreNewMemory(t *testing.T) {
	s := strings.Repeat("written", 3)
	units := texts(21)
	for _, u := range []int{-1, 0, 10, 20} {
		d, _ := impl.WriteUnit(device(units...), u, s)
		for k, unit := range d.Units {
			if within(unit, units[k]) || within(unit, s) {
				t.Errorf("unit %d shares its bytes with what was handed in", k)
			}
		}
	}
}

func TestDevicesAreNotWrittenInto(t *testing.T) {
	for _, n := range []int{0, 1, 20, 21, 22} {
		for u := -1; u < 24; u++ {
			room := texts(30)
			impl.DeviceOk(device(room[:n]...))
			impl.WriteUnit(device(room[:n]...), u, "x")
			impl.WriteUnit(device(room[:n]...), u, strings.Repeat("x", 61))
			if !slices.Equal(room, texts(30)) {
				t.Errorf("a device of %d was written into, unit %d", n, u)
			}
		}
	}
}
