package tests

import (
	"math"
	"slices"
	"strings"
	"testing"
	"unsafe"

	"loop.example/g00235/impl"
)

// The signatures and the structs that the document gives.
var (
	_ func(string) bool               = impl.NameOk
	_ func() impl.Block               = impl.DirNew
	_ func(impl.Block) bool           = impl.BlockOk
	_ func(impl.Block) (string, bool) = impl.BlockText
	_ func(string) (impl.Block, bool) = impl.ReadBlock
	_ func(impl.Block, string) int    = impl.SlotOf

	_ struct {
		Name string
		Ino  int
	} = impl.Slot{}
	_ struct {
		Dir   bool
		Slots []impl.Slot
		Text  string
	} = impl.Block{}
)

func TestBlockConstants(t *testing.T) {
	// Constants without a type of their own fit every kind of number.
	var b byte = impl.Slots
	var f float64 = impl.MaxText16
	if impl.Slots != 4 || impl.MaxText16 != 16 || b != 4 || f != 16 {
		t.Error("a limit is not the document's")
	}
}

func slot(name string, ino int) impl.Slot { return impl.Slot{Name: name, Ino: ino} }

func dirBlock(slots ...impl.Slot) impl.Block { return impl.Block{Dir: true, Slots: slots} }

func textBlock(s string) impl.Block { return impl.Block{Text: s} }

// filled is a directory's block that has these slots first, the others without anything.
func filled(slots ...impl.Slot) impl.Block {
	return dirBlock(append(slices.Clone(slots), make([]impl.Slot, 4-len(slots))...)...)
}

func sameBlock(a, b impl.Block) bool {
	return a.Dir == b.Dir && slices.Equal(a.Slots, b.Slots) && a.Text == b.Text
}

func slowName(s string) bool {
	return len(s) >= 1 && len(s) <= 6 && strings.Trim(s, "abcdefghijklmnopqrstuvwxyz0123456789") == ""
}

// rightBlock goes as the document's words do.
func rightBlock(b impl.Block) bool {
	if !b.Dir {
		return len(b.Slots) == 0 && len(b.Text) <= 16
	}
	if len(b.Slots) != 4 || len(b.Text) > 0 {
		return false
	}
	times := map[string]int{}
	for _, s := range b.Slots {
		times[s.Name]++
		empty := s.Name == "" && s.Ino == 0
		full := slowName(s.Name) && s.Ino >= 1 && s.Ino <= 8
		if !empty && !full || full && times[s.Name] > 1 {
			return false
		}
	}
	return true
}

func slowBlockText(b impl.Block) string {
	if !b.Dir {
		return "t" + b.Text
	}
	text := "d"
	for _, s := range b.Slots {
		text += string([]byte{byte(s.Ino), byte(len(s.Name))}) + s.Name
	}
	return text
}

func TestNamesByLength(t *testing.T) {
	for _, c := range []struct {
		name string
		want bool
	}{
		{"", false}, {"a", true}, {"0", true}, {"z9", true}, {"abcdef", true}, {"012345", true}, {"zzzzzz", true},
		{"abcdefg", false}, {"0123456", false}, {strings.Repeat("a", 262), false}, {strings.Repeat("a", 20001), false},
		{"/", false}, {"a/b", false}, {" a", false}, {"a ", false}, {"A", false}, {"aB", false}, {"a.b", false}, {"a_b", false}, {"é", false}, {"a\x00", false},
	} {
		if got := impl.NameOk(c.name); got != c.want {
			t.Errorf("NameOk(%q) = %v", c.name, got)
		}
	}
	for n := range 300 {
		if got := impl.NameOk(strings.Repeat("q", n)); got != (n >= 1 && n <= 6) {
			t.Errorf("NameOk of %d bytes = %v", n, got)
		}
	}
}

func TestNamesEachByte(t *testing.T) {
	for n := 1; n <= 7; n++ {
		for at := range n {
			for c := range 256 {
				b := []byte(strings.Repeat("m", n))
				b[at] = byte(c)
				may := c >= 'a' && c <= 'z' || c >= '0' && c <= '9'
				if got := impl.NameOk(string(b)); got != (may && n <= 6) {
					t.Errorf("NameOk(%q) = %v", b, got)
				}
			}
		}
	}
}

func TestDirNew(t *testing.T) {
	b := impl.DirNew()
	if !sameBlock(b, filled()) || !impl.BlockOk(b) {
		t.Errorf("DirNew() = %v", b)
	}
}

// checkBlock holds what is answered of a block against the document's words.
func checkBlock(t *testing.T, b impl.Block) {
	t.Helper()
	right, want := rightBlock(b), ""
	if right {
		want = slowBlockText(b)
	}
	if got := impl.BlockOk(b); got != right {
		t.Errorf("BlockOk(%v) = %v", b, got)
	}
	s, ok := impl.BlockText(b)
	if ok != right || s != want {
		t.Errorf("BlockText(%v) = %q, %v, want %q, %v", b, s, ok, want, right)
	}
	if !ok {
		return
	}
	if back, read := impl.ReadBlock(s); !read || !sameBlock(back, b) {
		t.Errorf("%v comes back as %v, %v", b, back, read)
	}
}

func TestBlocksKnown(t *testing.T) {
	for _, c := range []struct {
		b    impl.Block
		text string
	}{
		{textBlock(""), "t"},
		{textBlock("t"), "tt"},
		{textBlock("d\x00\x00"), "td\x00\x00"},
		{textBlock("0123456789abcdef"), "t0123456789abcdef"},
		{textBlock("\x00\xff\n /"), "t\x00\xff\n /"},
		{impl.Block{Slots: []impl.Slot{}, Text: "x"}, "tx"},
		{filled(), "d\x00\x00\x00\x00\x00\x00\x00\x00"},
		{filled(slot("a", 1)), "d\x01\x01a\x00\x00\x00\x00\x00\x00"},
		{dirBlock(slot("", 0), slot("ab", 3), slot("", 0), slot("", 0)), "d\x00\x00\x03\x02ab\x00\x00\x00\x00"},
		{dirBlock(slot("", 0), slot("", 0), slot("", 0), slot("abc123", 8)), "d\x00\x00\x00\x00\x00\x00\x08\x06abc123"},
		{filled(slot("a", 2), slot("b", 2), slot("c", 2), slot("d", 2)), "d\x02\x01a\x02\x01b\x02\x01c\x02\x01d"},
		{filled(slot("a", 1), slot("aa", 8), slot("a0", 7), slot("0", 6)), "d\x01\x01a\x08\x02aa\x07\x02a0\x06\x010"},
	} {
		if s, ok := impl.BlockText(c.b); !ok || s != c.text || !impl.BlockOk(c.b) {
			t.Errorf("BlockText(%v) = %q, %v", c.b, s, ok)
		}
		if b, ok := impl.ReadBlock(c.text); !ok || !sameBlock(b, c.b) {
			t.Errorf("ReadBlock(%q) = %v, %v", c.text, b, ok)
		}
	}
}

func wantNoBlock(t *testing.T, b impl.Block) {
	t.Helper()
	if impl.BlockOk(b) {
		t.Errorf("BlockOk(%v) is true", b)
	}
	if s, ok := impl.BlockText(b); ok || s != "" {
		t.Errorf("BlockText(%v) = %q, %v, want a refusal", b, s, ok)
	}
}

func TestBlocksRefused(t *testing.T) {
	withText := impl.DirNew()
	withText.Text = "x"
	for _, b := range []impl.Block{
		dirBlock(), dirBlock([]impl.Slot{}...), dirBlock(make([]impl.Slot, 3)...), dirBlock(make([]impl.Slot, 5)...), dirBlock(make([]impl.Slot, 260)...),
		dirBlock(slot("a", 1)), dirBlock(make([]impl.Slot, 0, 4)...), withText,
		filled(slot("a", 0)), filled(slot("", 1)), filled(slot("", 8)), filled(slot("", -1)), filled(slot("", 256)),
		filled(slot("a", 9)), filled(slot("a", -1)), filled(slot("a", 256)), filled(slot("a", 257)), filled(slot("a", math.MinInt)), filled(slot("a", math.MaxInt)),
		filled(slot("A", 1)), filled(slot("a/", 1)), filled(slot("abcdefg", 1)), filled(slot(strings.Repeat("a", 20001), 1)),
		filled(slot("a", 1), slot("a", 1)), filled(slot("a", 1), slot("a", 2)), filled(slot("a", 1), slot("b", 2), slot("a", 3)),
		filled(slot("a", 1), slot("b", 2), slot("c", 3), slot("a", 1)), filled(slot("c", 1), slot("", 0), slot("a", 3), slot("a", 4)),
		textBlock("0123456789abcdefg"), textBlock(strings.Repeat("x", 272)), textBlock(strings.Repeat("x", 20001)),
		{Slots: make([]impl.Slot, 1)}, {Slots: make([]impl.Slot, 4)}, {Slots: []impl.Slot{slot("a", 1)}}, {Slots: make([]impl.Slot, 4), Text: "x"},
	} {
		wantNoBlock(t, b)
		checkBlock(t, b)
	}
}

// One name may stand in two blocks, and one inode under two names; only one name in one block twice is wrong.
func TestNamesTwice(t *testing.T) {
	for a := range 4 {
		for b := range 4 {
			block := impl.DirNew()
			block.Slots[a] = slot("xy", 2)
			block.Slots[b] = slot("xy", 2)
			if got := impl.BlockOk(block); got != (a == b) {
				t.Errorf("xy in slots %d and %d: %v", a, b, got)
			}
			block.Slots[b].Name = "x"
			checkBlock(t, block)
			if !impl.BlockOk(block) {
				t.Errorf("xy and x in slots %d and %d are refused", a, b)
			}
		}
	}
	if !impl.BlockOk(filled(slot("b", 1), slot("a", 1), slot("ab", 1), slot("ba", 1))) {
		t.Error("four names of one inode are refused")
	}
}

func someSlots() []impl.Slot {
	var out []impl.Slot
	for _, name := range []string{"", "a", "b", "z0", "abcdef", "abcdefg", "aB", "\x00"} {
		for _, ino := range []int{math.MinInt, -1, 0, 1, 7, 8, 9, 256, 257, math.MaxInt} {
			out = append(out, slot(name, ino))
		}
	}
	return out
}

func TestBlocksOfSlots(t *testing.T) {
	list := someSlots()
	for a, x := range list {
		for b, y := range list {
			for n := range 6 {
				slots := make([]impl.Slot, n)
				if n > 0 {
					slots[(a+b)%n] = x
					slots[(a+2*b+1)%n] = y
				}
				for _, text := range []string{"", "x"} {
					checkBlock(t, impl.Block{Dir: true, Slots: slots, Text: text})
					checkBlock(t, impl.Block{Slots: slots, Text: text})
				}
			}
		}
	}
}

// Every way to fill four slots from a few right and wrong ones.
func TestBlocksFilledAllWays(t *testing.T) {
	list := []impl.Slot{{}, slot("a", 1), slot("a", 8), slot("b", 1), slot("abcdef", 5), slot("a", 0), slot("", 1), slot("b", 9)}
	seen := map[string]impl.Block{}
	for n := range 8 * 8 * 8 * 8 {
		b := dirBlock(list[n%8], list[n/8%8], list[n/64%8], list[n/512])
		checkBlock(t, b)
		s, ok := impl.BlockText(b)
		if other, twice := seen[s]; ok && twice {
			t.Fatalf("%v and %v are both %q", other, b, s)
		}
		if ok {
			seen[s] = b
		}
	}
}

func TestTextBlocks(t *testing.T) {
	for n := range 40 {
		for _, c := range []string{"\x00", "d", "t", "z", "\x7f", "\x80", "\xff"} {
			checkBlock(t, textBlock(strings.Repeat(c, n)))
		}
	}
	for c := range 256 {
		checkBlock(t, textBlock(string([]byte{byte(c)})))
	}
	for _, s := range someTexts() {
		checkBlock(t, textBlock(s))
	}
}

func slowReadBlock(s string) (impl.Block, bool) {
	if s == "" || s[0] != 'd' && s[0] != 't' {
		return impl.Block{}, false
	}
	b, rest := textBlock(s[1:]), ""
	if s[0] == 'd' {
		b, rest = dirBlock(), s[1:]
		for range 4 {
			if len(rest) < 2 || int(rest[1]) > 6 || len(rest) < 2+int(rest[1]) {
				return impl.Block{}, false
			}
			n := int(rest[1])
			b.Slots = append(b.Slots, slot(rest[2:2+n], int(rest[0])))
			rest = rest[2+n:]
		}
	}
	if rest != "" || !rightBlock(b) {
		return impl.Block{}, false
	}
	return b, true
}

func checkBlockText(t *testing.T, s string) {
	t.Helper()
	want, right := slowReadBlock(s)
	b, ok := impl.ReadBlock(s)
	if ok != right || !sameBlock(b, want) {
		t.Errorf("ReadBlock(%q) = %v, %v, want %v, %v", s, b, ok, want, right)
	}
	if !ok {
		return
	}
	if back, wrote := impl.BlockText(b); !wrote || back != s {
		t.Errorf("%q is written back as %q, %v", s, back, wrote)
	}
}

func wantNoBlockText(t *testing.T, s string) {
	t.Helper()
	if b, ok := impl.ReadBlock(s); ok || !sameBlock(b, impl.Block{}) {
		t.Errorf("ReadBlock(%q) = %v, %v, want a refusal", s, b, ok)
	}
}

var rightBlockTexts = []string{
	"t", "tx", "t0123456789abcdef", "td\x00\x00\x00\x00\x00\x00\x00\x00",
	"d\x00\x00\x00\x00\x00\x00\x00\x00",
	"d\x01\x01a\x00\x00\x00\x00\x00\x00",
	"d\x00\x00\x03\x02ab\x00\x00\x00\x00",
	"d\x02\x01a\x02\x01b\x02\x01c\x02\x01d",
	"d\x08\x06abcdef\x01\x05abcde\x07\x06zzzzz0\x08\x010",
}

func TestReadBlockEachByte(t *testing.T) {
	for _, s := range rightBlockTexts {
		if _, ok := impl.ReadBlock(s); !ok {
			t.Errorf("ReadBlock(%q) is false", s)
		}
		for i := range len(s) {
			for c := range 256 {
				b := []byte(s)
				b[i] = byte(c)
				checkBlockText(t, string(b))
			}
		}
	}
}

func TestReadBlockCutsAndMore(t *testing.T) {
	for _, s := range rightBlockTexts {
		for k := range len(s) {
			checkBlockText(t, s[:k])
			checkBlockText(t, s[k+1:])
			checkBlockText(t, s[:k]+s[k+1:])
			for c := range 256 {
				checkBlockText(t, s[:k]+string([]byte{byte(c)})+s[k:])
			}
			if s[0] == 'd' {
				wantNoBlockText(t, s[:k])
			}
		}
		for c := range 256 {
			checkBlockText(t, s+string([]byte{byte(c)}))
			if s[0] == 'd' {
				wantNoBlockText(t, s+string([]byte{byte(c)}))
			}
			if c != 'd' && c != 't' {
				wantNoBlockText(t, string([]byte{byte(c)})+s[1:])
				wantNoBlockText(t, string([]byte{byte(c)})+s)
			}
		}
		checkBlockText(t, s+s)
		checkBlockText(t, s+strings.Repeat("\x00", 8))
	}
}

func TestReadBlockRefuses(t *testing.T) {
	for _, s := range []string{
		"", "d", "D", "T", "x", "t0123456789abcdefg", "t" + strings.Repeat("x", 272), "t" + strings.Repeat("x", 20001), strings.Repeat("d", 20001),
		"d\x01\x81\x00a\x00\x00\x00\x00\x00\x00",     // a length in a longer form
		"d\x01\x81\x80\x00a\x00\x00\x00\x00\x00\x00", // and in a yet longer one
		"d\x00\x80\x00\x00\x00\x00\x00\x00\x00",
		"d\x00\x00\x00\x00\x00\x00\x00\x80\x00",
		"d\x01\x07abcdefg\x00\x00\x00\x00\x00\x00",
		"d\x01\x82\x01" + strings.Repeat("a", 130) + "\x00\x00\x00\x00\x00\x00",
		"d\x01\x01a\x02\x01a\x00\x00\x00\x00", // one name twice
		"d\x01\x01a\x00\x00\x00\x00\x01\x01a",
		"d\x01\x00\x00\x00\x00\x00\x00\x00",              // an inode without a name
		"d\x00\x01a\x00\x00\x00\x00\x00\x00",             // a name without an inode
		"d\x09\x01a\x00\x00\x00\x00\x00\x00",             // no such inode
		"d\x01\x01A\x00\x00\x00\x00\x00\x00",             // no name
		"d\x00\x00\x00\x00\x00\x00",                      // three slots
		"d\x00\x00\x00\x00\x00\x00\x00\x00\x00\x00",      // five slots
		"d\x01\x01a\x02\x01b\x03\x01c\x04\x01d\x05\x01e", // five names
		"d\x01\xff\xff\xff\xff\xff\xff\xff\xff\x7f",
	} {
		wantNoBlockText(t, s)
		checkBlockText(t, s)
	}
	for _, s := range someTexts() {
		checkBlockText(t, s)
		checkBlockText(t, "d"+s)
		checkBlockText(t, "t"+s)
	}
}

func TestSlotOf(t *testing.T) {
	full := filled(slot("a", 4), slot("bb", 3), slot("c0", 3), slot("abcdef", 1))
	for k, s := range full.Slots {
		if got := impl.SlotOf(full, s.Name); got != k {
			t.Errorf("SlotOf %q = %d, want %d", s.Name, got, k)
		}
		alone := impl.DirNew()
		alone.Slots[k] = slot("xyz", 8)
		if got := impl.SlotOf(alone, "xyz"); got != k {
			t.Errorf("SlotOf %q = %d, want %d", "xyz", got, k)
		}
	}
	for _, name := range []string{"", "b", "aa", "bbb", "c", "abcde", "abcdefg", "A", "\x00", strings.Repeat("a", 20001)} {
		for _, b := range []impl.Block{full, impl.DirNew(), filled(slot("a", 1)), textBlock(""), textBlock("b"), textBlock("aa"), {}, dirBlock()} {
			if got := impl.SlotOf(b, name); got != -1 {
				t.Errorf("SlotOf(%v, %q) = %d, want -1", b, name, got)
			}
		}
	}
}

// A block need not be right for its slots to be looked at; of a name that is there twice the first place is told.
func TestSlotOfBlocksThatAreNotRight(t *testing.T) {
	for _, c := range []struct {
		b    impl.Block
		name string
		want int
	}{
		{filled(slot("a", 1), slot("b", 2), slot("a", 3), slot("b", 4)), "a", 0},
		{filled(slot("a", 1), slot("b", 2), slot("a", 3), slot("b", 4)), "b", 1},
		{dirBlock(slot("a", 1)), "a", 0},
		{dirBlock(slot("", 0), slot("", 0), slot("", 0), slot("", 0), slot("", 0), slot("a", 1)), "a", 5},
		{filled(slot("", 0), slot("a", 0)), "a", 1},
		{filled(slot("", 0), slot("a", 99)), "a", 1},
		{filled(slot("", 5)), "", -1},
		{impl.Block{Slots: []impl.Slot{slot("b", 1), slot("a", 1)}, Text: "a"}, "a", 1},
		{impl.Block{Dir: true, Slots: []impl.Slot{slot("b", 1), slot("a", 1)}, Text: "a"}, "a", 1},
	} {
		if got := impl.SlotOf(c.b, c.name); got != c.want {
			t.Errorf("SlotOf(%v, %q) = %d, want %d", c.b, c.name, got, c.want)
		}
	}
}

// A name that was written is found, in what is read, where it was.
func TestNamesAreFoundWhereTheyAre(t *testing.T) {
	names := []string{"", "a", "b", "ab", "ba", "abcdef"}
	for n := range 6 * 6 * 6 * 6 {
		b := impl.DirNew()
		for k, at := 0, n; k < 4; k, at = k+1, at/6 {
			if name := names[at%6]; name != "" {
				b.Slots[k] = slot(name, k+1)
			}
		}
		s, ok := impl.BlockText(b)
		if !ok {
			continue
		}
		back, _ := impl.ReadBlock(s)
		for _, name := range names {
			want := slices.IndexFunc(b.Slots, func(x impl.Slot) bool { return x.Name == name && name != "" })
			if got := impl.SlotOf(back, name); got != want {
				t.Fatalf("SlotOf(%v, %q) = %d, want %d", back, name, got, want)
			}
		}
	}
}

func TestBlocksAreNotWrittenInto(t *testing.T) {
	full := []impl.Slot{slot("b", 2), {}, slot("a", 1), {}, slot("spare", 3), slot("b", 4)}
	for n := range len(full) + 1 {
		for _, dir := range []bool{false, true} {
			room := slices.Clone(full)
			for _, text := range []string{"", "x"} {
				b := impl.Block{Dir: dir, Slots: room[:n], Text: text}
				impl.BlockOk(b)
				impl.BlockText(b)
				impl.SlotOf(b, "a")
				if !slices.Equal(room, full) || b.Dir != dir || len(b.Slots) != n || b.Text != text {
					t.Errorf("an argument was written into: %v, %v", room, b)
				}
			}
		}
	}
}

func spoilBlock(b impl.Block) {
	room := b.Slots[:cap(b.Slots)]
	for k := range room {
		room[k] = slot("spoilt", 77)
	}
}

// Lists of two answers share nothing: what is written into one is not seen in another.
func TestBlocksAreNewMemory(t *testing.T) {
	one, other := impl.DirNew(), impl.DirNew()
	spoilBlock(one)
	if !sameBlock(other, filled()) || !sameBlock(impl.DirNew(), filled()) {
		t.Error("new blocks share slots")
	}
	const text = "d\x02\x01b\x00\x00\x01\x01a\x00\x00"
	one, _ = impl.ReadBlock(text)
	other, _ = impl.ReadBlock(text)
	spoilBlock(one)
	again, _ := impl.ReadBlock(text)
	if want := dirBlock(slot("b", 2), slot("", 0), slot("a", 1), slot("", 0)); !sameBlock(other, want) || !sameBlock(again, want) {
		t.Errorf("blocks that were read share slots: %v, %v", other, again)
	}
}

// within tells whether a piece lies in the bytes of a text.
func within(piece, text string) bool {
	if piece == "" || text == "" {
		return false
	}
	from, at := uintptr(unsafe.Pointer(unsafe.StringData(text))), uintptr(unsafe.Pointer(unsafe.StringData(piece)))
	return at < from+uintptr(len(text)) && from < at+uintptr(len(piece))
}

func TestBlockTextsAreNewMemory(t *testing.T) {
	dir := strings.Clone("d\x08\x06abcdef\x01\x05abcde\x00\x00\x00\x00")
	b, ok := impl.ReadBlock(dir)
	if !ok || within(b.Slots[0].Name, dir) || within(b.Slots[1].Name, dir) {
		t.Error("a name shares the bytes that it was read from")
	}
	text := strings.Clone("t0123456789abcdef")
	b, ok = impl.ReadBlock(text)
	if !ok || within(b.Text, text) {
		t.Error("a text shares the bytes that it was read from")
	}
	s, ok := impl.BlockText(b)
	if !ok || within(s, b.Text) || within(b.Text, s) {
		t.Error("a block's bytes share its text")
	}
}

// A text that was written stays as it is when its block is changed.
func TestBlockTextKeepsNothing(t *testing.T) {
	b := filled(slot("a", 1))
	s, ok := impl.BlockText(b)
	spoilBlock(b)
	if !ok || s != "d\x01\x01a\x00\x00\x00\x00\x00\x00" {
		t.Errorf("a text changed to %q", s)
	}
}
