package tests

import (
	"math"
	"slices"
	"strings"
	"testing"

	"loop.example/g00235/impl"
)

// The signatures and limits that the document gives.
var (
	_ func(int) (string, bool)              = impl.VarText
	_ func(string, int) (int, int, bool)    = impl.ReadVar
	_ func(string) (string, bool)           = impl.ShortText
	_ func(string, int) (string, int, bool) = impl.ReadShort
	_ func(string) (string, bool)           = impl.Hex
	_ func(string) (string, bool)           = impl.Unhex
	_ func(int) string                      = impl.Decimal
	_ func(string) (int, bool)              = impl.ReadDecimal
	_ func(string) ([]string, bool)         = impl.PartsOf
)

func TestWordsLimits(t *testing.T) {
	if impl.MaxText != 20000 || impl.MaxNumber != 1000000000 || impl.MaxWords != 600 || impl.MaxParts != 10 {
		t.Error("a limit is not the document's")
	}
}

var varTexts = []struct {
	n    int
	text string
}{
	{0, "\x00"},
	{1, "\x01"},
	{127, "\x7f"},
	{128, "\x80\x01"},
	{129, "\x81\x01"},
	{255, "\xff\x01"},
	{256, "\x80\x02"},
	{300, "\xac\x02"},
	{16383, "\xff\x7f"},
	{16384, "\x80\x80\x01"},
	{2097151, "\xff\xff\x7f"},
	{2097152, "\x80\x80\x80\x01"},
	{268435455, "\xff\xff\xff\x7f"},
	{268435456, "\x80\x80\x80\x80\x01"},
	{impl.MaxNumber - 1, "\xff\x93\xeb\xdc\x03"},
	{impl.MaxNumber, "\x80\x94\xeb\xdc\x03"},
}

func TestVarTextBytes(t *testing.T) {
	for _, c := range varTexts {
		if s, ok := impl.VarText(c.n); !ok || s != c.text {
			t.Errorf("VarText(%d) = %q, %v, want %q", c.n, s, ok, c.text)
		}
	}
}

func TestVarTextRefuses(t *testing.T) {
	for _, n := range []int{-1, -128, impl.MaxNumber + 1, 1 << 32, math.MinInt, math.MaxInt} {
		if s, ok := impl.VarText(n); ok || s != "" {
			t.Errorf("VarText(%d) = %q, %v, want a refusal", n, s, ok)
		}
	}
}

func TestReadVarReadsBack(t *testing.T) {
	for _, c := range varTexts {
		for _, ahead := range []string{"", "\x00", "\x80", "ab\xff"} {
			for _, behind := range []string{"", "\x00", "\x01", "\xff", "rest"} {
				n, at, ok := impl.ReadVar(ahead+c.text+behind, len(ahead))
				if !ok || n != c.n || at != len(ahead)+len(c.text) {
					t.Errorf("ReadVar(%q, %d) = %d, %d, %v, want %d", ahead+c.text+behind, len(ahead), n, at, ok, c.n)
				}
			}
		}
	}
	for n := 0; n <= impl.MaxNumber; n += 1 + n/1000 {
		s, ok := impl.VarText(n)
		m, at, right := impl.ReadVar(s, 0)
		if !ok || !right || m != n || at != len(s) {
			t.Fatalf("%d: VarText %q, %v, read as %d, %d, %v", n, s, ok, m, at, right)
		}
	}
}

func wantNoVar(t *testing.T, text string, at int) {
	t.Helper()
	if n, end, ok := impl.ReadVar(text, at); ok || n != 0 || end != 0 {
		t.Errorf("ReadVar(%q, %d) = %d, %d, %v, want a refusal", text, at, n, end, ok)
	}
}

func TestReadVarRefusesLongerForms(t *testing.T) {
	for _, c := range varTexts {
		last := len(c.text) - 1
		longer := c.text[:last] + string([]byte{c.text[last] | 128})
		for noughts := range 12 {
			wantNoVar(t, longer+strings.Repeat("\x80", noughts)+"\x00", 0)
		}
	}
}

func TestReadVarRefusesTooMuch(t *testing.T) {
	wantNoVar(t, "\x81\x94\xeb\xdc\x03", 0) // MaxNumber + 1
	wantNoVar(t, "\x80\x94\xeb\xdc\x04", 0)
	wantNoVar(t, "\xff\xff\xff\xff\x0f", 0)
	wantNoVar(t, "\xff\xff\xff\xff\x7f", 0)
	for zeros := 5; zeros < 80; zeros++ { // weights that wrap round an int
		wantNoVar(t, strings.Repeat("\x80", zeros)+"\x01", 0)
		wantNoVar(t, strings.Repeat("\xff", zeros)+"\x7f", 0)
		wantNoVar(t, "\x81"+strings.Repeat("\x80", zeros)+"\x01", 0)
	}
}

func TestReadVarRefusesEarlyEndsAndPlaces(t *testing.T) {
	for _, c := range varTexts {
		for k := range len(c.text) {
			wantNoVar(t, c.text[:k], 0)
		}
		for _, at := range []int{math.MinInt, -1, len(c.text), len(c.text) + 1, math.MaxInt} {
			wantNoVar(t, c.text, at)
		}
	}
	for _, at := range []int{-1, 0, 1} {
		wantNoVar(t, "", at)
	}
}

// Of all texts of one or two bytes just those are read that VarText writes.
func TestReadVarTakesNothingElse(t *testing.T) {
	for a := range 256 {
		for b := range 256 {
			text := string([]byte{byte(a), byte(b)})
			n, at, ok := impl.ReadVar(text, 0)
			switch {
			case a < 128:
				if !ok || n != a || at != 1 {
					t.Errorf("ReadVar(%q, 0) = %d, %d, %v", text, n, at, ok)
				}
			case b > 0 && b < 128:
				if !ok || n != a-128+128*b || at != 2 {
					t.Errorf("ReadVar(%q, 0) = %d, %d, %v", text, n, at, ok)
				}
			default:
				wantNoVar(t, text, 0)
			}
		}
	}
}

func allBytes() string {
	var b []byte
	for c := range 256 {
		b = append(b, byte(c))
	}
	return string(b)
}

func someTexts() []string {
	return []string{"", "a", "\x00", "\x80", "\xff\xfe", "two words", "käse", allBytes(),
		strings.Repeat("x", 127), strings.Repeat("\xff", 128), strings.Repeat("y", 16384),
		strings.Repeat("z", impl.MaxText-1), strings.Repeat("\x00", impl.MaxText)}
}

func TestShortTextReadsBack(t *testing.T) {
	for _, s := range someTexts() {
		head, _ := impl.VarText(len(s))
		text, ok := impl.ShortText(s)
		if !ok || text != head+s {
			t.Fatalf("ShortText of %d bytes: %d bytes, %v", len(s), len(text), ok)
		}
		for _, ahead := range []string{"", "\x80", "abc"} {
			for _, behind := range []string{"", "\x00", "more"} {
				got, at, right := impl.ReadShort(ahead+text+behind, len(ahead))
				if !right || got != s || at != len(ahead)+len(text) {
					t.Errorf("ReadShort of %d bytes: %d bytes, %d, %v", len(s), len(got), at, right)
				}
			}
		}
	}
}

func TestShortTextRefuses(t *testing.T) {
	for _, n := range []int{impl.MaxText + 1, 2 * impl.MaxText} {
		if s, ok := impl.ShortText(strings.Repeat("a", n)); ok || s != "" {
			t.Errorf("ShortText of %d bytes is not refused", n)
		}
	}
}

func wantNoShort(t *testing.T, text string, at int) {
	t.Helper()
	if s, end, ok := impl.ReadShort(text, at); ok || s != "" || end != 0 {
		t.Errorf("ReadShort(%d bytes, %d) = %d bytes, %d, %v, want a refusal", len(text), at, len(s), end, ok)
	}
}

func TestReadShortRefuses(t *testing.T) {
	for _, s := range []string{"", "a", "abc", allBytes()} {
		text, _ := impl.ShortText(s)
		for k := range len(text) {
			wantNoShort(t, text[:k], 0)
		}
		for _, at := range []int{math.MinInt, -1, len(text), len(text) + 1, math.MaxInt} {
			wantNoShort(t, text, at)
		}
	}
	wantNoShort(t, "\x80\x00", 0)  // a longer form of the length 0
	wantNoShort(t, "\x81\x00a", 0) // and of the length 1
	wantNoShort(t, "\x02a", 0)     // one byte too few
	wantNoShort(t, "zz\x02a", 2)   // bytes ahead do not count
	wantNoShort(t, "\x81\x94\xeb\xdc\x03", 0)
	greatest, _ := impl.VarText(impl.MaxNumber)
	wantNoShort(t, greatest+"abc", 0)
	over, _ := impl.VarText(impl.MaxText + 1)
	wantNoShort(t, over+strings.Repeat("a", impl.MaxText+1), 0)
	wantNoShort(t, over+strings.Repeat("a", impl.MaxText+9), 0)
}

func TestHexFigures(t *testing.T) {
	for _, c := range []struct{ text, hex string }{
		{"", ""}, {"\x00", "00"}, {"\x0f", "0f"}, {"\xf0", "f0"}, {"\x19\xa0", "19a0"}, {"az", "617a"}, {"\xde\xad\xbe\xef", "deadbeef"},
	} {
		if s, ok := impl.Hex(c.text); !ok || s != c.hex {
			t.Errorf("Hex(%q) = %q, %v", c.text, s, ok)
		}
		if s, ok := impl.Unhex(c.hex); !ok || s != c.text {
			t.Errorf("Unhex(%q) = %q, %v", c.hex, s, ok)
		}
	}
}

func TestHexReadsBack(t *testing.T) {
	for _, s := range someTexts() {
		h, ok := impl.Hex(s)
		back, right := impl.Unhex(h)
		if !ok || len(h) != 2*len(s) || !right || back != s {
			t.Errorf("Hex of %d bytes: %d figures, %v; read back as %d bytes, %v", len(s), len(h), ok, len(back), right)
		}
	}
}

func TestHexRefuses(t *testing.T) {
	if s, ok := impl.Hex(strings.Repeat("a", impl.MaxText+1)); ok || s != "" {
		t.Error("Hex takes more than MaxText bytes")
	}
	for _, n := range []int{2*impl.MaxText + 1, 2*impl.MaxText + 2} {
		if s, ok := impl.Unhex(strings.Repeat("0", n)); ok || s != "" {
			t.Errorf("Unhex takes %d figures", n)
		}
	}
	for _, text := range []string{"0", "a", "000", "abc", "A0", "0A", "FF", "0x", "g0", "0g", " 0", "0 ", "00 ", "-1", "0\x00", "00zz00", "zz", "é"} {
		if s, ok := impl.Unhex(text); ok || s != "" {
			t.Errorf("Unhex(%q) = %q, %v, want a refusal", text, s, ok)
		}
	}
}

// Each pair of bytes is figures just when both are among the sixteen.
func TestUnhexTakesJustFigures(t *testing.T) {
	const figures = "0123456789abcdef"
	for a := range 256 {
		for b := range 256 {
			text := string([]byte{byte(a), byte(b)})
			high, low := strings.IndexByte(figures, byte(a)), strings.IndexByte(figures, byte(b))
			want, right := "", high >= 0 && low >= 0
			if right {
				want = string([]byte{byte(16*high + low)})
			}
			if s, ok := impl.Unhex(text); ok != right || s != want {
				t.Errorf("Unhex(%q) = %q, %v", text, s, ok)
			}
		}
	}
}

func TestDecimalFigures(t *testing.T) {
	for _, c := range []struct {
		n    int
		text string
	}{
		{0, "0"}, {1, "1"}, {-1, "-1"}, {9, "9"}, {10, "10"}, {-10, "-10"}, {-5, "-5"}, {100, "100"}, {1203, "1203"},
		{impl.MaxNumber, "1000000000"}, {impl.MaxNumber + 1, "1000000001"}, {-impl.MaxNumber, "-1000000000"},
		{math.MaxInt, "9223372036854775807"}, {math.MinInt, "-9223372036854775808"}, {math.MinInt + 1, "-9223372036854775807"},
	} {
		if s := impl.Decimal(c.n); s != c.text {
			t.Errorf("Decimal(%d) = %q", c.n, s)
		}
	}
}

func TestDecimalReadsBack(t *testing.T) {
	list := []int{impl.MaxNumber, impl.MaxNumber - 1, 999999999, 100000000}
	for n := 0; n <= impl.MaxNumber; n += 1 + n/1000 {
		list = append(list, n)
	}
	for _, n := range list {
		if m, ok := impl.ReadDecimal(impl.Decimal(n)); !ok || m != n {
			t.Fatalf("%d is read back as %d, %v", n, m, ok)
		}
	}
}

func TestReadDecimalRefuses(t *testing.T) {
	for _, text := range []string{
		"", "00", "01", "007", "0000000000", "01000000000", "-0", "-1", "-5", "+0", "+1", "-", "+", " ", " 1", "1 ", "1 2",
		"1000000001", "1000000010", "9999999999", "10000000000", "9223372036854775807", "9223372036854775808",
		"18446744073709551616", "18446744073709551617", strings.Repeat("9", 1000), "1" + strings.Repeat("0", 64),
		"1a", "a", "0x1", "1_0", "1.0", "1e3", "12\x00", "\x00", "1\n", "/", ":", "1/", "1:", "١", "\xff",
	} {
		if n, ok := impl.ReadDecimal(text); ok || n != 0 {
			t.Errorf("ReadDecimal(%q) = %d, %v, want a refusal", text, n, ok)
		}
	}
	for _, n := range []int{impl.MaxNumber + 1, -1, math.MaxInt, math.MinInt} {
		if m, ok := impl.ReadDecimal(impl.Decimal(n)); ok || m != 0 {
			t.Errorf("ReadDecimal of %d = %d, %v, want a refusal", n, m, ok)
		}
	}
}

func TestPartsOfLines(t *testing.T) {
	ten := []string{"a", "b", "c", "d", "e", "f", "g", "h", "i", "j"}
	for _, c := range []struct {
		line  string
		parts []string
	}{
		{"", nil}, {" ", nil}, {"     ", nil},
		{"a", []string{"a"}}, {" a", []string{"a"}}, {"a ", []string{"a"}}, {"  a  ", []string{"a"}},
		{"make /a", []string{"make", "/a"}}, {" tick  1 2 ", []string{"tick", "1", "2"}}, {"a   b", []string{"a", "b"}},
		{"b a b", []string{"b", "a", "b"}}, {"~ ! #", []string{"~", "!", "#"}},
		{strings.Join(ten, " "), ten}, {"  " + strings.Join(ten, "  ") + "   ", ten},
		{strings.Repeat("x", impl.MaxWords), []string{strings.Repeat("x", impl.MaxWords)}},
		{strings.Repeat(" ", impl.MaxWords), nil},
		{strings.Repeat(" ", impl.MaxWords-1) + "x", []string{"x"}},
	} {
		if p, ok := impl.PartsOf(c.line); !ok || !slices.Equal(p, c.parts) {
			t.Errorf("PartsOf(%q) = %q, %v, want %q", c.line, p, ok, c.parts)
		}
	}
}

func TestPartsOfRefuses(t *testing.T) {
	for _, line := range []string{
		strings.Repeat("x", impl.MaxWords+1), strings.Repeat(" ", impl.MaxWords+1), strings.Repeat(" ", impl.MaxWords) + "x",
		"a b c d e f g h i j k", "  a b c d e f g h i j k  ",
		"a\tb", "a\n", "\r", "caf\xc3\xa9", "\xc2\xa0", "\xc2\x85", "  \x7f", "a b \x1f",
	} {
		if p, ok := impl.PartsOf(line); ok || len(p) != 0 {
			t.Errorf("PartsOf(%q) = %q, %v, want a refusal", line, p, ok)
		}
	}
}

func TestPartsOfEachByte(t *testing.T) {
	for c := range 256 {
		one := string([]byte{byte(c)})
		p, ok := impl.PartsOf("a" + one + "b")
		want := []string{"a" + one + "b"}
		switch {
		case c < 32 || c > 126:
			want = nil
		case c == 32:
			want = []string{"a", "b"}
		}
		if ok != (c >= 32 && c <= 126) || !slices.Equal(p, want) {
			t.Errorf("byte %d: %q, %v", c, p, ok)
		}
	}
}

// Lists of two answers share nothing: what is written into one is not seen in another.
func TestPartsOfIsNewMemory(t *testing.T) {
	first, _ := impl.PartsOf("a b c")
	first[0] = "changed"
	_ = append(first, "more")
	second, ok := impl.PartsOf("a b c")
	if !ok || !slices.Equal(second, []string{"a", "b", "c"}) {
		t.Errorf("a second answer is %q", second)
	}
}

// No argument makes a function panic, and beside a false all else is zero.
func TestWordsAnswerAlways(t *testing.T) {
	texts := append(someTexts(), strings.Repeat("1", impl.MaxText+1), strings.Repeat("\x80", 300), strings.Repeat("f", 2*impl.MaxText+2), "\xff\xff\xff\xff\x03", "-")
	places := []int{math.MinInt, math.MinInt + 1, -1, 0, 1, 2, 5, 127, 128, 600, impl.MaxText, impl.MaxText + 1, math.MaxInt - 1, math.MaxInt}
	for _, s := range texts {
		for _, at := range places {
			if n, end, ok := impl.ReadVar(s, at); !ok && (n != 0 || end != 0) {
				t.Errorf("ReadVar at %d: %d, %d beside a false", at, n, end)
			}
			if u, end, ok := impl.ReadShort(s, at); !ok && (u != "" || end != 0) {
				t.Errorf("ReadShort at %d: %q, %d beside a false", at, u, end)
			}
		}
		for _, f := range []func(string) (string, bool){impl.ShortText, impl.Hex, impl.Unhex} {
			if u, ok := f(s); !ok && u != "" {
				t.Errorf("%d bytes beside a false", len(u))
			}
		}
		if n, ok := impl.ReadDecimal(s); !ok && n != 0 {
			t.Errorf("ReadDecimal: %d beside a false", n)
		}
		if p, ok := impl.PartsOf(s); !ok && len(p) != 0 {
			t.Errorf("PartsOf: %q beside a false", p)
		}
	}
	for _, n := range places {
		if s, ok := impl.VarText(n); !ok && s != "" {
			t.Errorf("VarText(%d): %q beside a false", n, s)
		}
		if impl.Decimal(n) == "" {
			t.Errorf("Decimal(%d) is empty", n)
		}
	}
}
