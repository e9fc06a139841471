package tests

import (
	"regexp"
	"runtime"
	"slices"
	"strconv"
	"strings"
	"sync"
	"testing"

	"loop.example/g00235/impl"
)

// The signatures that the document gives.
var (
	_ func(text string) (events []impl.Event, fault int) = impl.ReadScript
	_ func(list []impl.Node) string                      = impl.ShowTree
	_ func(text string) string                           = impl.Console
)

func TestConsoleConstants(t *testing.T) {
	if impl.MaxScript != 3000 || impl.MaxLines != 80 {
		t.Errorf("the limits of a script are %d and %d", impl.MaxScript, impl.MaxLines)
	}
}

// slowLines are the lines of a text, byte by byte.
func slowLines(text string) []string {
	var lines []string
	from := 0
	for k := range len(text) {
		if text[k] == 10 {
			lines = append(lines, text[from:k])
			from = k + 1
		}
	}
	if from < len(text) {
		lines = append(lines, text[from:])
	}
	return lines
}

// slowLineParts goes through a line byte by byte, too.
func slowLineParts(line string) ([]string, bool) {
	var list []string
	gap := true
	for k := range len(line) {
		switch c := line[k]; {
		case c < 32 || c > 126:
			return nil, false
		case c == 32:
			gap = true
			continue
		case gap:
			list = append(list, "")
		}
		gap = false
		list[len(list)-1] += line[k : k+1]
	}
	return list, len(line) <= 600 && len(list) <= 10
}

var figures = regexp.MustCompile(`^(0|[1-9][0-9]{0,8}|1000000000)$`)

// slowNumber is below 0 when there is none.
func slowNumber(s string) int {
	if !figures.MatchString(s) {
		return -1
	}
	n, _ := strconv.Atoi(s)
	return n
}

// slowEvent is of no kind when the parts are those of no event.
func slowEvent(p []string) impl.Event {
	switch p[0] + " " + strconv.Itoa(len(p)-1) {
	case "make 1":
		return evMake(p[1])
	case "dir 1":
		return evDir(p[1])
	case "write 3":
		return evWrite(p[1], slowNumber(p[2]), p[3])
	case "remove 1":
		return evRemove(p[1])
	case "move 2":
		return evMove(p[1], p[2])
	case "back 1":
		return evBack(slowNumber(p[1]))
	case "flush 0":
		return evFlush()
	case "fall 0":
		return evFall()
	}
	return impl.Event{}
}

func slowScript(text string) ([]impl.Event, int) {
	lines := slowLines(text)
	if len(text) > 3000 || len(lines) > 80 {
		return nil, -1
	}
	var events []impl.Event
	for k, line := range lines {
		p, ok := slowLineParts(line)
		if ok && (len(p) == 0 || p[0][0] == '#') {
			continue
		}
		if !ok || !slowEventOk(slowEvent(p)) || len(events) >= 60 {
			return nil, k + 1
		}
		events = append(events, slowEvent(p))
	}
	return events, 0
}

func slowShow(list []impl.Node) string {
	s := ""
	for _, n := range list {
		if n.Dir {
			s += n.Path + "/\n"
		} else {
			s += n.Path + " " + n.Head + n.Tail + "\n"
		}
	}
	return s
}

func slowConsole(text string) string {
	events, fault := slowScript(text)
	if fault != 0 {
		return "fault " + strconv.Itoa(fault) + "\n"
	}
	w, _ := slowLife(events)
	s := ""
	for k, code := range w.Codes {
		s += strconv.Itoa(code) + map[bool]string{true: "\n", false: " "}[k == len(w.Codes)-1]
	}
	return s + slowShow(slowNodes(w.Fs.Mem.Disk)) + "disk\n" + slowShow(slowNodes(slowDisk(w.Fs.Device)))
}

// brief keeps what is told of long texts short.
func brief(text string) string {
	if len(text) > 300 {
		text = text[:300] + ".. (" + strconv.Itoa(len(text)) + " bytes)"
	}
	return strconv.Quote(text)
}

// checkScript holds what is read of a text against the document.
func checkScript(t *testing.T, text string) ([]impl.Event, int) {
	t.Helper()
	events, fault := impl.ReadScript(text)
	want, line := slowScript(text)
	if fault != line || !slices.Equal(events, want) {
		t.Errorf("ReadScript(%s) = %v, %d, want %v, %d", brief(text), events, fault, want, line)
	}
	if fault != 0 && len(events) != 0 {
		t.Errorf("ReadScript(%s) has a fault in line %d, and tells %v", brief(text), fault, events)
	}
	return events, fault
}

func checkConsole(t *testing.T, text string) string {
	t.Helper()
	checkScript(t, text)
	got, want := impl.Console(text), slowConsole(text)
	if got != want {
		t.Errorf("Console(%s) = %q, want %q", brief(text), got, want)
	}
	return got
}

func wantEvents(t *testing.T, text string, want ...impl.Event) {
	t.Helper()
	if events, fault := checkScript(t, text); fault != 0 || !slices.Equal(events, want) {
		t.Errorf("ReadScript(%s) = %v, %d, want %v", brief(text), events, fault, want)
	}
}

func wantFault(t *testing.T, text string, line int) {
	t.Helper()
	if events, fault := checkScript(t, text); fault != line || len(events) != 0 {
		t.Errorf("ReadScript(%s) = %v, %d, want nothing and %d", brief(text), events, fault, line)
	}
	if got, want := checkConsole(t, text), "fault "+strconv.Itoa(line)+"\n"; got != want {
		t.Errorf("Console(%s) = %q, want %q", brief(text), got, want)
	}
}

// lineWords are the eight words with just the parts that they have, and the event of each.
func lineWords() map[string]impl.Event {
	return map[string]impl.Event{
		"make /a": evMake("/a"), "dir /a/b": evDir("/a/b"), "write /a 1 text": evWrite("/a", 1, "text"), "remove /c": evRemove("/c"),
		"move /a /b/c": evMove("/a", "/b/c"), "back 20": evBack(20), "flush": evFlush(), "fall": evFall(),
	}
}

func TestLinesOfEachWord(t *testing.T) {
	for line, e := range lineWords() {
		spread := strings.ReplaceAll(line, " ", "   ")
		for _, text := range []string{line, line + "\n", " " + line, line + " ", "   " + spread + "   \n"} {
			wantEvents(t, text, e)
		}
		wantEvents(t, line+"\n"+spread+"\n"+line, e, e, e)
	}
	wantEvents(t, "fall\nmake /a\nback 0\nwrite /a 0 x\nflush\nmove /a /b\ndir /d\nremove /b\n",
		evFall(), evMake("/a"), evBack(0), evWrite("/a", 0, "x"), evFlush(), evMove("/a", "/b"), evDir("/d"), evRemove("/b"))
}

// A part less and a part more, at each place: a number, a path, a text or a word.
func TestLinesWithOtherParts(t *testing.T) {
	for line := range lineWords() {
		list := strings.Fields(line)
		for k := range list {
			wantFault(t, strings.Join(slices.Delete(slices.Clone(list), k, k+1), " ")+"\nflush # x", map[bool]int{true: 2, false: 1}[len(list) == 1])
		}
		// No word is put ahead of a line: behind "make", "flush" is a path.
		for k := 0; k <= len(list); k++ {
			for _, more := range []string{"0", "1", "20", "/a", "text", "flush", "-", ".", "//"} {
				text := strings.Join(slices.Insert(slices.Clone(list), k, more), " ")
				wantFault(t, text, 1)
				wantFault(t, text+"\n", 1)
			}
		}
		for n := 1; len(list)+n <= 10; n++ {
			wantFault(t, line+strings.Repeat(" 1", n), 1)
		}
		// A mark that begins another part than the first one is nothing but a byte of it.
		wantFault(t, line+" #", 1)
		wantFault(t, line+" # 1", 1)
	}
	for _, text := range []string{"write /a 0 1 text", "write /a 0 text 1", "write 0 /a text", "write /a text 0", "write /a 0", "write /a text", "write 0 text", "back 1 2", "back 0 0", "flush 1", "flush 0", "fall 0",
		"make /a 0", "make 1 /a", "dir /a 1", "remove /a 1", "move /a", "move /a /b 1", "move /a /b /c", "make", "dir", "write", "remove", "move", "back", "make /a /b"} {
		wantFault(t, text, 1)
	}
}

func TestWordsThatAreNone(t *testing.T) {
	for line := range lineWords() {
		word, rest, _ := strings.Cut(line, " ")
		for _, other := range []string{strings.ToUpper(word), strings.ToUpper(word[:1]) + word[1:], word[:len(word)-1] + strings.ToUpper(word[len(word)-1:]), word[1:], word[:len(word)-1], word + "s", word + word, word + ":", "/" + word, "x" + word, "\"" + word + "\"", word + "#"} {
			wantFault(t, other+" "+rest, 1)
			wantFault(t, other, 1)
		}
	}
	for _, word := range []string{"read", "mount", "mend", "make,", "file", "mkdir", "rm", "mv", "text", "code", "0", "1", "8", "-", "/", "/a", ";", "!", "~", ".", "$#", "unmake", "a", "Makedir", "writeback", "disk", "fault"} {
		for _, rest := range []string{"", " /a", " /a /b", " 1", " /a 1 text", " /a 1 text x"} {
			wantFault(t, word+rest, 1)
		}
	}
	// Each one byte as a word: none is one.
	for c := range 256 {
		text := string([]byte{byte(c)})
		switch c {
		case 10, 32, '#':
			wantEvents(t, text)
		default:
			wantFault(t, text, 1)
		}
	}
}

func TestNumbersOfLines(t *testing.T) {
	for n := range 21 {
		wantEvents(t, "back "+strconv.Itoa(n), evBack(n))
	}
	for n := range 10 {
		wantEvents(t, "write /a "+strconv.Itoa(n)+" x", evWrite("/a", n, "x"))
	}
	for _, s := range []string{"10", "11", "19", "20", "21", "99", "256", "257", "1000000000"} {
		wantFault(t, "write /a "+s+" x", 1)
		if n := slowNumber(s); n > 20 {
			wantFault(t, "back "+s, 1)
		} else {
			wantEvents(t, "back "+s, evBack(n))
		}
	}
	for _, s := range []string{"00", "01", "09", "010", "020", "-0", "-1", "+0", "+1", "--1", "1.", "1.0", "0.", ".0", "1e0", "0x1", "1x", "x1", "x", "a", "one", "1,", "1_0", "0_1", "'1'", "\"1\"", "1/1", "1:", "/", ":",
		"1000000001", "1000000005", "9999999999", "4294967296", "4294967297", "2147483648", "9223372036854775807", "9223372036854775808", "18446744073709551616", "18446744073709551621", "340282366920938463463374607431768211456", strings.Repeat("0", 30), strings.Repeat("9", 500)} {
		wantFault(t, "write /a "+s+" x", 1)
		wantFault(t, "back "+s, 1)
		wantFault(t, "flush\nback "+s+"\nfall", 2)
	}
	// Numbers as paths and texts are what they are, with all their noughts.
	wantEvents(t, "write 007 0 -01\nmake 00\nmove +1 1000000001", evWrite("007", 0, "-01"), evMake("00"), evMove("+1", "1000000001"))
}

func TestLengthsOfParts(t *testing.T) {
	for _, n := range []int{1, 2, 16, 17, 29, 30} {
		s := xs(n)
		wantEvents(t, "make "+s, evMake(s))
		wantEvents(t, "dir "+s, evDir(s))
		wantEvents(t, "remove "+s, evRemove(s))
		wantEvents(t, "move "+s+" /b", evMove(s, "/b"))
		wantEvents(t, "move /a "+s, evMove("/a", s))
		wantEvents(t, "write "+s+" 0 x", evWrite(s, 0, "x"))
		wantEvents(t, "write /a 9 "+s, evWrite("/a", 9, s))
		wantEvents(t, "write "+s+" 1 "+s, evWrite(s, 1, s))
	}
	for _, n := range []int{31, 32, 60, 256, 286, 500} {
		s := xs(n)
		for _, line := range []string{"make " + s, "dir " + s, "remove " + s, "move " + s + " /b", "move /a " + s, "write " + s + " 0 x", "write /a 0 " + s, s, "#" + s + "\n" + s} {
			wantFault(t, line, strings.Count(line, "\n")+1)
		}
	}
}

// What a call refuses is an event nevertheless; its code tells it.
func TestEventsWithCodes(t *testing.T) {
	for _, c := range []struct {
		line string
		code int
	}{
		{"make a", impl.CodeWrong}, {"make /", impl.CodeWrong}, {"make //", impl.CodeWrong}, {"make /A", impl.CodeWrong}, {"make /a/b/c/d/e", impl.CodeWrong}, {"make /abcdefg", impl.CodeWrong}, {"make #", impl.CodeWrong}, {"make flush", impl.CodeWrong},
		{"make /f", impl.CodeThere}, {"make /q/a", impl.CodeNone}, {"make /f/a", impl.CodeKind},
		{"dir d", impl.CodeWrong}, {"dir /d/", impl.CodeWrong}, {"dir /d", impl.CodeThere}, {"dir /q/d", impl.CodeNone},
		{"write /f 0 0123456789abcdef", 0}, {"write /f 0 0123456789abcdefg", impl.CodeWrong}, {"write /f 1 " + xs(30), impl.CodeWrong}, {"write /f 2 x", impl.CodeWrong}, {"write /f 9 x", impl.CodeWrong}, {"write f 0 x", impl.CodeWrong}, {"write /q 0 x", impl.CodeNone}, {"write /d 1 x", impl.CodeKind}, {"write /f 0 #", 0},
		{"remove /", impl.CodeWrong}, {"remove /q", impl.CodeNone}, {"remove /d", impl.CodeBusy}, {"remove /d/g", 0},
		{"move /f f", impl.CodeWrong}, {"move # /n", impl.CodeWrong}, {"move /q /n", impl.CodeNone}, {"move /d /n", impl.CodeKind}, {"move /f /d", impl.CodeThere}, {"move /f /n", 0}, {"move /f /d/n", impl.CodeBusy},
		{"back 0", 0}, {"back 20", 0}, {"flush", 0}, {"fall", 0},
	} {
		got := checkConsole(t, "make /f\ndir /d\nmake /d/g\n"+c.line)
		if codes, _, _ := strings.Cut(got, "\n"); codes != "0 0 0 "+strconv.Itoa(c.code) {
			t.Errorf("%s: the codes are %q, want %d at last", c.line, codes, c.code)
		}
	}
	full := checkConsole(t, "make /1\nmake /2\nmake /3\nmake /4\nmake /5\nmake /6\nmake /7\nmake /8\nmake /9/9")
	if want := "0 0 0 0 0 0 0 4 1\n/1 \n/2 \n/3 \n/4 \n/5 \n/6 \n/7 \ndisk\n"; full != want {
		t.Errorf("with no inode free the console shows %q, want %q", full, want)
	}
}

// refusedLines are those that PartsOf refuses.
func refusedLines() []string {
	list := []string{
		"1 2 3 4 5 6 7 8 9 10 11", "make /a" + strings.Repeat(" x", 9), strings.Repeat("x ", 300), strings.Repeat(" ", 601), "flush" + strings.Repeat(" ", 596), strings.Repeat(" ", 596) + "flush", xs(601),
		"make\t/a", "make /a\t", "\t", "flush\r", "\r", "make /\x00", "make /é", "make /a\x7f", "\x00", "\x1f", "\x7f", "\x80", "\xff", "flush\x0b", "flush\x0c", "flush\u00a0", "make /a\u2028", "\xc3", "flush \xc3\x28",
	}
	for _, line := range []string{"1 2 3 4 5 6 7 8 9 10", strings.Repeat("#", 600), "x" + strings.Repeat(" ", 600), "a remark\t", "\r", "é", "\x00", "\x7f", "\xff"} {
		list = append(list, "#"+line, "# "+line, "  # "+line)
	}
	// The last ones may have a blank and a part fewer than are refused.
	return slices.DeleteFunc(list, func(line string) bool { _, ok := impl.PartsOf(line); return ok })
}

func TestLinesThatAreRefused(t *testing.T) {
	list := refusedLines()
	if len(list) < 45 {
		t.Fatalf("only %d lines are refused", len(list))
	}
	for _, line := range list {
		if _, ok := slowLineParts(line); ok {
			t.Errorf("%q has parts", line)
		}
		wantFault(t, line, 1)
		wantFault(t, line+"\n", 1)
		wantFault(t, "make /a\n\n# a remark\n"+line+"\nflush\n", 4)
	}
	// Ten parts and 600 bytes are not too many, of remarks too.
	for _, line := range []string{"# 2 3 4 5 6 7 8 9 10", "#" + xs(599), " # " + strings.Repeat("x ", 8) + xs(580), "#" + strings.Repeat(" ", 599), strings.Repeat(" ", 600), strings.Repeat(" ", 599) + "#", "#!~ \"'%&"} {
		wantEvents(t, line)
		wantEvents(t, line+"\nflush\n"+line+"\n", evFlush())
	}
	wantEvents(t, "flush"+strings.Repeat(" ", 595)+"\n"+strings.Repeat(" ", 595)+"flush", evFlush(), evFlush())
	wantFault(t, "1 2 3 4 5 6 7 8 9 10", 1)
	// Each byte within a remark, and within a text.
	for c := range 256 {
		s := string([]byte{'<', byte(c), '>'})
		switch {
		case c == 10:
			wantFault(t, "# "+s, 2)
			wantFault(t, "write /a 0 "+s, 2)
		case c == 32:
			wantEvents(t, "# "+s)
			wantFault(t, "write /a 0 "+s, 1)
		case c < 32 || c > 126:
			wantFault(t, "# "+s, 1)
			wantFault(t, "write /a 0 "+s, 1)
		default:
			wantEvents(t, "# "+s)
			wantEvents(t, "write /a 0 "+s, evWrite("/a", 0, s))
		}
	}
}

// emptyLines are passed over.
func emptyLines() []string {
	return []string{"", " ", "     ", strings.Repeat(" ", 120), "#", "##", " #", "# ", "# a remark", "#make /x", "  #make /x", "# make /x", "#fall", "# fall", "#flush #", "   # # #", "#0", "# write /a 0 1 2", "#" + xs(120)}
}

func TestScriptsWithoutEvents(t *testing.T) {
	for _, text := range []string{"", "\n", "\n\n", "\n\n\n", " ", " \n", "\n ", " \n ", "#", "#\n", "# a\n#b\n  #c", strings.Repeat("\n", 80), strings.Repeat("#\n", 80), strings.Repeat("\n", 79) + "#"} {
		wantEvents(t, text)
		if got := checkConsole(t, text); got != "disk\n" {
			t.Errorf("Console(%q) = %q", text, got)
		}
	}
	for _, line := range emptyLines() {
		wantEvents(t, line)
		wantEvents(t, line+"\n")
		wantEvents(t, line+"\n"+line)
	}
}

func TestEndsOfScripts(t *testing.T) {
	for _, end := range []string{"", "\n", "\n\n", "\n\n\n", "\n ", "\n \n", "\n#", " \n#\n"} {
		wantEvents(t, "make /a\nflush"+end, evMake("/a"), evFlush())
		wantEvents(t, "fall"+end, evFall())
		wantFault(t, "flush\nmake"+end, 2)
		wantFault(t, "make"+end, 1)
	}
	// No other byte ends a line.
	for _, end := range []string{"\r\n", "\r", "\x0b", "\x0c", "\x00", "\u0085", "\u2028"} {
		wantFault(t, "flush"+end+"fall", 1)
		wantFault(t, "\n\nflush"+end, 3)
	}
	wantFault(t, "flush;fall", 1)
	wantFault(t, "flush fall", 1)
}

// The line of the first fault, whatever is ahead of it and behind it.
func TestFirstFaults(t *testing.T) {
	faults := []string{"make", "flush 1", "Fall", "back 21", "back x", "write /a 10 x", "write /a 0", "make " + xs(31), "\t", "#\t", "1 2 3 4 5 6 7 8 9 10 11", "# 2 3 4 5 6 7 8 9 10 11", strings.Repeat(" ", 601)}
	heads := []string{"", "\n", "\n\n\n", "# a\n", " \n# a\n  # b\n\n", "flush\n", "flush\n\nmake /a\n#\n", strings.Repeat("\n", 79), strings.Repeat("flush\n", 60), strings.Repeat("flush\n", 60) + "#\n\n", strings.Repeat("#\n", 17) + strings.Repeat("back 1\n", 59)}
	for _, fault := range faults {
		for _, head := range heads {
			line := strings.Count(head, "\n") + 1
			for _, tail := range []string{"", "\n", "\n\n", "\nflush", "\nmake\n", "\n#\t\n", "\n\n\tx"} {
				if line+strings.Count(strings.TrimSuffix(tail, "\n"), "\n") <= 80 {
					wantFault(t, head+fault+tail, line)
				}
			}
		}
	}
	for _, one := range faults {
		for _, other := range faults {
			wantFault(t, "flush\n"+one+"\n"+other+"\nfall\n", 2)
		}
	}
}

func TestSixtyEvents(t *testing.T) {
	for line, e := range lineWords() {
		for _, n := range []int{1, 59, 60} {
			wantEvents(t, strings.Repeat(line+"\n", n), slices.Repeat(lifeOf(e), n)...)
			wantEvents(t, strings.TrimSuffix(strings.Repeat(line+"\n", n), "\n"), slices.Repeat(lifeOf(e), n)...)
		}
		most := strings.Repeat(line+"\n", 60)
		wantEvents(t, "#\n"+most+"\n# behind\n \n", slices.Repeat(lifeOf(e), 60)...)
		wantFault(t, most+line, 61)
		wantFault(t, most+line+"\n", 61)
		wantFault(t, most+line+"\n"+line+"\nmake\n", 61)
		wantFault(t, most+"#\n\n"+line, 63)
		wantFault(t, "# a\n"+most+"# b\n"+line+"\n", 63)
		wantFault(t, most+"no", 61)
		wantFault(t, "make\n"+most+line, 1)
		wantFault(t, strings.Repeat(line+"\n", 80), 61)
	}
	wantEvents(t, strings.Repeat("flush\n", 60)+strings.Repeat("#\n", 20), slices.Repeat(lifeOf(evFlush()), 60)...)
	wantEvents(t, strings.Repeat("#\n", 20)+strings.Repeat("flush\n", 60), slices.Repeat(lifeOf(evFlush()), 60)...)
}

func TestEightyLines(t *testing.T) {
	for _, line := range []string{"", " ", "#", "# a remark"} {
		many := func(n int) string { return strings.Repeat(line+"\n", n) }
		wantEvents(t, many(79))
		wantEvents(t, many(79)+"flush", evFlush())
		wantEvents(t, many(79)+"flush\n", evFlush())
		wantEvents(t, many(80))
		wantEvents(t, "flush\n"+many(79), evFlush())
		wantEvents(t, "flush\n"+many(78)+"fall", evFlush(), evFall())
		for _, text := range []string{many(81), many(80) + "flush", many(80) + "flush\n", many(80) + " ", many(80) + "#", many(80) + "\n", many(80) + "\t", many(80) + "make", "flush\n" + many(80), "flush\n" + many(79) + "fall", "make\n" + many(80), "\t\n" + many(80), many(200)} {
			wantFault(t, text, -1)
		}
		wantFault(t, many(79)+"make\n", 80)
		wantFault(t, many(79)+"make", 80)
	}
	wantFault(t, strings.Repeat("make\n", 80), 1)
	wantFault(t, strings.Repeat("make\n", 81), -1)
	wantFault(t, strings.Repeat("flush\n", 80), 61)
	wantFault(t, strings.Repeat("flush\n", 81), -1)
	wantFault(t, strings.Repeat("flush\n", 80)+"flush", -1)
}

// paddedScript is a script with remarks behind it, n bytes in all.
func paddedScript(head string, n int) string {
	for len(head) < n {
		head += "\n#" + xs(min(n-len(head), 500))
		head = head[:min(len(head), n)]
	}
	return head
}

func TestThreeThousandBytes(t *testing.T) {
	for _, n := range []int{2998, 2999, 3000} {
		wantEvents(t, paddedScript("flush\nmake /a", n), evFlush(), evMake("/a"))
		wantEvents(t, strings.Repeat("\n", 40)+paddedScript("\nfall", n-40), evFall())
		wantFault(t, paddedScript("flush\nmake", n), 2)
		wantFault(t, xs(n), 1)
		wantFault(t, strings.Repeat(" ", n), 1)
		wantFault(t, strings.Repeat("\n", n), -1)
	}
	wantEvents(t, paddedScript("flush", 2999)+"\n", evFlush())
	for _, n := range []int{3001, 3002, 4000, 6000, 20001, 65536, 65541, 300000} {
		for _, text := range []string{paddedScript("flush\nmake /a", n), paddedScript("flush\nmake", n), paddedScript("\t", n), paddedScript("\n\n", n), xs(n), strings.Repeat(" ", n), strings.Repeat("\n", n), strings.Repeat("\x00", n), strings.Repeat("flush\n", n)[:n]} {
			if len(text) != n {
				t.Fatalf("the text has %d bytes, want %d", len(text), n)
			}
			wantFault(t, text, -1)
		}
	}
	wantFault(t, paddedScript("flush", 3000)+"\n", -1)
	// 60 events of 49 bytes each, with as much as 3000 bytes take.
	line := "write " + xs(13) + " 0 " + xs(26)
	text := strings.Repeat(line+"\n", 60)
	if len(text) != 2940 {
		t.Fatalf("the script has %d bytes", len(text))
	}
	wantEvents(t, text+"#"+xs(58)+"\n", slices.Repeat(lifeOf(evWrite(xs(13), 0, xs(26))), 60)...)
	wantFault(t, text+"#"+xs(59)+"\n", -1)
}

func checkShow(t *testing.T, list []impl.Node) string {
	t.Helper()
	was := slices.Clone(list)
	got, want := impl.ShowTree(list), slowShow(was)
	if got != want {
		t.Errorf("ShowTree(%v) = %q, want %q", was, got, want)
	}
	if !slowSameTree(list, was) {
		t.Errorf("ShowTree has written into %v, which was %v", list, was)
	}
	return got
}

func TestShownTrees(t *testing.T) {
	a, b, d := fileNode("/a", "he", "ta"), fileNode("/b", "", ""), dirNode("/d")
	odd := impl.Node{Path: "/d", Dir: true, Head: "he", Tail: "ta"}
	for _, c := range []struct {
		list []impl.Node
		want string
	}{
		{nil, ""},
		{[]impl.Node{}, ""},
		{[]impl.Node{b}, "/b \n"},
		{[]impl.Node{fileNode("/b", "he", "")}, "/b he\n"},
		{[]impl.Node{fileNode("/b", "", "ta")}, "/b ta\n"},
		{[]impl.Node{a}, "/a heta\n"},
		{[]impl.Node{d}, "/d/\n"},
		{[]impl.Node{odd}, "/d/\n"},
		{[]impl.Node{{Path: "/d", Dir: true, Head: "he"}}, "/d/\n"},
		{[]impl.Node{{Path: "/d", Dir: true, Tail: "ta"}}, "/d/\n"},
		{[]impl.Node{a, b, d}, "/a heta\n/b \n/d/\n"},
		{[]impl.Node{d, a}, "/d/\n/a heta\n"},
		{[]impl.Node{a, a, d, d}, "/a heta\n/a heta\n/d/\n/d/\n"},
		{[]impl.Node{odd, a, odd}, "/d/\n/a heta\n/d/\n"},
		{[]impl.Node{d, fileNode("/d/c", "", "0123456789abcdef"), dirNode("/d/e")}, "/d/\n/d/c 0123456789abcdef\n/d/e/\n"},
		{[]impl.Node{{}}, " \n"},
		{[]impl.Node{{}, {}}, " \n \n"},
		{[]impl.Node{{Dir: true}}, "/\n"},
		{[]impl.Node{dirNode("/")}, "//\n"},
		{[]impl.Node{fileNode("", "x", "y")}, " xy\n"},
		{[]impl.Node{fileNode("a b", " c ", " d ")}, "a b  c  d \n"},
		{[]impl.Node{fileNode("/a\n", "\n", "\x00\xff")}, "/a\n \n\x00\xff\n"},
		{[]impl.Node{fileNode("/é", "%s", "\\n")}, "/é %s\\n\n"},
		{[]impl.Node{dirNode(xs(700)), fileNode(xs(31), xs(17), xs(600))}, xs(700) + "/\n" + xs(31) + " " + xs(617) + "\n"},
	} {
		if got := checkShow(t, c.list); got != c.want {
			t.Errorf("ShowTree(%v) = %q, want %q", c.list, got, c.want)
		}
	}
	checkShow(t, someModel())
	checkShow(t, slices.Repeat(someModel(), 300))
	var parts string
	for _, n := range someModel() {
		parts += impl.ShowTree([]impl.Node{n})
	}
	if got := impl.ShowTree(someModel()); got != parts {
		t.Errorf("together it is %q, one by one %q", got, parts)
	}
}

// Spare room behind a list is neither shown nor written into.
func TestRoomBehindShownTreesIsLeftAlone(t *testing.T) {
	list := someModel()
	for k := range list {
		if got := checkShow(t, list[:k]); got != slowShow(list[:k:k]) {
			t.Errorf("of %d nodes is shown %q", k, got)
		}
		if !slowSameTree(list, someModel()) {
			t.Fatalf("a list was written into: %v", list)
		}
	}
}

func TestConsoleShows(t *testing.T) {
	const made = "make /a\nwrite /a 0 he\nwrite /a 1 ta\n"
	const moved = made + "flush\nmove /a /b\n"
	for _, c := range []struct{ name, text, want string }{
		{"nothing", "", "disk\n"},
		{"a file", "make /a", "0\n/a \ndisk\n"},
		{"a directory", "dir /a\n", "0\n/a/\ndisk\n"},
		{"a remark", "# a\nmake /a\n\nwrite /a 0 hi\ndir /d\n", "0 0 0\n/a hi\n/d/\ndisk\n"},
		{"a flush alone", "flush", "0\ndisk\n"},
		{"a fall alone", "fall\n", "0\ndisk\n"},
		{"a back alone", "back 0", "0\ndisk\n"},
		{"all refused", "make a\nremove /b\nmove /a /b\n", "6 1 1\ndisk\n"},
		{"codes", "make /a\nmake /a\nmake /a/b\ndir /c/d\nwrite /a 2 x\nremove /q\ndir /d\nmake /d/e\nremove /d\n", "0 2 3 1 6 1 0 0 5\n/a \n/d/\n/d/e \ndisk\n"},
		{"texts", made, "0 0 0\n/a heta\ndisk\n"},
		{"a tail alone", "make /a\nwrite /a 1 ta", "0 0\n/a ta\ndisk\n"},
		{"flushed", made + "flush", "0 0 0 0\n/a heta\ndisk\n/a heta\n"},
		{"flushed, and more", made + "flush\nmake /b\nwrite /a 1 more\nremove /q", "0 0 0 0 0 0 1\n/a hemore\n/b \ndisk\n/a heta\n"},
		{"flushed, and removed", made + "flush\nremove /a", "0 0 0 0 0\ndisk\n/a heta\n"},
		{"removed, and its block written", made + "flush\nremove /a\nback 5", "0 0 0 0 0 0\ndisk\n"},
		{"fallen", made + "fall", "0 0 0 0\ndisk\n"},
		{"flushed and fallen", made + "flush\ndir /d\nfall", "0 0 0 0 0 0\n/a heta\ndisk\n/a heta\n"},
		{"fallen, and made again", "make /a\nfall\nmake /a\ndir /b", "0 0 0 0\n/a \n/b/\ndisk\n"},
		{"all units but the name", made + "back 0\nback 1\nback 5\nback 6\nback 7\nback 1", "0 0 0 0 0 0 0 0 0\n/a heta\ndisk\n"},
		{"all units", made + "back 0\nback 1\nback 5\nback 6\nback 7\nback 1\nback 5", "0 0 0 0 0 0 0 0 0 0\n/a heta\ndisk\n/a heta\n"},
		{"all but the texts", made + "back 0\nback 1\nback 5\nback 1\nback 5", "0 0 0 0 0 0 0 0\n/a heta\ndisk\n/a \n"},
		{"all but the tail", made + "back 0\nback 1\nback 5\nback 6\nback 1\nback 5", "0 0 0 0 0 0 0 0 0\n/a heta\ndisk\n/a he\n"},
		{"all but the head", made + "back 0\nback 1\nback 5\nback 7\nback 1\nback 5\nfall", "0 0 0 0 0 0 0 0 0 0\n/a ta\ndisk\n/a ta\n"},
		{"moved", moved, "0 0 0 0 0\n/b heta\ndisk\n/a heta\n"},
		{"moved, both names written", moved + "back 0\nback 1\nback 5", "0 0 0 0 0 0 0 0\n/b heta\ndisk\n/a heta\n/b heta\n"},
		{"moved, and fallen amid it", moved + "back 0\nback 1\nback 5\nfall", "0 0 0 0 0 0 0 0 0\n/a heta\n/b heta\ndisk\n/a heta\n/b heta\n"},
		{"moved, all written", moved + "back 0\nback 1\nback 5\nback 5", "0 0 0 0 0 0 0 0 0\n/b heta\ndisk\n/b heta\n"},
		{"in the order of paths", "make /b\ndir /a0\ndir /a\nmake /a/b\nmake /a0/c\nmake /0\nflush\nremove /0", "0 0 0 0 0 0 0 0\n/a/\n/a/b \n/a0/\n/a0/c \n/b \ndisk\n/0 \n/a/\n/a/b \n/a0/\n/a0/c \n/b \n"},
		{"a text like a line", "make /a\nwrite /a 0 disk\nwrite /a 1 #\nflush", "0 0 0 0\n/a disk#\ndisk\n/a disk#\n"},
		{"a fault", "make /a\nmake\n", "fault 2\n"},
		{"a fault ahead", "make\nmake /a\n", "fault 1\n"},
		{"a fault in a remark", "#\n#\n#\t\n", "fault 3\n"},
		{"a fault behind 60 events", strings.Repeat("flush\n", 60) + "#\nfall", "fault 62\n"},
		{"too many lines", strings.Repeat("\n", 81), "fault -1\n"},
		{"too many bytes", xs(3001), "fault -1\n"},
	} {
		if got := checkConsole(t, c.text); got != c.want {
			t.Errorf("%s: Console(%q) = %q, want %q", c.name, c.text, got, c.want)
		}
	}
}

// toldLine tells an event in a line; one that no line tells is told by a flush.
func toldLine(e impl.Event) string {
	at := strconv.Itoa(e.At)
	list := [][]string{1: {"make", e.Path}, 2: {"dir", e.Path}, 3: {"write", e.Path, at, e.Text}, 4: {"remove", e.Path}, 5: {"move", e.Path, e.To}, 6: {"back", at}, 7: {"flush"}, 8: {"fall"}}[e.Kind]
	if slices.Contains(list, "") {
		return "flush"
	}
	return strings.Join(list, " ")
}

func toldLines(events []impl.Event) []string {
	var lines []string
	for _, e := range events {
		lines = append(lines, toldLine(e))
	}
	return lines
}

// scriptLives are lives of several kinds, and two more for each of the drawn, told in lines.
func scriptLives(drawn int) [][]string {
	draw := drawer(19)
	lives := [][]impl.Event{nil, someLife(), then(someLife(), evFlush()), busyLife(), then(someLife(), evFlush(), evMove("/a", "/n"), evBack(5), evFall(), evRemove("/b"))}
	for range drawn {
		long := drawnLife(draw)
		for len(long) < 60 {
			long = append(long, evBack(draw(21)))
		}
		lives = append(lives, long, shuffledLife(draw))
	}
	var list [][]string
	for _, events := range lives {
		list = append(list, toldLines(events))
	}
	return list
}

// wantTold wants that a script tells what its events do, when they are called one by one.
func wantTold(t *testing.T, text string) (codes int, two bool) {
	t.Helper()
	events, fault := checkScript(t, text)
	w, ok := impl.RunLife(events)
	if fault != 0 || !ok {
		t.Fatalf("ReadScript(%s) = %v, %d, and its life is %v", brief(text), events, fault, ok)
	}
	var told []string
	for _, code := range w.Codes {
		told = append(told, strconv.Itoa(code))
		codes |= 1 << code
	}
	want := ""
	if len(told) > 0 {
		want = strings.Join(told, " ") + "\n"
	}
	memory, disk := slowShow(impl.TreeOf(w.Fs.Mem.Disk)), slowShow(impl.TreeOf(toldDisk(w)))
	want += memory + "disk\n" + disk
	if got := impl.Console(text); got != want {
		t.Errorf("Console(%s) = %q, want %q", brief(text), got, want)
	}
	return codes, memory != disk
}

func TestScriptsTellLives(t *testing.T) {
	codes, two, long := 0, 0, 0
	for k, lines := range scriptLives(60) {
		text := strings.Join(lines, "\n")
		seen, differ := wantTold(t, text)
		codes |= seen
		if differ {
			two++
		}
		if len(lines) == 60 {
			long++
		}
		if k%10 == 0 {
			checkConsole(t, text+"\n")
		}
		if events, _ := impl.ReadScript(text); !slices.Equal(toldLines(events), lines) {
			t.Errorf("ReadScript(%s) = %v", brief(text), events)
		}
	}
	if codes != 1<<7-1 || two < 50 || long < 60 {
		t.Errorf("the lives have the codes %b; of %d memory and disk tell two trees, %d have 60 events", codes, two, long)
	}
}

// Lines that are passed over change nothing: at each place, between all lines, and any number of them.
func TestLinesThatArePassedOver(t *testing.T) {
	empty := emptyLines()
	draw := drawer(1919)
	for k, lines := range scriptLives(5) {
		text := strings.Join(lines, "\n")
		events, _ := checkScript(t, text)
		shown := impl.Console(text)
		want := func(text string) {
			t.Helper()
			if got, fault := impl.ReadScript(text); fault != 0 || !slices.Equal(got, events) {
				t.Errorf("ReadScript(%s) = %v, %d, want %v", brief(text), got, fault, events)
			}
			if got := impl.Console(text); got != shown {
				t.Errorf("Console(%s) = %q, want %q", brief(text), got, shown)
			}
		}
		for place := 0; place <= len(lines); place++ {
			line := empty[(place+k)%len(empty)]
			want(strings.Join(slices.Insert(slices.Clone(lines), place, line), "\n"))
		}
		for _, line := range empty {
			want(line + "\n" + text)
			want(text + "\n" + line)
			want(text + "\n" + line + "\n")
		}
		more := slices.Clone(lines)
		for len(more) < 80 {
			more = slices.Insert(more, draw(len(more)+1), empty[draw(7)])
		}
		want(strings.Join(more, "\n"))
		want(strings.Join(more, "\n") + "\n")
		want(strings.Join(more, " \n  ") + " \n")
	}
}

// A fault goes down by the lines that are put ahead of it, and by no others.
func TestFaultsBehindLinesThatArePassedOver(t *testing.T) {
	for _, lines := range [][]string{{"make"}, {"flush", "make"}, {"make /a", "back 21", "make"}, {"dir /d", "\t"}, {"# 2 3 4 5 6 7 8 9 10 11", "flush"}} {
		_, line := checkScript(t, strings.Join(lines, "\n"))
		for place := 0; place <= len(lines); place++ {
			for _, empty := range emptyLines() {
				for n := 1; n < 4; n++ {
					down := 0
					if place < line {
						down = n
					}
					wantFault(t, strings.Join(slices.Insert(slices.Clone(lines), place, slices.Repeat([]string{empty}, n)...), "\n"), line+down)
				}
			}
		}
	}
}

// Scripts of drawn pieces: most have a fault, of any kind, and some have none.
func TestDrawnScripts(t *testing.T) {
	pieces := []string{"make", "dir", "write", "remove", "move", "back", "flush", "fall", "/a", "/b/c", "0", "1", "9", "10", "20", "21", "01", "-1", "text", "#", "#x", "", " ", "\t", "Make", xs(30), xs(31), "\n", "\n\n"}
	right := []string{"make /a", "dir /b", "write /a 0 x", "write /b/c 9 " + xs(30), "remove /a", "move /a /b/c", "back 20", "back 0", "flush", "fall", "# a", "", "  ", "#"}
	draw := drawer(190)
	seen := map[int]int{}
	for range 6000 {
		var lines []string
		for range draw(12) * (1 + draw(12)/11*8) {
			line := right[draw(len(right))]
			if draw(25) == 0 {
				line = ""
				for range draw(6) {
					line += pieces[draw(len(pieces))] + " "
				}
			}
			lines = append(lines, line)
		}
		text := strings.Join(lines, "\n") + []string{"", "\n", "\n\n"}[draw(3)]
		_, fault := checkScript(t, text)
		seen[fault]++
		if want := "fault " + strconv.Itoa(fault) + "\n"; fault != 0 && impl.Console(text) != want {
			t.Errorf("Console(%s) = %q, want %q", brief(text), impl.Console(text), want)
		}
	}
	if seen[0] < 2000 || seen[-1] < 30 || seen[1] < 50 || len(seen) < 40 {
		t.Errorf("the lines of faults are %v", seen)
	}
}

// Drawn bytes of few kinds: blanks, ends of lines, marks, and what is in words.
func TestDrawnBytes(t *testing.T) {
	draw := drawer(191)
	for _, kinds := range []string{"\n #", "\n #flush", "fal \n", "\n back012", "\x1f !~\x7f\n", "\x00\xff\n\r\t "} {
		for range 1500 {
			bytes := make([]byte, draw(40))
			for k := range bytes {
				bytes[k] = kinds[draw(len(kinds))]
			}
			checkScript(t, string(bytes))
		}
	}
}

func TestScriptsAreNewMemory(t *testing.T) {
	for _, lines := range scriptLives(5) {
		text := strings.Join(append(lines, ""), "\n")
		one, _ := impl.ReadScript(text)
		other, _ := impl.ReadScript(text)
		if listRoom(one).meets(listRoom(other)) || anyMeets(eventTexts(one...), eventTexts(other...)) {
			t.Errorf("two answers of ReadScript(%s) share memory", brief(text))
		}
		if anyMeets(eventTexts(one...), textRooms(text)) {
			t.Errorf("what ReadScript(%s) answers shares memory with it", brief(text))
		}
		if twoMeet(eventTexts(one...)) {
			t.Errorf("texts that ReadScript(%s) answers share memory", brief(text))
		}
		runtime.KeepAlive(text)
	}
	for _, text := range []string{strings.Clone("flush"), strings.Clone("fall\n"), strings.Clone("disk\n"), strings.Clone("fault 1\n")} {
		if anyMeets(textRooms(impl.Console(text)), textRooms(text)) {
			t.Errorf("what Console(%q) answers shares memory with it", text)
		}
		runtime.KeepAlive(text)
	}
	for _, list := range [][]impl.Node{ownNodes(someModel()), ownNodes(someModel())[:1], {{Path: strings.Clone("/a\n")}}, {{Head: strings.Clone("text")}}, {{Path: strings.Clone("/d"), Dir: true}}} {
		if anyMeets(textRooms(impl.ShowTree(list)), nodeTexts(list)) {
			t.Errorf("what ShowTree(%v) answers shares memory with it", list)
		}
		runtime.KeepAlive(list)
	}
}

// Whoever writes into the events of a script changes nothing of what is read next.
func TestScriptsThatAreSpoilt(t *testing.T) {
	for _, lines := range scriptLives(5) {
		text := strings.Join(lines, "\n")
		was, shown := strings.Clone(text), impl.Console(text)
		events, _ := impl.ReadScript(text)
		events = events[:cap(events)]
		for k := range events {
			events[k] = evMake("spoilt")
		}
		impl.ReadScript("make\n")
		impl.Console("make /spoilt\nflush\n")
		wantEvents(t, text, slowEvents(lines)...)
		if text != was || impl.Console(text) != shown {
			t.Errorf("Console(%s) = %q, was %q", brief(text), impl.Console(text), shown)
		}
	}
}

// slowEvents are those of lines that are all events.
func slowEvents(lines []string) []impl.Event {
	var events []impl.Event
	for _, line := range lines {
		events = append(events, slowEvent(strings.Fields(line)))
	}
	return events
}

func TestConsolesAtTheSameTime(t *testing.T) {
	lives := scriptLives(5)
	var wait sync.WaitGroup
	for _, lines := range lives {
		text := strings.Join(lines, "\n")
		want := impl.Console(text)
		for range 4 {
			wait.Add(1)
			go func() {
				defer wait.Done()
				if got := impl.Console(text); got != want {
					t.Errorf("Console(%s) = %q at the same time as others, %q alone", brief(text), got, want)
				}
				if _, fault := impl.ReadScript(text + "\nmake"); fault != len(lines)+1 && len(lines) > 0 {
					t.Errorf("ReadScript(%s and a fault) has it in line %d", brief(text), fault)
				}
			}()
		}
	}
	wait.Wait()
}
