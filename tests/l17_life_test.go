package tests

import (
	"math"
	"runtime"
	"slices"
	"strings"
	"sync"
	"testing"

	"loop.example/g00235/impl"
)

// The signatures and the structs that the document gives.
var (
	_ func(e impl.Event) bool                                = impl.EventOk
	_ func(list []impl.Node, e impl.Event) []impl.Node       = impl.ModelAfter
	_ func(events []impl.Event) (w impl.World, answers bool) = impl.RunLife

	_ struct {
		Kind int
		Path string
		To   string
		At   int
		Text string
	} = impl.Event{}
	_ struct {
		Fs    impl.Fs
		Model []impl.Node
		Codes []int
		Kept  []impl.Node
	} = impl.World{}
)

func TestEventConstants(t *testing.T) {
	kinds := []int{impl.EvMake, impl.EvDir, impl.EvWrite, impl.EvRemove, impl.EvMove, impl.EvBack, impl.EvFlush, impl.EvFall}
	if !slices.Equal(kinds, []int{1, 2, 3, 4, 5, 6, 7, 8}) {
		t.Errorf("the kinds of events are %v", kinds)
	}
}

func evMake(p string) impl.Event { return impl.Event{Kind: 1, Path: p} }

func evDir(p string) impl.Event { return impl.Event{Kind: 2, Path: p} }

func evWrite(p string, at int, s string) impl.Event {
	return impl.Event{Kind: 3, Path: p, At: at, Text: s}
}

func evRemove(p string) impl.Event { return impl.Event{Kind: 4, Path: p} }

func evMove(p, q string) impl.Event { return impl.Event{Kind: 5, Path: p, To: q} }

func evBack(u int) impl.Event { return impl.Event{Kind: 6, At: u} }

func evFlush() impl.Event { return impl.Event{Kind: 7} }

func evFall() impl.Event { return impl.Event{Kind: 8} }

func evBacks(units ...int) []impl.Event {
	var list []impl.Event
	for _, u := range units {
		list = append(list, evBack(u))
	}
	return list
}

func lifeOf(events ...impl.Event) []impl.Event { return events }

// shortWhere asks a text of at most so many bytes where there may be one, an empty one elsewhere.
func shortWhere(s string, may bool) bool { return len(s) == 0 || may && len(s) <= 30 }

func slowEventOk(e impl.Event) bool {
	least, most := 0, 0
	if e.Kind == 6 {
		most = 20
	}
	if e.Kind == 3 {
		most = 9
	}
	return e.Kind >= 1 && e.Kind <= 8 &&
		shortWhere(e.Path, e.Kind <= 5) && shortWhere(e.To, e.Kind == 5) && shortWhere(e.Text, e.Kind == 3) &&
		e.At >= least && e.At <= most
}

func checkEvent(t *testing.T, e impl.Event) bool {
	t.Helper()
	got := impl.EventOk(e)
	if got != slowEventOk(e) {
		t.Errorf("EventOk(%v) = %v", e, got)
	}
	return got
}

func xs(n int) string { return strings.Repeat("x", n) }

func TestEventsThatAreOk(t *testing.T) {
	for _, e := range []impl.Event{
		evMake(""), evMake("/a"), evMake(xs(30)), evMake("no path at all"), evMake("\x00\xff"),
		evDir(""), evDir("/a/b/c/d"), evDir(xs(30)),
		evWrite("", 0, ""), evWrite("/a", 1, "text"), evWrite(xs(30), 9, xs(30)), evWrite("/a", 2, xs(17)), evWrite("/a", 0, "é\n\x00"),
		evRemove(""), evRemove("/"), evRemove(xs(30)),
		evMove("", ""), evMove("/a", "/b"), evMove(xs(30), xs(30)), evMove("/a", ""), evMove("", "/a"),
		evBack(0), evBack(1), evBack(4), evBack(5), evBack(9), evBack(10), evBack(19), evBack(20),
		evFlush(), evFall(),
	} {
		if !checkEvent(t, e) {
			t.Errorf("EventOk(%v) is false", e)
		}
	}
}

func TestEventsThatAreNotOk(t *testing.T) {
	list := []impl.Event{{}, {Kind: 9}, {Kind: -1}, {Path: "/a"}, {Kind: 9, Path: "/a"}, {Kind: math.MinInt}, {Kind: math.MaxInt},
		evWrite("/a", -1, ""), evWrite("/a", 10, ""), evWrite("/a", 20, ""), evWrite("/a", 0, xs(31)), evWrite("/a", math.MinInt, ""), evWrite("/a", math.MaxInt, ""),
		evMove("/a", xs(31)), evMove(xs(31), "/a"), evMove("/a", strings.Repeat("é", 16)), evWrite("/a", 0, strings.Repeat("é", 16)),
		evBack(-1), evBack(21), evBack(math.MinInt), evBack(math.MaxInt),
	}
	for kind := 1; kind <= 8; kind++ {
		list = append(list, impl.Event{Kind: kind, Path: xs(31)}, impl.Event{Kind: kind, Path: strings.Repeat("é", 16)}, impl.Event{Kind: kind, Path: xs(30000)})
		if kind != 3 {
			list = append(list, impl.Event{Kind: kind, Text: "x"}, impl.Event{Kind: kind, Text: xs(30)}, impl.Event{Kind: kind, Text: "\x00"})
		}
		if kind != 5 {
			list = append(list, impl.Event{Kind: kind, To: "/"}, impl.Event{Kind: kind, To: xs(30)}, impl.Event{Kind: kind, To: "\x00"})
		}
		if kind != 3 && kind != 6 {
			list = append(list, impl.Event{Kind: kind, At: 1}, impl.Event{Kind: kind, At: -1}, impl.Event{Kind: kind, At: 9}, impl.Event{Kind: kind, At: math.MinInt})
		}
		if kind > 5 {
			list = append(list, impl.Event{Kind: kind, Path: "/"}, impl.Event{Kind: kind, Path: "/a"}, impl.Event{Kind: kind, Path: xs(30)})
		}
	}
	for _, e := range list {
		if checkEvent(t, e) {
			t.Errorf("EventOk(%v) is true", e)
		}
	}
}

// Each kind with each length of its texts and each number around the limits.
func TestEventsByNumbers(t *testing.T) {
	lengths := []int{0, 1, 29, 30, 31, 32, 286}
	for kind := -2; kind <= 11; kind++ {
		for _, p := range lengths {
			for _, q := range lengths {
				for _, s := range lengths {
					for _, at := range []int{-1, 0, 1, 8, 9, 10, 19, 20, 21} {
						checkEvent(t, impl.Event{Kind: kind, Path: xs(p), To: xs(q), At: at, Text: xs(s)})
					}
				}
			}
		}
		for _, n := range oddNumbers() {
			checkEvent(t, impl.Event{Kind: kind, At: n})
			checkEvent(t, impl.Event{Kind: n})
		}
	}
}

// placed has one node more, ahead of the first one whose path is greater.
func placed(list []impl.Node, n impl.Node) []impl.Node {
	k := 0
	for k < len(list) && list[k].Path <= n.Path {
		k++
	}
	return slices.Insert(slices.Clone(list), k, n)
}

// slowModel takes a model in the order of paths, each of which is there once.
func slowModel(list []impl.Node, e impl.Event) []impl.Node {
	at := slices.IndexFunc(list, func(n impl.Node) bool { return n.Path == e.Path })
	list = slices.Clone(list)
	switch {
	case e.Kind == 1 || e.Kind == 2:
		return placed(list, impl.Node{Path: e.Path, Dir: e.Kind == 2})
	case at < 0:
		return list
	case e.Kind == 4:
		var left []impl.Node
		for _, n := range list {
			if n.Path != e.Path && (len(n.Path) <= len(e.Path) || n.Path[:len(e.Path)+1] != e.Path+"/") {
				left = append(left, n)
			}
		}
		return left
	case list[at].Dir:
		return list
	case e.Kind == 3 && e.At == 0:
		list[at].Head = e.Text
	case e.Kind == 3:
		list[at].Tail = e.Text
	case e.Kind == 5:
		moved := fileNode(e.To, list[at].Head, list[at].Tail)
		return placed(slices.Delete(list, at, at+1), moved)
	}
	return list
}

func checkModel(t *testing.T, list []impl.Node, e impl.Event) []impl.Node {
	t.Helper()
	was := slices.Clone(list)
	got, want := impl.ModelAfter(list, e), slowModel(list, e)
	if !slowSameTree(got, want) || !impl.SameTree(got, want) {
		t.Errorf("ModelAfter(%v, %v) = %v, want %v", was, e, got, want)
	}
	if !slowSameTree(list, was) {
		t.Errorf("ModelAfter of %v has written into %v, which was %v", e, list, was)
	}
	return got
}

// someModel has files with both texts, with one and with none, and paths that begin alike.
func someModel() []impl.Node {
	return []impl.Node{
		fileNode("/a", "head", "tail"), dirNode("/b"), dirNode("/b/c"), fileNode("/b/c/d", "deep", ""), fileNode("/b/c/e", "", ""), fileNode("/b/d", "", "x"),
		dirNode("/b0"), fileNode("/b0/f", "", ""), fileNode("/bc", "y", ""), dirNode("/e"), fileNode("/f", "", ""),
	}
}

// butFor has all of a model but these.
func butFor(list []impl.Node, paths ...string) []impl.Node {
	return slices.DeleteFunc(slices.Clone(list), func(n impl.Node) bool { return slices.Contains(paths, n.Path) })
}

// plus has these nodes in place of those with the same paths, or more than all.
func plus(list []impl.Node, nodes ...impl.Node) []impl.Node {
	for _, n := range nodes {
		list = placed(butFor(list, n.Path), n)
	}
	return list
}

func TestModels(t *testing.T) {
	all := someModel()
	if !inOrder(all) {
		t.Fatalf("not in order: %v", all)
	}
	long := xs(30)
	for _, c := range []struct {
		name string
		list []impl.Node
		e    impl.Event
		want []impl.Node
	}{
		{"the first file", nil, evMake("/a"), []impl.Node{fileNode("/a", "", "")}},
		{"the first directory", nil, evDir("/a"), []impl.Node{dirNode("/a")}},
		{"a file more", all, evMake("/c"), plus(all, fileNode("/c", "", ""))},
		{"a directory more", all, evDir("/c"), plus(all, dirNode("/c"))},
		{"a file below", all, evMake("/b/c/f"), plus(all, fileNode("/b/c/f", "", ""))},
		{"a directory below", all, evDir("/e/a"), plus(all, dirNode("/e/a"))},
		{"a head of one that has both", all, evWrite("/a", 0, "new"), plus(all, fileNode("/a", "new", "tail"))},
		{"a tail of one that has both", all, evWrite("/a", 1, "new"), plus(all, fileNode("/a", "head", "new"))},
		{"a head of one that has one", all, evWrite("/bc", 0, "new"), plus(all, fileNode("/bc", "new", ""))},
		{"a tail of one that has a head", all, evWrite("/bc", 1, "new"), plus(all, fileNode("/bc", "y", "new"))},
		{"a head of one that has a tail", all, evWrite("/b/d", 0, "new"), plus(all, fileNode("/b/d", "new", "x"))},
		{"a head of one that has none", all, evWrite("/f", 0, "new"), plus(all, fileNode("/f", "new", ""))},
		{"a tail of one that has none", all, evWrite("/f", 1, "new"), plus(all, fileNode("/f", "", "new"))},
		{"an empty head", all, evWrite("/a", 0, ""), plus(all, fileNode("/a", "", "tail"))},
		{"an empty tail", all, evWrite("/a", 1, ""), plus(all, fileNode("/a", "head", ""))},
		{"another tail", all, evWrite("/a", 9, "new"), plus(all, fileNode("/a", "head", "new"))},
		{"a tail at a number that is none", all, evWrite("/a", -1, long), plus(all, fileNode("/a", "head", long))},
		{"the same head", all, evWrite("/a", 0, "head"), all},
		{"a head of a directory", all, evWrite("/b", 0, "new"), all},
		{"a tail of a directory", all, evWrite("/b", 1, "new"), all},
		{"a file gone", all, evRemove("/a"), butFor(all, "/a")},
		{"a file below gone", all, evRemove("/b/c/d"), butFor(all, "/b/c/d")},
		{"an empty directory gone", all, evRemove("/e"), butFor(all, "/e")},
		{"a directory and all below it gone", all, evRemove("/b"), butFor(all, "/b", "/b/c", "/b/c/d", "/b/c/e", "/b/d")},
		{"a directory below and all below it gone", all, evRemove("/b/c"), butFor(all, "/b/c", "/b/c/d", "/b/c/e")},
		{"one that another begins like", all, evRemove("/b0"), butFor(all, "/b0", "/b0/f")},
		{"one that begins like another", all, evRemove("/bc"), butFor(all, "/bc")},
		{"the only one gone", []impl.Node{dirNode("/a")}, evRemove("/a"), nil},
		{"a file moved", all, evMove("/a", "/a0"), plus(butFor(all, "/a"), fileNode("/a0", "head", "tail"))},
		{"a file moved behind all", all, evMove("/a", "/z"), plus(butFor(all, "/a"), fileNode("/z", "head", "tail"))},
		{"a file moved ahead of all", all, evMove("/b/d", "/0"), plus(butFor(all, "/b/d"), fileNode("/0", "", "x"))},
		{"a file moved below", all, evMove("/a", "/b/c/x"), plus(butFor(all, "/a"), fileNode("/b/c/x", "head", "tail"))},
		{"a file moved up", all, evMove("/b/c/d", "/d"), plus(butFor(all, "/b/c/d"), fileNode("/d", "deep", ""))},
		{"a file without texts moved", all, evMove("/f", "/e/f"), plus(butFor(all, "/f"), fileNode("/e/f", "", ""))},
		{"a file moved to its own path", all, evMove("/a", "/a"), all},
		{"a directory moved", all, evMove("/b", "/z"), all},
		{"an empty directory moved", all, evMove("/e", "/z"), all},
		{"back", all, evBack(5), all},
		{"flush", all, evFlush(), all},
		{"fall", all, evFall(), all},
		{"nothing is left as it is", nil, evFall(), nil},
	} {
		if got := checkModel(t, c.list, c.e); !slowSameTree(got, c.want) {
			t.Errorf("%s: ModelAfter of %v = %v, want %v", c.name, c.e, got, c.want)
		}
	}
}

// Paths that are not there, kinds that are none, and calls of what no call leads to.
func TestModelsAsTheyAre(t *testing.T) {
	all := someModel()
	turned := slices.Clone(all)
	slices.Reverse(turned)
	for _, list := range [][]impl.Node{all, nil, {}, all[:1], turned} {
		var events []impl.Event
		for _, p := range []string{"", "/", "x", "/x", "/A", "a", "/a/", "//a", "/a/b", "/b/", "/b/x", "/b/c/d/e", "/0", "/z", "/b1", xs(30)} {
			events = append(events, evWrite(p, 0, "new"), evWrite(p, 1, "new"), evRemove(p), evMove(p, "/y"), evMove(p, "/a"), evMove(p, p))
		}
		for _, p := range []string{"", "/a", "/b", "/f", "/x"} {
			for _, kind := range []int{0, -1, 6, 7, 8, 9, 10, 257, math.MinInt, math.MaxInt} {
				events = append(events, impl.Event{Kind: kind, Path: p, To: "/y", Text: "new"}, impl.Event{Kind: kind, Path: p, At: 1, Text: "new"})
			}
		}
		for _, e := range events {
			if got := checkModel(t, list, e); !slowSameTree(got, list) {
				t.Errorf("ModelAfter(%v, %v) = %v", list, e, got)
			}
		}
	}
	// What is below a path that is not there itself is below no node.
	orphans := []impl.Node{fileNode("/a/b", "x", "y"), dirNode("/c")}
	for _, p := range []string{"/a", "", "/"} {
		if got := checkModel(t, orphans, evRemove(p)); !slowSameTree(got, orphans) {
			t.Errorf("of %v %q is removed: %v", orphans, p, got)
		}
	}
}

// The order is that of paths, which a tree has, too: the mark between names is less than any byte of a name.
func TestOrderOfModels(t *testing.T) {
	want := []string{"/0", "/a", "/a/0", "/a/b", "/a/b/c", "/a/bc", "/a0", "/a0/a", "/aa", "/b", "/z"}
	eachOrder([]int{0, 1, 2, 3, 4}, func(order []int) {
		for from := range 7 {
			var list []impl.Node
			for _, k := range order {
				list = checkModel(t, list, []func(string) impl.Event{evMake, evDir}[k%2](want[from+k]))
			}
			var paths []string
			for _, n := range list {
				paths = append(paths, n.Path)
			}
			if !slices.Equal(paths, want[from:from+5]) {
				t.Errorf("made in the order %v of %q they are %q", order, want[from:from+5], paths)
			}
		}
	})
	for _, p := range want {
		for _, q := range want {
			var list []impl.Node
			for _, path := range want {
				if path != q || p == q {
					list = append(list, fileNode(path, "head of "+path, "tail"))
				}
			}
			got := checkModel(t, list, evMove(p, q))
			if !inOrder(got) || len(got) != len(list) || !slices.Contains(got, fileNode(q, "head of "+p, "tail")) {
				t.Errorf("behind a move of %s to %s it is %v", p, q, got)
			}
		}
	}
}

// freshPath has few names, so that paths meet often.
func freshPath(draw func(int) int) string {
	p := "/" + []string{"a", "b", "c", "d", "e", "f", "g", "h", "i"}[draw(9)]
	if draw(4) == 0 {
		p += "/" + []string{"a", "b", "c"}[draw(3)]
	}
	return p
}

// someOf is a path of the model in so many of ten cases.
func someOf(draw func(int) int, model []impl.Node, often int) string {
	if len(model) > 0 && draw(10) < often {
		return model[draw(len(model))].Path
	}
	return freshPath(draw)
}

func drawnEvent(draw func(int) int, model []impl.Node) impl.Event {
	old, fresh := someOf(draw, model, 8), someOf(draw, model, 1)
	if draw(4) == 0 {
		fresh = someOf(draw, model, 9) + "/" + []string{"a", "b", "c"}[draw(3)]
	}
	switch draw(17) {
	case 0, 1, 2:
		return evMake(fresh)
	case 3, 4:
		return evDir(fresh)
	case 5, 6:
		return evWrite(old, draw(2)+draw(10)/9*draw(9), strings.Repeat(impl.Decimal(draw(10)), draw(18)))
	case 7:
		return evRemove(old)
	case 8, 9, 10, 11:
		return evMove(old, fresh)
	case 12:
		return []impl.Event{evMake("/"), evDir("a"), evWrite("//", 0, "x"), evRemove(""), evMove(old, "/A"), evMake(xs(30)), evRemove("/a/b/c/d/e"), evMake("/a/b/c/d"), evMove(old, "/")}[draw(9)]
	}
	return evBack([]int{draw(21), draw(8)}[draw(2)])
}

func TestDrawnModels(t *testing.T) {
	draw := drawer(17)
	changes := 0
	for range 200 {
		var list []impl.Node
		for range 60 {
			e := drawnEvent(draw, list)
			// No call that has code 0 makes a path that is there.
			made := map[int]string{1: e.Path, 2: e.Path, 5: e.To}[e.Kind]
			if slices.ContainsFunc(list, func(n impl.Node) bool { return n.Path == made }) {
				continue
			}
			got := checkModel(t, list, e)
			if !inOrder(got) {
				t.Fatalf("ModelAfter(%v, %v) = %v", list, e, got)
			}
			if !slowSameTree(got, list) {
				changes++
			}
			list = got
		}
	}
	if changes < 3000 {
		t.Errorf("only %d models are changed", changes)
	}
}

// ownNodes have texts of their own, which no constant shares.
func ownNodes(list []impl.Node) []impl.Node {
	var own []impl.Node
	for _, n := range list {
		own = append(own, impl.Node{Path: strings.Clone(n.Path), Dir: n.Dir, Head: strings.Clone(n.Head), Tail: strings.Clone(n.Tail)})
	}
	return own
}

func ownEvents(list []impl.Event) []impl.Event {
	var own []impl.Event
	for _, e := range list {
		own = append(own, impl.Event{Kind: e.Kind, Path: strings.Clone(e.Path), To: strings.Clone(e.To), At: e.At, Text: strings.Clone(e.Text)})
	}
	return own
}

func eventTexts(list ...impl.Event) []room {
	var rooms []room
	for _, e := range list {
		rooms = append(rooms, textRooms(e.Path, e.To, e.Text)...)
	}
	return rooms
}

// modelEvents are of all kinds, and change someModel or do not.
func modelEvents() []impl.Event {
	return ownEvents(lifeOf(evMake("/n"), evDir("/n"), evWrite("/a", 0, "text"), evWrite("/a", 1, "text"), evWrite("/q", 1, "text"),
		evRemove("/b"), evRemove("/f"), evRemove("/q"), evMove("/a", "/n"), evMove("/b", "/n"), evBack(3), evFlush(), evFall(), impl.Event{Path: "/a", Text: "text"}))
}

func TestModelsAreNewMemory(t *testing.T) {
	for _, list := range [][]impl.Node{ownNodes(someModel()), ownNodes(someModel())[:3], nil} {
		for _, e := range modelEvents() {
			one, other := impl.ModelAfter(list, e), impl.ModelAfter(list, e)
			if listRoom(one).meets(listRoom(list)) || listRoom(one).meets(listRoom(other)) {
				t.Errorf("ModelAfter of %v shares memory with another list", e)
			}
			if anyMeets(nodeTexts(one), nodeTexts(list)) || anyMeets(nodeTexts(one), eventTexts(e)) || anyMeets(nodeTexts(one), nodeTexts(other)) {
				t.Errorf("ModelAfter of %v shares texts with another", e)
			}
			runtime.KeepAlive(e)
			runtime.KeepAlive(other)
		}
		runtime.KeepAlive(list)
	}
}

func spoilNodes(list []impl.Node) {
	list = list[:cap(list)]
	for k := range list {
		list[k] = fileNode("spoilt", "spoilt", "spoilt")
	}
}

// Whoever writes into an answer changes nothing of what was handed in, and the other way round; spare room stays as it is.
func TestModelsThatAreSpoilt(t *testing.T) {
	for _, e := range modelEvents() {
		behind := append(someModel(), dirNode("/behind"), fileNode("/more", "x", "y"))
		list := behind[:len(someModel())]
		spoilNodes(impl.ModelAfter(list, e))
		if !slowSameTree(behind, append(someModel(), dirNode("/behind"), fileNode("/more", "x", "y"))) {
			t.Errorf("a model, or spare room behind it, was written into by %v: %v", e, behind)
		}
		got := checkModel(t, list, e)
		spoilNodes(list)
		if !slowSameTree(got, slowModel(someModel(), e)) {
			t.Errorf("what ModelAfter answered of %v changes with what was handed in", e)
		}
	}
}

// slowHappens does what the document says of one event.
func slowHappens(w *impl.World, e impl.Event) {
	code := 0
	switch e.Kind {
	case 1, 2:
		w.Fs.Mem, code = slowMake(w.Fs.Mem, e.Path, e.Kind)
	case 3:
		w.Fs.Mem, code = slowWrite(w.Fs.Mem, e.Path, e.At, e.Text)
	case 4:
		w.Fs.Mem, code = slowRemove(w.Fs.Mem, e.Path)
	case 5:
		w.Fs.Mem, code = slowMove(w.Fs.Mem, e.Path, e.To)
	case 6:
		w.Fs, _ = slowBack(w.Fs, e.At)
	case 7:
		w.Fs, _ = slowFlush(w.Fs)
		w.Kept = slices.Clone(w.Model)
	case 8:
		d := slowMendAll(slowDisk(w.Fs.Device))
		w.Fs = impl.Fs{Mem: impl.Mem{Disk: d, Dirty: flags(21), Next: 1}, Device: slowDevice(d)}
		w.Model, w.Kept = slowNodes(d), slowNodes(d)
	}
	w.Codes = append(w.Codes, code)
	if code == 0 && e.Kind <= 5 {
		w.Model = slowModel(w.Model, e)
	}
}

func slowLife(events []impl.Event) (impl.World, bool) {
	if len(events) > 60 {
		return impl.World{}, false
	}
	for _, e := range events {
		if !slowEventOk(e) {
			return impl.World{}, false
		}
	}
	d := impl.DiskNew()
	w := impl.World{Fs: impl.Fs{Mem: impl.Mem{Disk: d, Dirty: flags(21), Next: 1}, Device: slowDevice(d)}}
	for _, e := range events {
		slowHappens(&w, e)
	}
	return w, true
}

func sameWorld(a, b impl.World) bool {
	return sameFs(a.Fs, b.Fs) && slowSameTree(a.Model, b.Model) && slices.Equal(a.Codes, b.Codes) && slowSameTree(a.Kept, b.Kept)
}

// checkLife holds a life against the document, and wants the events as they were.
func checkLife(t *testing.T, events []impl.Event) impl.World {
	t.Helper()
	was := slices.Clone(events)
	got, ok := impl.RunLife(events)
	want, right := slowLife(events)
	if ok != right || !sameWorld(got, want) {
		t.Errorf("RunLife(%v) = %v, %v, want %v, %v", was, got, ok, want, right)
	}
	if !slices.Equal(events, was) {
		t.Errorf("RunLife has written into %v, which was %v", events, was)
	}
	if ok && (len(got.Codes) != len(events) || !impl.FsOk(got.Fs) || !inOrder(got.Model) || !inOrder(got.Kept)) {
		t.Errorf("RunLife(%v) = %v", was, got)
	}
	return got
}

// checkMoments holds a life against the document at each moment.
func checkMoments(t *testing.T, events []impl.Event) impl.World {
	t.Helper()
	for k := range events {
		checkLife(t, events[:k])
	}
	return checkLife(t, events)
}

func wantNoLife(t *testing.T, name string, events []impl.Event) {
	t.Helper()
	checkLife(t, events)
	w, ok := impl.RunLife(events)
	if ok || !sameWorld(w, impl.World{}) || len(w.Fs.Device.Units)+len(w.Fs.Mem.Dirty)+w.Fs.Mem.Next != 0 {
		t.Errorf("%s: RunLife = %v, %v, want a refusal", name, w, ok)
	}
}

func TestLivesWithoutEvents(t *testing.T) {
	for _, events := range [][]impl.Event{nil, {}} {
		w := checkLife(t, events)
		if _, ok := impl.RunLife(events); !ok || !sameFs(w.Fs, impl.FsNew()) || len(w.Model)+len(w.Codes)+len(w.Kept) != 0 {
			t.Errorf("a life without events is %v, %v", w, ok)
		}
	}
}

func TestLivesAreNotLonger(t *testing.T) {
	for _, e := range []impl.Event{evFlush(), evFall(), evBack(0), evMake("/a"), evMake(""), evWrite("/a", 9, xs(30))} {
		for _, n := range []int{1, 59, 60} {
			events := slices.Repeat(lifeOf(e), n)
			w := checkLife(t, events)
			if _, ok := impl.RunLife(events); !ok || len(w.Codes) != n {
				t.Errorf("a life of %d times %v is %v, %v", n, e, w, ok)
			}
		}
		for _, n := range []int{61, 62, 120, 256, 316, 65536 + 5} {
			wantNoLife(t, impl.Decimal(n)+" events", slices.Repeat(lifeOf(e), n))
		}
	}
}

func TestLivesWithAnEventThatIsNotOk(t *testing.T) {
	right := append(someLife(), evBack(5), evFlush())
	for _, wrong := range []impl.Event{{}, {Kind: 9}, evMake(xs(31)), {Kind: 7, Path: "/"}, {Kind: 8, At: 1}, {Kind: 1, To: "/b"}, {Kind: 4, Text: "x"}, evMove("/a", xs(31)), evWrite("/a", 10, ""), evWrite("/a", 0, xs(31)), evWrite("/a", -1, ""), evBack(21), evBack(-1)} {
		wantNoLife(t, "alone", lifeOf(wrong))
		for k := 0; k <= len(right); k++ {
			wantNoLife(t, "at "+impl.Decimal(k), slices.Insert(slices.Clone(right), k, wrong))
		}
		wantNoLife(t, "twice", append(slices.Insert(slices.Clone(right), 0, wrong), wrong))
		wantNoLife(t, "the 60th", append(slices.Repeat(lifeOf(evFlush()), 59), wrong))
		wantNoLife(t, "the 61st", append(slices.Repeat(lifeOf(evFlush()), 60), wrong))
	}
}

// someLife has a tree of files and directories, with texts; nothing of it is written.
func someLife() []impl.Event {
	return lifeOf(evDir("/d"), evMake("/a"), evWrite("/a", 0, "head"), evWrite("/a", 1, "tail"), evMake("/b"), evMake("/d/c"), evWrite("/d/c", 1, "0123456789abcdef"))
}

func then(events []impl.Event, more ...impl.Event) []impl.Event {
	return append(slices.Clone(events), more...)
}

// someFiles are n files of the root.
func someFiles(n int) []impl.Event {
	var list []impl.Event
	for k := range n {
		list = append(list, evMake("/f"+impl.Decimal(k)))
	}
	return list
}

// busyLife has so much that leans that no call finds room: files get several names by falls amid moves, and all of these are moved.
func busyLife() []impl.Event {
	list := lifeOf(evDir("/1"), evDir("/2"), evDir("/3"), evMake("/a"), evMake("/b"), evMake("/c"), evMake("/e"), evFlush())
	names := []string{"/a", "/b", "/c", "/e"}
	for _, p := range names {
		list = append(list, evMove(p, "/1"+p))
	}
	list = append(append(list, evBacks(0, 7, 1, 3, 4, 7)...), evFall())
	for _, p := range names {
		list = append(list, evMove(p, "/2"+p), evMove("/1"+p, "/2"+p+"1"))
	}
	list = append(append(list, evBacks(0, 8, 9, 2, 3, 4, 8, 9)...), evFall())
	for _, p := range names {
		list = append(list, evMove("/2"+p, "/3"+p), evMove("/2"+p+"1", "/3"+p+"1"), evMove(p, "/1"+p+"2"))
	}
	return append(list, evWrite("/1/a", 0, "x"), evWrite("/1/a", 1, "x"), evWrite("/1/b", 0, "x"), evWrite("/1/b", 1, "x"), evWrite("/1/c", 0, "x"), evWrite("/1/c", 1, "x"))
}

// Each kind of call with each code that it may have in a life.
func TestCodesOfLives(t *testing.T) {
	some := someLife()
	kept := then(some, evFlush())
	moved := then(kept, evMove("/a", "/n"))
	full := then(someFiles(7), evFlush(), evMove("/f0", "/n"))
	codes := map[[2]int]int{}
	for _, c := range []struct {
		name   string
		events []impl.Event
		last   impl.Event
		code   int
	}{
		{"a file", nil, evMake("/a"), 0},
		{"a file in a directory", some, evMake("/d/n"), 0},
		{"a file in what is not there", some, evMake("/q/n"), impl.CodeNone},
		{"a file that is there", some, evMake("/a"), impl.CodeThere},
		{"a file where a directory is", some, evMake("/d"), impl.CodeThere},
		{"a file in a file", some, evMake("/a/n"), impl.CodeKind},
		{"an eighth file", someFiles(7), evMake("/n"), impl.CodeFull},
		{"a file whose name is still shown", moved, evMake("/a"), impl.CodeBusy},
		{"a file of no path", some, evMake("n"), impl.CodeWrong},
		{"the root as a file", nil, evMake("/"), impl.CodeWrong},
		{"a file too deep", nil, evMake("/a/b/c/d/e"), impl.CodeWrong},
		{"a file without a path", nil, evMake(""), impl.CodeWrong},
		{"a directory", nil, evDir("/a"), 0},
		{"a directory in a directory", some, evDir("/d/n"), 0},
		{"a directory in what is not there", some, evDir("/q/n"), impl.CodeNone},
		{"a directory that is there", some, evDir("/d"), impl.CodeThere},
		{"a directory where a file is", some, evDir("/a"), impl.CodeThere},
		{"a directory in a file", some, evDir("/a/n"), impl.CodeKind},
		{"an eighth directory", someFiles(7), evDir("/n"), impl.CodeFull},
		{"a directory whose name is still shown", moved, evDir("/a"), impl.CodeBusy},
		{"the root as a directory", nil, evDir("/"), impl.CodeWrong},
		{"a text", some, evWrite("/b", 0, "x"), 0},
		{"a second text", some, evWrite("/b", 1, "0123456789abcdef"), 0},
		{"another text", some, evWrite("/a", 0, ""), 0},
		{"a text of what is not there", some, evWrite("/q", 0, "x"), impl.CodeNone},
		{"a text of a directory", some, evWrite("/d", 0, "x"), impl.CodeKind},
		{"a text of the root", some, evWrite("/", 1, "x"), impl.CodeKind},
		{"a text without room", busyLife(), evWrite("/1/e", 0, "x"), impl.CodeFull},
		{"a text that needs no room", busyLife(), evWrite("/1/c", 0, "y"), 0},
		{"a third text", some, evWrite("/a", 2, "x"), impl.CodeWrong},
		{"a tenth text", some, evWrite("/a", 9, ""), impl.CodeWrong},
		{"a text of 17 bytes", some, evWrite("/a", 0, xs(17)), impl.CodeWrong},
		{"a text of 30 bytes", some, evWrite("/a", 1, xs(30)), impl.CodeWrong},
		{"a text of no path", some, evWrite("a", 0, "x"), impl.CodeWrong},
		{"a name that is not written", some, evRemove("/a"), 0},
		{"a name that is written", kept, evRemove("/a"), 0},
		{"what is not there", kept, evRemove("/q"), impl.CodeNone},
		{"what was removed", then(kept, evRemove("/a")), evRemove("/a"), impl.CodeNone},
		{"a directory that has names", kept, evRemove("/d"), impl.CodeBusy},
		{"a directory without names", then(kept, evRemove("/d/c")), evRemove("/d"), 0},
		{"a directory that still shows a name", then(kept, evMove("/d/c", "/c")), evRemove("/d"), impl.CodeBusy},
		{"a name, without room", busyLife(), evRemove("/1/a"), impl.CodeBusy},
		{"the root", kept, evRemove("/"), impl.CodeWrong},
		{"no path", kept, evRemove(""), impl.CodeWrong},
		{"moved", some, evMove("/a", "/n"), 0},
		{"moved when it is written", kept, evMove("/a", "/d/a"), 0},
		{"moved again", moved, evMove("/n", "/m"), 0},
		{"moved from what is not there", kept, evMove("/q", "/n"), impl.CodeNone},
		{"moved into what is not there", kept, evMove("/a", "/q/n"), impl.CodeNone},
		{"moved to what is there", kept, evMove("/a", "/b"), impl.CodeThere},
		{"moved to itself", kept, evMove("/a", "/a"), impl.CodeThere},
		{"a directory moved", kept, evMove("/d", "/n"), impl.CodeKind},
		{"moved into a file", kept, evMove("/a", "/b/n"), impl.CodeKind},
		{"moved where no slot is", full, evMove("/f1", "/m"), impl.CodeFull},
		{"moved without room", busyLife(), evMove("/1/a", "/n"), impl.CodeFull},
		{"moved to a name that is still shown", moved, evMove("/b", "/a"), impl.CodeBusy},
		{"moved into a directory that is not written", some, evMove("/a", "/d/a"), impl.CodeBusy},
		{"moved to no path", kept, evMove("/a", ""), impl.CodeWrong},
		{"moved from no path", kept, evMove("a", "/n"), impl.CodeWrong},
		{"the root moved", kept, evMove("/", "/n"), impl.CodeWrong},
		{"back", some, evBack(0), 0},
		{"flush", some, evFlush(), 0},
		{"fall", some, evFall(), 0},
	} {
		was, now := checkLife(t, c.events), checkLife(t, then(c.events, c.last))
		if len(now.Codes) != len(c.events)+1 || now.Codes[len(c.events)] != c.code || slices.ContainsFunc(was.Codes, func(code int) bool { return code != 0 }) {
			t.Errorf("%s: the codes are %v, ahead of it %v, want %d at last", c.name, now.Codes, was.Codes, c.code)
		}
		if c.code != 0 && (!sameFs(now.Fs, was.Fs) || !slowSameTree(now.Model, was.Model)) {
			t.Errorf("%s: refused with %d it is %v, was %v", c.name, c.code, now, was)
		}
		if c.code == 0 && c.last.Kind <= 5 && slowSameTree(now.Model, was.Model) {
			t.Errorf("%s: the model is still %v", c.name, now.Model)
		}
		if c.last.Kind < 7 && !slowSameTree(now.Kept, was.Kept) {
			t.Errorf("%s: kept is %v, was %v", c.name, now.Kept, was.Kept)
		}
		codes[[2]int{c.last.Kind, c.code}]++
	}
	for kind, list := range map[int][]int{1: {0, 1, 2, 3, 4, 5, 6}, 2: {0, 1, 2, 3, 4, 5, 6}, 3: {0, 1, 3, 4, 6}, 4: {0, 1, 5, 6}, 5: {0, 1, 2, 3, 4, 5, 6}, 6: {0}, 7: {0}, 8: {0}} {
		for _, code := range list {
			if codes[[2]int{kind, code}] == 0 {
				t.Errorf("no event of kind %d has the code %d here", kind, code)
			}
		}
	}
}

func wantWorld(t *testing.T, name string, w impl.World, codes []int, model, kept []impl.Node) {
	t.Helper()
	if !slices.Equal(w.Codes, codes) {
		t.Errorf("%s: the codes are %v, want %v", name, w.Codes, codes)
	}
	if !slowSameTree(w.Model, model) || !slowSameTree(w.Kept, kept) {
		t.Errorf("%s: the model is %v, kept is %v, want %v and %v", name, w.Model, w.Kept, model, kept)
	}
}

// The model goes on only with code 0; what is kept is what it was at the last flush.
func TestModelsOfLives(t *testing.T) {
	a, d := fileNode("/a", "", ""), dirNode("/d")
	both := fileNode("/a", "he", "ta")
	for _, c := range []struct {
		name        string
		events      []impl.Event
		codes       []int
		model, kept []impl.Node
	}{
		{"made", lifeOf(evMake("/a")), []int{0}, []impl.Node{a}, nil},
		{"made twice", lifeOf(evMake("/a"), evMake("/a"), evDir("/a")), []int{0, 2, 2}, []impl.Node{a}, nil},
		{"made in no order", lifeOf(evDir("/d"), evMake("/a"), evDir("/d/e"), evMake("/c")), []int{0, 0, 0, 0}, []impl.Node{a, fileNode("/c", "", ""), d, dirNode("/d/e")}, nil},
		{"made in what is not there", lifeOf(evMake("/d/a"), evDir("/d")), []int{1, 0}, []impl.Node{d}, nil},
		{"a head", lifeOf(evMake("/a"), evWrite("/a", 0, "he")), []int{0, 0}, []impl.Node{fileNode("/a", "he", "")}, nil},
		{"a tail", lifeOf(evMake("/a"), evWrite("/a", 1, "ta")), []int{0, 0}, []impl.Node{fileNode("/a", "", "ta")}, nil},
		{"both", lifeOf(evMake("/a"), evWrite("/a", 1, "ta"), evWrite("/a", 0, "he")), []int{0, 0, 0}, []impl.Node{both}, nil},
		{"a third one", lifeOf(evMake("/a"), evWrite("/a", 2, "no"), evWrite("/a", 9, "no")), []int{0, 6, 6}, []impl.Node{a}, nil},
		{"too long", lifeOf(evMake("/a"), evWrite("/a", 0, xs(17))), []int{0, 6}, []impl.Node{a}, nil},
		{"written over", lifeOf(evMake("/a"), evWrite("/a", 0, "one"), evWrite("/a", 0, "he"), evWrite("/a", 1, "two"), evWrite("/a", 1, "ta")), []int{0, 0, 0, 0, 0}, []impl.Node{both}, nil},
		{"removed", lifeOf(evMake("/a"), evDir("/d"), evRemove("/a")), []int{0, 0, 0}, []impl.Node{d}, nil},
		{"busy", lifeOf(evDir("/d"), evMake("/d/a"), evRemove("/d")), []int{0, 0, 5}, []impl.Node{d, fileNode("/d/a", "", "")}, nil},
		{"moved", lifeOf(evMake("/a"), evWrite("/a", 0, "he"), evWrite("/a", 1, "ta"), evMove("/a", "/z"), evMake("/a")), []int{0, 0, 0, 0, 0}, []impl.Node{a, fileNode("/z", "he", "ta")}, nil},
		{"not moved", lifeOf(evDir("/d"), evMove("/d", "/e"), evMove("/a", "/b")), []int{0, 3, 1}, []impl.Node{d}, nil},
		{"flushed", lifeOf(evMake("/a"), evFlush(), evDir("/d")), []int{0, 0, 0}, []impl.Node{a, d}, []impl.Node{a}},
		{"flushed twice", lifeOf(evMake("/a"), evFlush(), evDir("/d"), evFlush()), []int{0, 0, 0, 0}, []impl.Node{a, d}, []impl.Node{a, d}},
		{"flushed and removed", lifeOf(evMake("/a"), evWrite("/a", 0, "he"), evWrite("/a", 1, "ta"), evFlush(), evRemove("/a")), []int{0, 0, 0, 0, 0}, nil, []impl.Node{both}},
		{"flushed and written", lifeOf(evMake("/a"), evWrite("/a", 0, "he"), evWrite("/a", 1, "ta"), evFlush(), evWrite("/a", 1, "new"), evWrite("/a", 0, "old")), []int{0, 0, 0, 0, 0, 0}, []impl.Node{fileNode("/a", "old", "new")}, []impl.Node{both}},
		{"flushed and moved", lifeOf(evMake("/a"), evWrite("/a", 0, "he"), evWrite("/a", 1, "ta"), evFlush(), evMove("/a", "/b")), []int{0, 0, 0, 0, 0}, []impl.Node{fileNode("/b", "he", "ta")}, []impl.Node{both}},
		{"flushed ahead of all", lifeOf(evFlush(), evMake("/a")), []int{0, 0}, []impl.Node{a}, nil},
		{"flushed and refused", lifeOf(evMake("/a"), evFlush(), evMake("/a")), []int{0, 0, 2}, []impl.Node{a}, []impl.Node{a}},
		{"written back", then(lifeOf(evMake("/a")), evBacks(0, 5, 1, 5)...), []int{0, 0, 0, 0, 0}, []impl.Node{a}, nil},
	} {
		wantWorld(t, c.name, checkMoments(t, c.events), c.codes, c.model, c.kept)
	}
}

// What is flushed is on the device: it tells what is kept.
func TestFlushesOfLives(t *testing.T) {
	for _, events := range [][]impl.Event{nil, someLife(), then(someLife(), evBacks(5, 0, 3)...), then(someLife(), evFlush(), evMove("/a", "/d/n"), evRemove("/b"), evWrite("/d/c", 0, "x")), busyLife()} {
		w := checkLife(t, then(events, evFlush()))
		disk, _ := impl.DiskOf(w.Fs.Device)
		if !impl.Settled(w.Fs.Mem) || !impl.SameDisk(disk, w.Fs.Mem.Disk) || !slowSameTree(w.Kept, w.Model) {
			t.Errorf("flushed it is %v", w)
		}
		before, _ := impl.RunLife(events)
		if !sameFs(w.Fs, impl.Flush(before.Fs)) || !slowSameTree(w.Model, before.Model) {
			t.Errorf("flushed it is %v, ahead of it %v", w, before)
		}
		twice := checkLife(t, then(events, evFlush(), evFlush()))
		if !sameFs(twice.Fs, w.Fs) || !slowSameTree(twice.Kept, w.Kept) {
			t.Errorf("flushed twice it is %v, once %v", twice, w)
		}
	}
}

// Each unit is written back, whether something leans on it or not; neither the model nor what is kept is touched.
func TestBacksOfLives(t *testing.T) {
	moved := then(someLife(), evFlush(), evMove("/a", "/d/n"), evRemove("/b"), evWrite("/d/c", 0, "x"))
	for _, events := range [][]impl.Event{nil, someLife(), then(someLife(), evFlush()), moved, then(moved, evBacks(0, 1, 2, 3, 4)...), busyLife()} {
		w := checkLife(t, events)
		for u := range 21 {
			got := checkLife(t, then(events, evBack(u)))
			want, ok := impl.WriteBack(w.Fs, u)
			if !ok || !sameFs(got.Fs, want) || !slowSameTree(got.Model, w.Model) || !slowSameTree(got.Kept, w.Kept) || !slices.Equal(got.Codes, append(slices.Clone(w.Codes), 0)) {
				t.Errorf("unit %d is written back: %v, want %v", u, got, want)
			}
			if image, _ := impl.ImageUnit(w.Fs.Mem, u); got.Fs.Device.Units[u] != image {
				t.Errorf("unit %d is %q, want %q", u, got.Fs.Device.Units[u], image)
			}
		}
	}
}

// wantFallen wants what the document says of a fall behind these events, which end with one.
func wantFallen(t *testing.T, name string, events []impl.Event, model ...impl.Node) impl.World {
	t.Helper()
	before, _ := impl.RunLife(events[:len(events)-1])
	w := checkLife(t, events)
	disk, _ := impl.DiskOf(before.Fs.Device)
	device, _ := impl.DeviceOf(impl.MendAll(disk))
	fs, _ := impl.Mounted(device)
	if !sameFs(w.Fs, fs) || !impl.Settled(w.Fs.Mem) || w.Fs.Mem.Next != 1 || !impl.ExactDisk(w.Fs.Mem.Disk) {
		t.Errorf("%s: fallen it is %v, want %v", name, w.Fs, fs)
	}
	if !slowSameTree(w.Model, model) || !slowSameTree(w.Kept, model) || !impl.SameTree(w.Model, impl.TreeOf(fs.Mem.Disk)) {
		t.Errorf("%s: fallen the model is %v, kept is %v, want %v", name, w.Model, w.Kept, model)
	}
	return w
}

func TestFallsOfLives(t *testing.T) {
	some := someLife()
	tree := []impl.Node{fileNode("/a", "head", "tail"), fileNode("/b", "", ""), dirNode("/d"), fileNode("/d/c", "", "0123456789abcdef")}
	made := lifeOf(evMake("/a"), evWrite("/a", 0, "he"), evWrite("/a", 1, "ta"))
	file := fileNode("/a", "he", "ta")
	moved := then(made, evFlush(), evMove("/a", "/b"))
	other := fileNode("/b", "he", "ta")
	for _, c := range []struct {
		name   string
		events []impl.Event
		model  []impl.Node
	}{
		{"ahead of all", nil, nil},
		{"ahead of any write", some, nil},
		{"behind a flush", then(some, evFlush()), tree},
		{"behind a flush and more", then(some, evFlush(), evRemove("/a"), evMake("/z"), evWrite("/d/c", 0, "new"), evMove("/b", "/y")), tree},
		{"behind units without what leans", then(made, evBacks(5, 1)...), nil},
		{"behind bits alone", then(made, evBack(0)), nil},
		{"behind all but the name", then(made, evBacks(0, 1, 5, 6, 7, 1)...), nil},
		{"behind all", then(made, evBacks(0, 1, 5, 6, 7, 1, 5)...), []impl.Node{file}},
		{"behind all but the texts", then(made, evBacks(0, 1, 5, 1, 5)...), []impl.Node{fileNode("/a", "", "")}},
		{"behind all but the tail", then(made, evBacks(0, 1, 5, 6, 1, 5)...), []impl.Node{fileNode("/a", "he", "")}},
		{"behind all but the head", then(made, evBacks(0, 1, 5, 7, 1, 5)...), []impl.Node{fileNode("/a", "", "ta")}},
		{"a text that was there", then(made, evFlush(), evWrite("/a", 0, "new"), evWrite("/a", 1, "more"), evBack(7)), []impl.Node{fileNode("/a", "he", "more")}},
		{"moved, and not written", moved, []impl.Node{file}},
		{"moved, the block alone", then(moved, evBack(5)), []impl.Node{file}},
		{"moved, both names written", then(moved, evBacks(0, 1, 5)...), []impl.Node{file, other}},
		{"moved, all written", then(moved, evBacks(0, 1, 5, 5)...), []impl.Node{other}},
		{"removed, and not written", then(made, evFlush(), evRemove("/a")), []impl.Node{file}},
		{"removed, the name written", then(made, evFlush(), evRemove("/a"), evBack(5)), nil},
	} {
		events := then(c.events, evFall())
		w := wantFallen(t, c.name, events, c.model...)
		if again := wantFallen(t, c.name+", twice", then(events, evFall()), c.model...); !sameFs(again.Fs, w.Fs) {
			t.Errorf("%s: fallen again it is %v, was %v", c.name, again, w)
		}
		wantFallen(t, c.name+", thrice", then(events, evFlush(), evFall(), evBack(1), evFall()), c.model...)
	}
}

// Life goes on behind a fall: what was lost can be made again, what was kept is there.
func TestLivesBehindAFall(t *testing.T) {
	w := checkMoments(t, lifeOf(evMake("/a"), evFall(), evMake("/a"), evWrite("/a", 1, "ta"), evFlush(), evMove("/a", "/b"), evDir("/d"), evFall(), evMove("/a", "/c"), evRemove("/b"), evRemove("/d"), evWrite("/c", 0, "he"), evMake("/a")))
	wantWorld(t, "again", w, []int{0, 0, 0, 0, 0, 0, 0, 0, 0, 1, 1, 0, 5}, []impl.Node{fileNode("/c", "he", "ta")}, []impl.Node{fileNode("/a", "", "ta")})
	// All that was used is free again.
	full := then(someFiles(7), evMake("/n"), evFall())
	w = checkMoments(t, then(full, full...))
	wantWorld(t, "full", w, []int{0, 0, 0, 0, 0, 0, 0, 4, 0, 0, 0, 0, 0, 0, 0, 0, 4, 0}, nil, nil)
	// A fall amid a move may leave a file with two names; a call is of one path, and so is what it makes of the model.
	two := then(lifeOf(evMake("/a"), evFlush(), evMove("/a", "/b")), append(evBacks(0, 1, 5), evFall())...)
	both := []impl.Node{fileNode("/a", "", ""), fileNode("/b", "", "")}
	w = checkMoments(t, then(two, evWrite("/a", 0, "x")))
	wantWorld(t, "two names, one written", w, make([]int, 8), []impl.Node{fileNode("/a", "x", ""), fileNode("/b", "", "")}, both)
	if s, code := impl.ReadText(w.Fs.Mem, "/b"); s != "x" || code != 0 {
		t.Errorf("of two names the other one reads %q, %d", s, code)
	}
	w = checkMoments(t, then(two, evRemove("/a"), evFlush()))
	wantWorld(t, "two names, one removed", w, make([]int, 9), both[1:], both[1:])
}

// The power goes at each moment of a life, which then goes on.
func TestFallsAtEachMoment(t *testing.T) {
	life := then(someLife(), append(evBacks(0, 5, 1, 5), evMove("/a", "/m"), evFlush(), evMove("/m", "/d/m"), evRemove("/b"), evBack(0), evBack(1), evBack(2), evBack(9), evBack(5), evMake("/b"), evWrite("/b", 1, "new"), evBack(3), evRemove("/d/c"), evBack(9), evFlush())...)
	for k := range len(life) + 1 {
		events := slices.Insert(slices.Clone(life), k, evFall())
		checkLife(t, events[:k+1])
		w := checkLife(t, events)
		for u := range 21 {
			checkLife(t, then(events[:k], evBack(u), evFall()))
		}
		if len(w.Codes) != len(life)+1 {
			t.Errorf("fallen at %d the codes are %v", k, w.Codes)
		}
	}
	for k, e := range busyLife() {
		if k%5 == 0 || e.Kind == 8 {
			checkLife(t, then(busyLife()[:k], evFall(), evMove("/a", "/z"), evFlush(), evFall()))
		}
	}
}

// drawnLife falls and flushes more or less often, and has calls of what is there by then.
func drawnLife(draw func(int) int) []impl.Event {
	often := 10 + draw(60)
	w, _ := slowLife(nil)
	var list []impl.Event
	for range 40 + draw(21) {
		e := drawnEvent(draw, w.Model)
		switch draw(often) {
		case 0, 1:
			e = evFlush()
		case 2:
			e = evFall()
		}
		slowHappens(&w, e)
		list = append(list, e)
	}
	return list
}

// twoNames tells whether a file has more than one at some moment of a life.
func twoNames(events []impl.Event) bool {
	w, _ := slowLife(nil)
	for _, e := range events {
		slowHappens(&w, e)
		for i := 2; i <= 8; i++ {
			if slowLinks(w.Fs.Mem.Disk, i) > 1 {
				return true
			}
		}
	}
	return false
}

// The promise: in a drawn life codes are what the document tells; and so is all else of the world.
func TestDrawnLives(t *testing.T) {
	codes := map[[2]int]int{}
	told, left := 0, 0
	for seed := range 250 {
		draw := drawer(uint32(1700 + seed))
		events := drawnLife(draw)
		w := checkLife(t, events)
		for k, e := range events {
			codes[[2]int{e.Kind, w.Codes[k]}]++
		}
		for range 5 {
			k := draw(len(events))
			if part := checkLife(t, events[:k]); !slices.Equal(part.Codes, w.Codes[:k]) {
				t.Fatalf("%d events have the codes %v, all of them %v", k, part.Codes, w.Codes)
			}
			left += len(checkLife(t, then(events[:k], evFall())).Model)
		}
		if twoNames(events) {
			continue
		}
		told++
		flushed := checkLife(t, then(events[:len(events)-1], evFlush()))
		disk, _ := impl.DiskOf(flushed.Fs.Device)
		if !impl.SameTree(w.Model, impl.TreeOf(w.Fs.Mem.Disk)) || !impl.SameTree(flushed.Kept, impl.TreeOf(disk)) {
			t.Fatalf("the model is %v, memory tells %v; flushed it is %v, and the disk tells %v", w.Model, impl.TreeOf(w.Fs.Mem.Disk), flushed.Kept, impl.TreeOf(disk))
		}
	}
	for kind, list := range map[int][]int{1: {0, 1, 2, 3, 4, 5, 6}, 2: {0, 1, 2, 3, 4, 5, 6}, 3: {0, 1, 3, 6}, 4: {0, 1, 5, 6}, 5: {0, 1, 2, 3, 5, 6}, 6: {0}, 7: {0}, 8: {0}} {
		for _, code := range list {
			if n := codes[[2]int{kind, code}]; n < 5 {
				t.Errorf("in drawn lives events of kind %d have the code %d only %d times", kind, code, n)
			}
		}
	}
	if told < 100 || left < 1000 {
		t.Errorf("only %d lives have no file with two names, %d nodes are left by falls", told, left)
	}
}

func worldLists(w impl.World) []room {
	return append(fsLists(w.Fs), listRoom(w.Model), listRoom(w.Codes), listRoom(w.Kept))
}

func worldTexts(w impl.World) []room {
	return append(append(fsTexts(w.Fs), nodeTexts(w.Model)...), nodeTexts(w.Kept)...)
}

func manyLives() [][]impl.Event {
	some := someLife()
	list := [][]impl.Event{nil, some, then(some, evFlush()), then(some, evFall()), then(some, evFlush(), evFall()), then(some, evFlush(), evMove("/a", "/n"), evWrite("/n", 0, "new"), evRemove("/b")), then(some, evMake("/a"), evFlush(), evMake("/a"), evFall(), evRemove("/q")), busyLife(), then(some, impl.Event{})}
	for seed := range 10 {
		list = append(list, drawnLife(drawer(uint32(1790+seed))))
	}
	return list
}

func TestWorldsAreNewMemory(t *testing.T) {
	for _, events := range manyLives() {
		events = ownEvents(events)
		one, _ := impl.RunLife(events)
		other, _ := impl.RunLife(events)
		if twoMeet(worldLists(one)) {
			t.Errorf("two lists of the world of %v share memory", events)
		}
		if anyMeets(worldLists(one), worldLists(other)) || anyMeets(worldLists(one), []room{listRoom(events)}) {
			t.Errorf("lists of the world of %v share memory with another", events)
		}
		if anyMeets(worldTexts(one), eventTexts(events...)) {
			t.Errorf("texts of the world of %v are those of its events", events)
		}
		if anyMeets(nodeTexts(one.Model), nodeTexts(one.Kept)) || anyMeets(nodeTexts(one.Model), fsTexts(one.Fs)) || anyMeets(nodeTexts(one.Kept), fsTexts(one.Fs)) {
			t.Errorf("two trees of the world of %v share texts", events)
		}
		runtime.KeepAlive(other)
		runtime.KeepAlive(events)
	}
}

// Whoever writes into an answer changes neither what was handed in nor the next answer; spare room stays as it is.
func TestWorldsThatAreSpoilt(t *testing.T) {
	for _, life := range manyLives() {
		behind := then(life, evMake("/behind"), impl.Event{Kind: 77})
		events := behind[:len(life)]
		want, right := slowLife(life)
		first, _ := impl.RunLife(events)
		kept := slices.Clone(first.Kept)
		spoilNodes(first.Model)
		if !slowSameTree(first.Kept, kept) {
			t.Errorf("what is kept changes with the model of %v", life)
		}
		spoilNodes(first.Kept)
		spoilNumbers(first.Codes)
		spoilFs(first.Fs)
		if !slices.Equal(behind, then(life, evMake("/behind"), impl.Event{Kind: 77})) {
			t.Errorf("events, or spare room behind them, were written into: %v", behind)
		}
		second, ok := impl.RunLife(events)
		if ok != right || !sameWorld(second, want) {
			t.Errorf("RunLife(%v) answers %v behind a spoilt answer, want %v", life, second, want)
		}
		for k := range behind {
			behind[k] = evMove("spoilt", "spoilt")
		}
		if !sameWorld(second, want) {
			t.Errorf("the world of %v changes with its events", life)
		}
	}
}

// Lives at the same time, of the same events: each is as it is alone.
func TestLivesAtTheSameTime(t *testing.T) {
	lives := manyLives()
	got := make([][2]impl.World, len(lives))
	var all sync.WaitGroup
	for k, events := range lives {
		for n := range 2 {
			all.Go(func() { got[k][n], _ = impl.RunLife(events) })
		}
	}
	all.Wait()
	for k, events := range lives {
		want, _ := slowLife(events)
		if !sameWorld(got[k][0], want) || !sameWorld(got[k][1], want) {
			t.Errorf("at the same time as others the life %v is %v and %v, want %v", events, got[k][0], got[k][1], want)
		}
	}
}
