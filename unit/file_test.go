package unit

import (
	"slices"
	"strings"
	"testing"
	"time"

	"clepsydra/api"
)

// full is a file in which every field says something.
func full() File {
	return File{
		Kind: 1,
		Unit: Unit{
			Requires: []string{"r1.service", "r2.service"}, Wants: []string{"w1.service", "w2.service"}, BindsTo: []string{"b1.service", "b2.service"}, PartOf: []string{"p1.service", "p2.service"},
			After: []string{"a1.service", "a2.service"}, Before: []string{"b3.service", "b4.service"}, Conflicts: []string{"c1.service", "c2.service"},
			Defaults: true, Interval: 1, Burst: 2,
		},
		Service: Service{Type: 1, Remain: true, Restart: 2, Again: 3, Up: 4, Down: 5, Exec: []string{"x", "y"}},
		Timer: Timer{
			Triggers: []Trigger{{Kind: 3, Span: 6}, {Kind: 1, Text: "daily"}}, Accuracy: 7, Random: 8,
			Persistent: true, OnClock: true, OnZone: true, Unit: "t.service",
		},
	}
}

// textLists are where a file's lists of texts stand.
func textLists(f *File) []*[]string {
	u := &f.Unit
	return []*[]string{&u.Requires, &u.Wants, &u.BindsTo, &u.PartOf, &u.After, &u.Before, &u.Conflicts, &f.Service.Exec}
}

// changes are files that say another thing than full in one field.
func changes() []File {
	var all []File
	with := func(change func(f *File)) {
		f := full()
		change(&f)
		all = append(all, f)
	}
	for i := range textLists(&File{}) {
		with(func(f *File) { *textLists(f)[i] = nil })
		with(func(f *File) { *textLists(f)[i] = (*textLists(f)[i])[:1] })
		with(func(f *File) { *textLists(f)[i] = (*textLists(f)[i])[1:] })
		with(func(f *File) { *textLists(f)[i] = append(*textLists(f)[i], "") })
		with(func(f *File) { (*textLists(f)[i])[0] = "" })
		with(func(f *File) { (*textLists(f)[i])[1] += "x" })
		with(func(f *File) { slices.Reverse(*textLists(f)[i]) })
	}
	for _, change := range []func(f *File){
		func(f *File) { f.Kind = 2 },
		func(f *File) { f.Unit.Defaults = false },
		func(f *File) { f.Unit.Interval = 100 },
		func(f *File) { f.Unit.Burst = 100 },
		func(f *File) { f.Service.Type = 100 },
		func(f *File) { f.Service.Remain = false },
		func(f *File) { f.Service.Restart = 100 },
		func(f *File) { f.Service.Again = 100 },
		func(f *File) { f.Service.Up = 100 },
		func(f *File) { f.Service.Down = 100 },
		func(f *File) { f.Timer.Triggers = nil },
		func(f *File) { f.Timer.Triggers = f.Timer.Triggers[:1] },
		func(f *File) { f.Timer.Triggers = append(f.Timer.Triggers, Trigger{}) },
		func(f *File) { f.Timer.Triggers[0].Kind = 100 },
		func(f *File) { f.Timer.Triggers[0].Span = 100 },
		func(f *File) { f.Timer.Triggers[1].Text = "hourly" },
		func(f *File) { slices.Reverse(f.Timer.Triggers) },
		func(f *File) { f.Timer.Accuracy = 100 },
		func(f *File) { f.Timer.Random = 100 },
		func(f *File) { f.Timer.Persistent = false },
		func(f *File) { f.Timer.OnClock = false },
		func(f *File) { f.Timer.OnZone = false },
		func(f *File) { f.Timer.Unit = "" },
	} {
		with(change)
	}
	return all
}

func isSame(t *testing.T, a, b File, want bool) {
	t.Helper()
	if Same(a, b) != want || Same(b, a) != want {
		t.Errorf("Same(%s, %s) = %v, other way round %v, but should be %v", short(a), short(b), Same(a, b), Same(b, a), want)
	}
}

// P13.3: files that differ in one field each.
func TestSame(t *testing.T) {
	isSame(t, full(), full(), true)
	isSame(t, File{}, File{}, true)
	isSame(t, File{}, full(), false)
	all := changes()
	for i, f := range all {
		isSame(t, f, full(), false)
		for j, g := range all {
			if same := equal(f, g); same != (i == j) {
				t.Fatalf("changes %d and %d: %v", i, j, same)
			}
			isSame(t, f, deep(g), i == j)
		}
	}
	// Fields of one sort take not each other's place.
	a, b := File{}, File{}
	a.Unit.After, b.Unit.Before = []string{"a.service"}, []string{"a.service"}
	isSame(t, a, b, false)
	a, b = File{}, File{}
	a.Service.Up, b.Service.Down = 1, 1
	isSame(t, a, b, false)
	a, b = File{}, File{}
	a.Service.Exec, b.Service.Exec = []string{"a b"}, []string{"a", "b"}
	isSame(t, a, b, false)
}

// P13.3: lists that are nil, and lists that are empty, are the same, and so are files that were made in other ways.
func TestSameInOtherWays(t *testing.T) {
	var empty File
	for _, l := range textLists(&empty) {
		*l = []string{}
	}
	empty.Timer.Triggers = make([]Trigger, 0, 4)
	isSame(t, empty, File{}, true)
	isSame(t, empty, deep(empty), true)
	for i := range textLists(&empty) {
		f := File{}
		*textLists(&f)[i] = make([]string, 3)[:0]
		isSame(t, f, File{}, true)
		isSame(t, f, empty, true)
		*textLists(&f)[i] = []string{""}
		isSame(t, f, File{}, false)
		isSame(t, f, empty, false)
	}
	f := fileOf(t, "a.service")
	isSame(t, sets(t, f, "Unit", "After", "b.service c.service"), sets(t, f, "Unit", "After", "x.timer", "", "b.service", `"c.service"`), true)
	isSame(t, sets(t, f, "Service", "TimeoutSec", "0"), sets(t, sets(t, f, "Service", "TimeoutStopSec", "infinity"), "Service", "TimeoutStartSec", "0s"), true)
	isSame(t, sets(t, f, "Service", "RestartSec", "100ms"), f, true)
	isSame(t, fileOf(t, "a.service"), fileOf(t, "b.service"), true)
	isSame(t, fileOf(t, "a.timer"), fileOf(t, "b.timer"), false)
	isSame(t, fileOf(t, "a.target"), fileOf(t, "a.service"), false)
	isSame(t, sets(t, fileOf(t, "a.timer"), "Timer", "OnCalendar", "daily"), sets(t, fileOf(t, "a.timer"), "Timer", "OnCalendar", "*-*-* 00:00:00"), false)
}

// P13.3: files drawn by lot, against the library's way to hold things against each other.
func TestSameLot(t *testing.T) {
	l := newLot(4)
	for range 2000 {
		f, g := l.file(), l.file()
		isSame(t, f, g, equal(f, g))
		isSame(t, f, deep(f), true)
		section, key, value := l.assignment()
		g, _ = Set(f, section, key, value)
		isSame(t, f, g, equal(f, g))
	}
}

// crowded is a file whose lists stand in one memory, one behind the other, with something behind each one's length; and that memory.
func crowded(f File) (File, []string, []Trigger) {
	var texts []string
	for _, l := range textLists(&f) {
		texts = append(append(texts, *l...), "behind", "behind")
	}
	rest := texts
	for _, l := range textLists(&f) {
		n := len(*l)
		*l, rest = rest[:n], rest[n+2:]
	}
	triggers := append(slices.Clone(f.Timer.Triggers), Trigger{Text: "behind"}, Trigger{Text: "behind"})
	f.Timer.Triggers = triggers[:len(f.Timer.Triggers)]
	return f, texts, triggers
}

// writeOver writes over all that stands in a file's lists, and behind them.
func writeOver(f File) {
	for _, l := range textLists(&f) {
		all := (*l)[:cap(*l)]
		for i := range all {
			all[i] = "written over"
		}
	}
	all := f.Timer.Triggers[:cap(f.Timer.Triggers)]
	for i := range all {
		all[i] = Trigger{Kind: 99, Span: 99, Text: "written over"}
	}
}

// P13.4: what is handed in is only read, behind the lists' lengths too; what is answered may be written over.
func TestMemory(t *testing.T) {
	l := newLot(5)
	for range 4000 {
		made := l.file()
		if l.Intn(10) == 0 {
			made = full()
		}
		f, texts, triggers := crowded(made)
		wantTexts, wantTriggers := slices.Clone(texts), slices.Clone(triggers)
		section, key, value := l.assignment()
		got, err := Set(f, section, key, value)
		want := deep(got)
		again, _ := Set(f, section, key, value)
		writeOver(again)
		if !slices.Equal(texts, wantTexts) || !slices.Equal(triggers, wantTriggers) {
			t.Fatalf("Set(%s, %q, %q, %q), %d: what was handed in is changed", short(made), section, key, value, err)
		}
		if !equal(got, want) {
			t.Fatalf("Set(%s, %q, %q, %q), %d: another answer is changed", short(made), section, key, value, err)
		}
		writeOver(f)
		if !equal(got, want) {
			t.Fatalf("Set(%s, %q, %q, %q), %d: what was handed in is kept", short(made), section, key, value, err)
		}
	}
}

// P13.4: Same and Set leave all of a file as it is, its lists' memory too, whatever the key.
func TestOnlyRead(t *testing.T) {
	for _, r := range table() {
		for _, value := range []string{valueOf(r), "", `"`} {
			made := full()
			made.Kind = r.kind()
			f, texts, triggers := crowded(made)
			wantTexts, wantTriggers := slices.Clone(texts), slices.Clone(triggers)
			Set(f, r.section, r.key, value)
			Same(f, full())
			Same(full(), f)
			if !equal(f, made) || !slices.Equal(texts, wantTexts) || !slices.Equal(triggers, wantTriggers) {
				t.Errorf("%s=%s: %s, but was %s", r.key, value, short(f), short(made))
			}
		}
	}
}

// P13.4: the lists of one answer share no memory.
func TestListsApart(t *testing.T) {
	for _, r := range table() {
		for _, value := range []string{valueOf(r), "", `"`} {
			made := full()
			made.Kind = r.kind()
			f, _, _ := crowded(made)
			shared := []string{"s.service", "s.service"}
			for _, l := range textLists(&f)[:4] {
				*l = shared
			}
			for i := range textLists(&f) {
				got, _ := Set(f, r.section, r.key, value)
				want := deep(got)
				l := textLists(&got)[i]
				for j := range (*l)[:cap(*l)] {
					(*l)[:cap(*l)][j] = "written over"
				}
				*textLists(&got)[i], *textLists(&want)[i] = nil, nil
				if !equal(got, want) {
					t.Fatalf("%s=%s: list %d shares its memory", r.key, value, i)
				}
			}
		}
	}
}

// P13.4: what New answers is new each time.
func TestNewAgain(t *testing.T) {
	for _, name := range []string{"a.service", "a.timer", "a.target"} {
		want := deep(fileOf(t, name))
		f := fileOf(t, name)
		writeOver(f)
		for _, l := range textLists(&f) {
			*l = append(*l, "x.service")
		}
		f.Timer.Triggers = append(f.Timer.Triggers, Trigger{Kind: 3})
		if g := fileOf(t, name); !equal(g, want) {
			t.Errorf("New(%q): %s, but was %s", name, short(g), short(want))
		}
	}
}

// both makes two assignments, and tells what each one answered.
func both(f File, first, second [3]string) (File, api.Errno, api.Errno) {
	f, err := Set(f, first[0], first[1], first[2])
	f, other := Set(f, second[0], second[1], second[2])
	return f, err, other
}

// P13.5: assignments to unlike keys may be made in either order.
func TestEitherOrder(t *testing.T) {
	l := newLot(6)
	rows := append(table(), row{"Install", "After", "names", nil}, row{"X-a", "Type", "type", nil}, row{"Unit", "Colour", "names", nil})
	for _, a := range rows {
		for _, b := range rows {
			if a.section == b.section && a.key == b.key || a.isTrigger() && b.isTrigger() || a.key == "TimeoutSec" || b.key == "TimeoutSec" {
				continue
			}
			for range 8 {
				f := l.file()
				x, y := [3]string{a.section, a.key, l.value(a.sort)}, [3]string{b.section, b.key, l.value(b.sort)}
				g, gx, gy := both(f, x, y)
				h, hy, hx := both(f, y, x)
				if !equal(g, h) || !Same(g, h) || gx != hx || gy != hy {
					t.Fatalf("%q, then %q:\n%s, %d, %d; the other way round\n%s, %d, %d", x, y, short(g), gx, gy, short(h), hx, hy)
				}
			}
		}
	}
}

// P13.5: of keys that it leaves out, the order counts.
func TestOrderCounts(t *testing.T) {
	f := fileOf(t, "a.timer")
	g := sets(t, sets(t, f, "Timer", "OnBootSec", "1"), "Timer", "OnActiveSec", "1")
	h := sets(t, sets(t, f, "Timer", "OnActiveSec", "1"), "Timer", "OnBootSec", "1")
	isSame(t, g, h, false)
	f = fileOf(t, "a.service")
	g = sets(t, sets(t, f, "Service", "TimeoutSec", "1"), "Service", "TimeoutStopSec", "2")
	h = sets(t, sets(t, f, "Service", "TimeoutStopSec", "2"), "Service", "TimeoutSec", "1")
	if g.Service.Up != 1000000 || g.Service.Down != 2000000 || h.Service.Up != 1000000 || h.Service.Down != 1000000 {
		t.Errorf("%s, and %s", short(g), short(h))
	}
}

// P13.5: an empty names' value makes what was ahead of it count for nothing.
func TestEmptyNames(t *testing.T) {
	l := newLot(7)
	for key := range namesOfRows(&File{}) {
		for range 200 {
			f := l.file()
			for _, nothing := range []string{"", " ", "\t "} {
				want := sets(t, f, "Unit", key, nothing)
				if n := len(*namesOfRows(&want)[key]); n != 0 {
					t.Fatalf("%d names of %s", n, key)
				}
				g := f
				for range l.Intn(5) {
					g, _ = Set(g, "Unit", key, l.names())
				}
				says(t, g, "Unit", key, nothing, want)
				more := l.names()
				g, err := Set(sets(t, g, "Unit", key, nothing), "Unit", key, more)
				h, other := Set(want, "Unit", key, more)
				if err != other || !equal(g, h) {
					t.Fatalf("%s=%q behind nothing: %s, %d, but should be %s, %d", key, more, short(g), err, short(h), other)
				}
			}
		}
	}
}

// What is answered hangs on what was handed in alone.
func TestAgain(t *testing.T) {
	l := newLot(8)
	for range 500 {
		f := l.file()
		section, key, value := l.assignment()
		g, err := Set(f, section, key, value)
		l.file()
		if h, other := Set(f, section, key, value); other != err || !equal(g, h) {
			t.Fatalf("Set(%s, %q, %q, %q): %s, %d, then %s, %d", short(f), section, key, value, short(g), err, short(h), other)
		}
	}
}

// No file that is made by hand makes a call panic, and what it has stays.
func TestFilesByHand(t *testing.T) {
	p := newPlain()
	for kind := range 256 {
		f := full()
		f.Kind = uint8(kind)
		for _, r := range table() {
			for _, value := range []string{valueOf(r), "", `"`, "infinity"} {
				p.holds(t, f, r.section, r.key, value)
				p.holds(t, File{Kind: uint8(kind)}, r.section, r.key, value)
			}
		}
	}
	f := File{Unit: Unit{Interval: -1, Burst: -1}, Service: Service{Type: 200, Restart: 200, Again: -1, Up: -1, Down: -1}, Timer: Timer{Accuracy: -1, Random: -1, Unit: "\x00"}}
	says(t, f, "Unit", "Description", "", f)
	refuses(t, f, "Unit", "Colour", "", api.ErrKey)
}

// Every call ends soon, however much it is given.
func TestTime(t *testing.T) {
	begin := time.Now()
	const size = 1 << 16
	files := []File{fileOf(t, "a.service"), fileOf(t, "a.timer"), full()}
	for _, part := range []string{"a", " ", "a.service ", `"`, `"" `, `"a.service" `, `\`, `\x41 `, `'`, "0", "9", "1s ", "1us", "-", ".", "\xff", "Mon,", "1,"} {
		text := strings.Repeat(part, size/len(part))
		Kind(text)
		Kind(text + ".service")
		New(text)
		for _, f := range files {
			Set(f, text, text, text)
			Set(f, "X-"+text, text, text)
			for _, r := range table() {
				Set(f, r.section, r.key, text)
			}
		}
	}
	long := File{Unit: Unit{After: slices.Repeat([]string{"a.service"}, size)}, Timer: Timer{Triggers: make([]Trigger, size)}}
	if !Same(long, sets(t, long, "Unit", "Before", "")) {
		t.Error("a long file is another one")
	}
	if took := time.Since(begin); took > 10*time.Second {
		t.Errorf("it took %v", took)
	}
}
