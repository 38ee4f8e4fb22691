package unit

import (
	"math"
	"reflect"
	"slices"
	"strings"
	"testing"

	"clepsydra/api"
)

// fileOf is what a unit's files say at first.
func fileOf(t *testing.T, name string) File {
	t.Helper()
	f, err := New(name)
	if err != api.OK {
		t.Fatalf("New(%q): %d", name, err)
	}
	return f
}

// sets makes assignments of one key, of which none may be wrong.
func sets(t *testing.T, f File, section, key string, values ...string) File {
	t.Helper()
	for _, value := range values {
		g, err := Set(f, section, key, value)
		if err != api.OK {
			t.Fatalf("Set(%s, %q, %q, %q): %d", short(f), section, key, cut(value), err)
		}
		f = g
	}
	return f
}

// says fails unless an assignment makes one file of another one.
func says(t *testing.T, f File, section, key, value string, want File) {
	t.Helper()
	if g, err := Set(f, section, key, value); err != api.OK || !equal(g, want) {
		t.Errorf("Set(%s, %q, %q, %q):\n%s, %d, but should be\n%s, 0", short(f), section, key, cut(value), short(g), err, short(want))
	}
}

// refuses fails unless an assignment is told to be wrong, and leaves the file as it was.
func refuses(t *testing.T, f File, section, key, value string, want api.Errno) {
	t.Helper()
	if g, err := Set(f, section, key, value); err != want || !equal(g, f) {
		t.Errorf("Set(%s, %q, %q, %q):\n%s, %d, but should be the file, %d", short(f), section, key, cut(value), short(g), err, want)
	}
}

// wrong fails unless values are none of a key's.
func wrong(t *testing.T, f File, section, key string, values ...string) {
	t.Helper()
	for _, value := range values {
		refuses(t, f, section, key, value, api.ErrValue)
	}
}

func isKind(t *testing.T, name string, kind uint8) {
	t.Helper()
	if got, err := Kind(name); got != kind || err != api.OK {
		t.Errorf("Kind(%q): %d, %d, but should be %d, 0", name, got, err, kind)
	}
	if f, err := New(name); err != api.OK || f.Kind != kind {
		t.Errorf("New(%q): %s, %d, but should be of kind %d", name, short(f), err, kind)
	}
}

func isNoName(t *testing.T, name string) {
	t.Helper()
	if got, err := Kind(name); got != 0 || err != api.ErrName {
		t.Errorf("Kind(%q): %d, %d, but should be 0, 150", name, got, err)
	}
	if f, err := New(name); err != api.ErrName || !reflect.DeepEqual(f, File{}) {
		t.Errorf("New(%q): %s, %d, but should be nothing, 150", name, short(f), err)
	}
}

// capital is a text with a great letter ahead.
func capital(text string) string { return strings.ToUpper(text[:1]) + text[1:] }

// ends are those of names, and the kinds that they tell.
func ends() map[string]uint8 {
	return map[string]uint8{".service": api.Service, ".timer": api.Timer, ".target": api.Target}
}

// The chapter's examples.
func TestExamples(t *testing.T) {
	f := fileOf(t, "a.timer")
	if f.Timer.Unit != "a.service" || f.Timer.Accuracy != 60000000 {
		t.Errorf("New: %s", short(f))
	}
	f = sets(t, f, "Timer", "OnBootSec", "5min")
	if !slices.Equal(f.Timer.Triggers, []Trigger{{Kind: api.OnBoot, Span: 300000000}}) {
		t.Errorf("Set: %s", short(f))
	}
}

// P13.1: names of each kind, and none.
func TestKind(t *testing.T) {
	for end, kind := range ends() {
		for _, ahead := range []string{"a", "Z", "0", "web", "a.b", "a.service", "a.timer", "a.target", ".service", ".timer", ".target", ".", "..", "-", "-a", ":", "_", "@", "a@", "a@b", `\`, `a\x2db`, "service", "a.service.d", "X-a", strings.Repeat(".service", 7)} {
			isKind(t, ahead+end, kind)
			isNoName(t, ahead+strings.ToUpper(end))
			isNoName(t, ahead+"."+capital(end[1:]))
			for i := range end {
				isNoName(t, ahead+"."+end[:i]+end[i+1:]+"x")
				isNoName(t, ahead+end[:i]+"#"+end[i+1:])
				isNoName(t, ahead+"x"+end[:i]+end[i+1:])
			}
			for _, more := range []string{"s", ".", " ", "\n", "\x00", ".d", ".conf", ".services", ".mount"} {
				isNoName(t, ahead+end+more)
			}
		}
		isNoName(t, end)
		isNoName(t, end[1:])
		isNoName(t, " "+end)
		isNoName(t, " a"+end)
		isNoName(t, "/a"+end)
		isKind(t, end+end, kind)
	}
	for _, none := range []string{"", ".", "a", ".conf", "a.mount", "a.socket", "a.path", "a.slice", "a.device", "service", "a.serviceservice", "a.timer,b.timer", "\x00", "é.service", "a\u00adb.timer", "日.target", "\xff.service"} {
		isNoName(t, none)
	}
}

// P13.1: each byte there is, at each place of a name.
func TestEveryByteOfNames(t *testing.T) {
	const right = "abcdefghijklmnopqrstuvwxyzABCDEFGHIJKLMNOPQRSTUVWXYZ0123456789:-_.@\\"
	for end, kind := range ends() {
		for i := range 256 {
			c := string([]byte{byte(i)})
			for _, ahead := range []string{c, c + "a", "a" + c, "a" + c + "b", c + c + c} {
				if strings.Contains(right, c) {
					isKind(t, ahead+end, kind)
				} else {
					isNoName(t, ahead+end)
				}
			}
			if i != '.' {
				isNoName(t, "a"+c+end[1:])
			}
			isNoName(t, "a"+end+c)
		}
	}
}

// P13.1: names of 63, 64 and 65 bytes, and more.
func TestLongNames(t *testing.T) {
	for end, kind := range ends() {
		for _, n := range []int{1, 2, 62, 63, 64} {
			if ahead := n - len(end); ahead > 0 {
				isKind(t, strings.Repeat("a", ahead)+end, kind)
				isKind(t, strings.Repeat(`\`, ahead)+end, kind)
			}
		}
		for _, n := range []int{65, 66, 72, 128, 1000, 65536} {
			isNoName(t, strings.Repeat("a", n-len(end))+end)
			isNoName(t, strings.Repeat("a", n))
		}
	}
}

// P13.1: all that files say at first, of each kind.
func TestNew(t *testing.T) {
	all := Unit{Defaults: true, Interval: 10000000, Burst: 5}
	for name, want := range map[string]File{
		"a.target":  {Kind: 3, Unit: all},
		"a.service": {Kind: 1, Unit: all, Service: Service{Type: 1, Restart: 1, Again: 100000, Up: 90000000, Down: 90000000}},
		"a.timer":   {Kind: 2, Unit: all, Timer: Timer{Accuracy: 60000000, Unit: "a.service"}},
	} {
		if f, err := New(name); err != api.OK || !equal(f, want) {
			t.Errorf("New(%q): %s, %d, but should be %s, 0", name, short(f), err, short(want))
		}
	}
	for name, want := range map[string]string{
		"a.b@c.timer":     "a.b@c.service",
		"a.timer.timer":   "a.timer.service",
		".timer.timer":    ".timer.service",
		"a.service.timer": "a.service.service",
		"a.target.timer":  "a.target.service",
		"A_timer.timer":   "A_timer.service",
		`\x2d.timer`:      `\x2d.service`,
		// It is what the words say, though no unit may have that name.
		strings.Repeat("a", 58) + ".timer": strings.Repeat("a", 58) + ".service",
	} {
		if f := fileOf(t, name); f.Timer.Unit != want {
			t.Errorf("New(%q): of unit %q, but should be of %q", name, f.Timer.Unit, want)
		}
	}
}

// rightValue is one of a sort.
func rightValue(sort string) string {
	return map[string]string{
		"names": "b.service", "switch": "on", "span": "1min", "digits": "7", "anything": "a b", "type": "exec", "restart": "always", "finite": "1min",
		"timeout": "1min", "words": "/bin/x", "trigger1": "daily", "accuracy": "1min", "unit": "b.target",
	}[sort]
}

// valueOf is a right value of a row's.
func valueOf(r row) string {
	if r.isTrigger() && r.sort != "trigger1" {
		return "1min"
	}
	return rightValue(r.sort)
}

// P13.2: each key is one in its section, in files of the kinds that have that, and nowhere else.
func TestKeys(t *testing.T) {
	if len(table()) != 32 {
		t.Fatalf("%d rows", len(table()))
	}
	has := map[string]bool{}
	for _, r := range table() {
		has[r.section+"]"+r.key] = true
	}
	for _, r := range table() {
		for kind := range 256 {
			f := File{Kind: uint8(kind)}
			if r.section == "Unit" || kind == int(r.kind()) {
				g := sets(t, f, r.section, r.key, valueOf(r))
				if Same(f, g) != (r.to == nil) {
					t.Errorf("%s of %s, kind %d: %s", r.key, r.section, kind, short(g))
				}
			} else {
				refuses(t, f, r.section, r.key, valueOf(r), api.ErrKey)
			}
			for _, section := range []string{"Unit", "Service", "Timer"} {
				if !has[section+"]"+r.key] {
					refuses(t, f, section, r.key, valueOf(r), api.ErrKey)
					refuses(t, f, section, r.key, "", api.ErrKey)
				}
			}
		}
		f := fileOf(t, map[uint8]string{1: "a.service", 2: "a.timer"}[r.kind()])
		for _, section := range []string{"", "unit", "UNIT", "service", "timer", "TIMER", "Target", "Path", "install", "Installs", "x-Unit", "X", "x", "-X-", " X-a", "X_", " " + r.section, r.section + " ", r.section + "s", "[" + r.section + "]", r.section + "\x00", strings.ToLower(r.section), strings.ToUpper(r.section), r.section[1:]} {
			refuses(t, f, section, r.key, valueOf(r), api.ErrKey)
		}
		for _, key := range []string{"", " ", strings.ToLower(r.key), strings.ToUpper(r.key), strings.ToLower(r.key[:1]) + r.key[1:], r.key + "s", r.key + " ", " " + r.key, r.key + "=", r.key + "\x00", r.key[1:], r.key[:len(r.key)-1]} {
			if !has[r.section+"]"+key] {
				refuses(t, f, r.section, key, valueOf(r), api.ErrKey)
			}
		}
	}
}

// P13.2: keys that other programs know, but this one does not.
func TestForeignKeys(t *testing.T) {
	for _, name := range []string{"a.service", "a.timer", "a.target"} {
		for _, section := range []string{"Unit", "Service", "Timer"} {
			for _, key := range []string{"Colour", "Requisite", "Upholds", "WantedBy", "ExecStop", "ExecStartPre", "ExecReload", "User", "WakeSystem", "RemainAfterElapse", "FixedRandomDelay", "DeferReactivation", "StartLimitAction", "OnFailure", "Interval", "Burst", "Defaults", "Remain", "Again", "Up", "Down", "Exec", "Triggers", "Accuracy", "Random", "OnClock", "OnZone", "Kind"} {
				refuses(t, fileOf(t, name), section, key, "a.service", api.ErrKey)
			}
		}
	}
}

// P13.2: in sections Install, and X- and anything, anything stands, and says nothing.
func TestSectionsOfOthers(t *testing.T) {
	files := []File{fileOf(t, "a.service"), fileOf(t, "a.timer"), fileOf(t, "a.target"), {}, {Kind: 9}, sets(t, fileOf(t, "a.service"), "Unit", "After", "b.service")}
	for _, f := range files {
		for _, section := range []string{"Install", "X-", "X-a", "X-Unit", "X-Service", "X-Timer", "X-Install", "X--", "X- a", "X-\x00\xff"} {
			for _, key := range []string{"", " ", "WantedBy", "Alias", "After", "Type", "OnBootSec", "Colour", "=", "\xff"} {
				for _, value := range []string{"", " ", "anything", "a.service", `"`, `\`, "\x00", strings.Repeat("a ", 100)} {
					says(t, f, section, key, value, f)
				}
			}
		}
	}
}

// P13.2: Description and Documentation take anything, and say nothing.
func TestDescription(t *testing.T) {
	for _, name := range []string{"a.service", "a.timer", "a.target"} {
		f := sets(t, fileOf(t, name), "Unit", "After", "b.service")
		for _, value := range []string{"", " ", "A unit", `"`, `'a`, `\`, "\x00\xff", "a.service", strings.Repeat("a ", 100)} {
			says(t, f, "Unit", "Description", value, f)
			says(t, f, "Unit", "Documentation", value, f)
		}
	}
}

// namesOfRows are the fields of a file's lists of names, by their keys.
func namesOfRows(f *File) map[string]*[]string {
	return map[string]*[]string{
		"Requires": &f.Unit.Requires, "Wants": &f.Unit.Wants, "BindsTo": &f.Unit.BindsTo, "PartOf": &f.Unit.PartOf,
		"After": &f.Unit.After, "Before": &f.Unit.Before, "Conflicts": &f.Unit.Conflicts,
	}
}

// P13.2: names, one and several, put behind those that are there; of a value without words none.
func TestNames(t *testing.T) {
	for key := range namesOfRows(&File{}) {
		for _, name := range []string{"a.service", "a.timer", "a.target"} {
			f := fileOf(t, name)
			want := f
			l := namesOfRows(&want)[key]
			*l = []string{"b.service"}
			says(t, f, "Unit", key, "b.service", want)
			says(t, f, "Unit", key, " \tb.service\t ", want)
			says(t, f, "Unit", key, `"b.service"`, want)
			says(t, f, "Unit", key, `b'.ser'"vice"`, want)
			says(t, f, "Unit", key, `\x62\x2eservice`, want)
			g := want
			*l = []string{"b.service", "c.timer", "d.target", "b.service", "a.service", "b.service"}
			says(t, f, "Unit", key, "b.service c.timer\td.target  'b.service' a.service b.service", want)
			says(t, g, "Unit", key, "c.timer d.target b.service a.service b.service", want)
			says(t, sets(t, g, "Unit", key, "c.timer", "d.target b.service"), "Unit", key, "a.service b.service", want)
			h := want
			*l = nil
			for _, nothing := range []string{"", " ", "\t", " \t \t\t  "} {
				says(t, f, "Unit", key, nothing, want)
				says(t, g, "Unit", key, nothing, want)
				says(t, h, "Unit", key, nothing, want)
			}
			*l = []string{"z.target"}
			says(t, sets(t, h, "Unit", key, "", "b.service", " "), "Unit", key, "z.target", want)
			*l = []string{`a\b.service`, `\.timer`}
			says(t, f, "Unit", key, `a\\b.service '\.timer'`, want)
		}
	}
}

// P13.2: values in which something is no name, or no word.
func TestWrongNames(t *testing.T) {
	for key := range namesOfRows(&File{}) {
		for _, f := range []File{fileOf(t, "a.service"), sets(t, fileOf(t, "a.timer"), "Unit", key, "x.service y.target")} {
			for _, none := range []string{
				"nobody", ".service", "a.service.", "a.service,", "a.service,b.service", "a.service;", "a.mount", "A.Service", `""`, `''`, `" "`, `"a.service b.service"`, `' a.service'`, `"a.service "`,
				`a.service\sb.service`, `a\x20.service`, `a\tb.service`, `"`, `'`, `"a.service`, `a.service'`, `\`, `a.service\`, `a\b.service`, `a\.service`, `a.service\ b.service`, `\x2`, `\xzz.service`, "\n", "a.service\nb.service", "a.service\n",
				"\x00.service", "é.service", "\xff.service", "a/b.service", "/a.service", "a b.service", "$a.service", "%i.service", "#", "#a.service", strings.Repeat("a", 57) + ".service", strings.Repeat("a.service", 8),
			} {
				wrong(t, f, "Unit", key, none, none+" b.service", "b.service "+none, "b.service\t"+none+"\tc.target", " "+none+" ", "b.service c.timer d.target "+none)
			}
			long := strings.Repeat("a", 56) + ".service"
			g := sets(t, f, "Unit", key, long+" b.service")
			if l := *namesOfRows(&g)[key]; !slices.Contains(l, long) {
				t.Errorf("%s: %s", key, short(g))
			}
		}
	}
}

// many are names, one blank between.
func many(name string, n int) string { return strings.TrimSuffix(strings.Repeat(name+" ", n), " ") }

// P13.2: up to 64 names, in one value and over several.
func TestMaxNames(t *testing.T) {
	for key := range namesOfRows(&File{}) {
		f := fileOf(t, "a.service")
		for _, told := range []string{"b.service", `"b.service"`, `\x62.service`} {
			for ahead := range 66 {
				g := f
				*namesOfRows(&g)[key] = slices.Repeat([]string{"a.service"}, min(ahead, 64))
				if ahead > 0 && ahead <= 64 && !Same(sets(t, f, "Unit", key, many("a.service", ahead)), g) {
					t.Errorf("%d names of %s", ahead, key)
				}
				for _, n := range []int{1, 2, 62, 63, 64, 65, 66, 128, 1000} {
					if len(*namesOfRows(&g)[key])+n > 64 {
						refuses(t, g, "Unit", key, many(told, n), api.ErrLimit)
						continue
					}
					want := deep(g)
					l := namesOfRows(&want)[key]
					*l = append(*l, slices.Repeat([]string{"b.service"}, n)...)
					says(t, g, "Unit", key, many(told, n), want)
				}
			}
		}
		full := sets(t, f, "Unit", key, many("b.service", 64))
		says(t, full, "Unit", key, "", f)
		says(t, full, "Unit", key, " ", f)
		// Each list has a limit of its own.
		for other := range namesOfRows(&File{}) {
			if other != key {
				full = sets(t, full, "Unit", other, many("c.service", 63), "c.service")
			}
		}
		refuses(t, full, "Unit", key, "b.service", api.ErrLimit)
		says(t, sets(t, full, "Unit", key, ""), "Unit", key, many("b.service", 64), full)
		// Lists that are too long are no one's who has only handed them in.
		made := f
		*namesOfRows(&made)[key] = slices.Repeat([]string{"nobody"}, 70)
		refuses(t, made, "Unit", key, "b.service", api.ErrLimit)
		says(t, made, "Unit", key, "", f)
		says(t, made, "Unit", "Description", "", made)
	}
}

// P13.2: a wrong value is told ahead of one that is too much, a wrong key ahead of both.
func TestWhichError(t *testing.T) {
	f := fileOf(t, "a.service")
	full := sets(t, f, "Unit", "After", many("b.service", 64))
	for _, g := range []File{f, full} {
		for _, none := range []string{"nobody", `""`, `"`, `\`, `"b.service c.service"`, "b.service\n"} {
			for _, n := range []int{64, 65, 66, 200, 5000} {
				wrong(t, g, "Unit", "After", many("b.service", n)+" "+none, none+" "+many("b.service", n), many("b.service", n)+" "+none+" "+many("b.service", n))
			}
		}
		wrong(t, g, "Unit", "After", "nobody", `"`, many("nobody", 65), many(`""`, 65), many("b.service", 65)+`"`)
		refuses(t, g, "Unit", "After", many("b.service", 65), api.ErrLimit)
		for _, value := range []string{"b.service", "nobody", `"`, many("b.service", 65)} {
			refuses(t, g, "Service", "After", value, api.ErrKey)
			refuses(t, g, "Unit", "Afters", value, api.ErrKey)
			refuses(t, g, "Timer", "Unit", value, api.ErrKey)
		}
	}
	refuses(t, full, "Unit", "After", "b.service", api.ErrLimit)
	refuses(t, f, "Timer", "OnBootSec", "never", api.ErrKey)
	refuses(t, f, "Service", "Colour", "red", api.ErrKey)
	refuses(t, fileOf(t, "a.timer"), "Service", "Type", "dbus", api.ErrKey)
	refuses(t, fileOf(t, "a.target"), "Service", "Type", "dbus", api.ErrKey)
	refuses(t, fileOf(t, "a.target"), "Timer", "Unit", "", api.ErrKey)
	many64 := fileOf(t, "a.timer")
	many64.Timer.Triggers = slices.Repeat([]Trigger{{Kind: 3, Span: 1}}, 64)
	wrong(t, many64, "Timer", "OnBootSec", "never", "infinity", " ")
	wrong(t, many64, "Timer", "OnCalendar", "never", " ")
	refuses(t, many64, "Timer", "OnBootSec", "1", api.ErrLimit)
	refuses(t, many64, "Timer", "OnCalendar", "daily", api.ErrLimit)
	refuses(t, many64, "Timer", "OnBoot", "1", api.ErrKey)
	refuses(t, many64, "Service", "OnBootSec", "1", api.ErrKey)
}

// switches are the fields of a file's switches, by their sections and keys.
func switches(f *File) map[[2]string]*bool {
	return map[[2]string]*bool{
		{"Unit", "DefaultDependencies"}: &f.Unit.Defaults, {"Service", "RemainAfterExit"}: &f.Service.Remain,
		{"Timer", "Persistent"}: &f.Timer.Persistent, {"Timer", "OnClockChange"}: &f.Timer.OnClock, {"Timer", "OnTimezoneChange"}: &f.Timer.OnZone,
	}
}

// nameFor is a unit's that has a section.
func nameFor(section string) string {
	if section == "Timer" {
		return "a.timer"
	}
	return "a.service"
}

// P13.2: switches of each word, and of nearly one.
func TestSwitches(t *testing.T) {
	for at := range switches(&File{}) {
		for _, was := range []bool{false, true} {
			f := fileOf(t, nameFor(at[0]))
			*switches(&f)[at] = was
			want := f
			for _, value := range []string{"yes", "true", "on", "1"} {
				*switches(&want)[at] = true
				says(t, f, at[0], at[1], value, want)
				wrong(t, f, at[0], at[1], value+" ", " "+value, "\t"+value, value+value, value+" "+value, `"`+value+`"`, value+"\n", value[1:], "0"+value, value+"0", value+"\x00")
			}
			for _, value := range []string{"no", "false", "off", "0"} {
				*switches(&want)[at] = false
				says(t, f, at[0], at[1], value, want)
				wrong(t, f, at[0], at[1], value+" ", " "+value, "\t"+value, value+"1", value+" "+value, `'`+value+`'`, value+"\n", value[1:], "1"+value, value+"\x00")
			}
			wrong(t, f, at[0], at[1], "", " ", "YES", "Yes", "yES", "True", "TRUE", "On", "ON", "NO", "No", "False", "FALSE", "Off", "OFF", "y", "n", "t", "f", "o", "ye", "tru", "fals", "of", "2", "-1", "00", "01", "none", "never", "enabled", "yes no", "۱", "ｙes")
		}
	}
}

// spans are the fields of a file's spans, by their sections and keys.
func spans(f *File) map[[2]string]*int64 {
	return map[[2]string]*int64{
		{"Unit", "StartLimitIntervalSec"}: &f.Unit.Interval,
		{"Service", "RestartSec"}:         &f.Service.Again, {"Service", "TimeoutStartSec"}: &f.Service.Up, {"Service", "TimeoutStopSec"}: &f.Service.Down,
		{"Timer", "AccuracySec"}: &f.Timer.Accuracy, {"Timer", "RandomizedDelaySec"}: &f.Timer.Random,
	}
}

// wrongSpans are none.
func wrongSpans() []string {
	return []string{"", " ", "\t", "-1", "+1", "1x", "1 x", "s", "infinite", "Infinity", "INFINITY", "inf", "infinity s", "infinity infinity", "1 infinity", "infinity 1", "never", "1.", ".5", "1.0000000", "1,5", "1s,", "0x1", "1e3", "9223372036854775807us", "9223372036854775808us", "9223372036855", "292278y", "99999999999999999999", "1\n", "1\x00", `"1"`, "'1s'", "yes", "１"}
}

// P13.2: spans that are right, wrong, 0, and infinity.
func TestSpans(t *testing.T) {
	const infinity = math.MaxInt64
	for at := range spans(&File{}) {
		f := fileOf(t, nameFor(at[0]))
		want := f
		field := spans(&want)[at]
		for value, n := range map[string]int64{
			"1": 1000000, "1us": 1, "5min": 300000000, " 1h 30min ": 5400000000, "1.5s": 1500000, "0.000002": 2, "007": 7000000, "1s1us": 1000001, "\t2\td\t": 172800000000,
			"9223372036854775806us": infinity - 1, "9223372036854.775806": infinity - 1,
		} {
			*field = n
			says(t, f, at[0], at[1], value, want)
			says(t, sets(t, f, at[0], at[1], "3", value, "4"), at[0], at[1], value, want)
		}
		for _, nought := range []string{"0", "0s", "00", "0us", " 0 ", "0.0min", "0 0 0h", "0.9us", "0.000000y"} {
			*field = 0
			switch at[1] {
			case "TimeoutStartSec", "TimeoutStopSec":
				*field = infinity
			case "AccuracySec":
				*field = 1
			}
			says(t, f, at[0], at[1], nought, want)
		}
		wrong(t, f, at[0], at[1], wrongSpans()...)
		for _, value := range []string{"infinity", " infinity", "infinity\t", " \t infinity  "} {
			*field = infinity
			switch at[1] {
			case "StartLimitIntervalSec", "TimeoutStartSec", "TimeoutStopSec":
				says(t, f, at[0], at[1], value, want)
				says(t, sets(t, f, at[0], at[1], "7"), at[0], at[1], value, want)
			default:
				wrong(t, f, at[0], at[1], value)
			}
		}
	}
}

// P13.2: each timeout alone, and both.
func TestTimeouts(t *testing.T) {
	const infinity = math.MaxInt64
	f := fileOf(t, "a.service")
	for value, n := range map[string]int64{"7s": 7000000, "0": infinity, "0s": infinity, "infinity": infinity, "1us": 1, "0.5us": infinity} {
		want := f
		want.Service.Up = n
		says(t, f, "Service", "TimeoutStartSec", value, want)
		want.Service.Down = n
		says(t, f, "Service", "TimeoutSec", value, want)
		says(t, sets(t, f, "Service", "TimeoutStartSec", "3"), "Service", "TimeoutSec", value, want)
		says(t, sets(t, f, "Service", "TimeoutStartSec", value), "Service", "TimeoutStopSec", value, want)
		want.Service.Up = 90000000
		says(t, f, "Service", "TimeoutStopSec", value, want)
		want.Service.Up = 3000000
		says(t, sets(t, f, "Service", "TimeoutSec", value), "Service", "TimeoutStartSec", "3", deepUp(want, n))
	}
	wrong(t, f, "Service", "TimeoutSec", wrongSpans()...)
}

// deepUp is a file whose timeout for stopping is another one.
func deepUp(f File, down int64) File {
	f = deep(f)
	f.Service.Down = down
	return f
}

// P13.2: bursts: digits, at most 1000000.
func TestBurst(t *testing.T) {
	for _, name := range []string{"a.service", "a.timer", "a.target"} {
		f := fileOf(t, name)
		want := f
		for value, n := range map[string]int64{
			"0": 0, "1": 1, "5": 5, "9": 9, "10": 10, "00": 0, "007": 7, "010": 10, "123456": 123456, "999999": 999999, "1000000": 1000000, "0001000000": 1000000,
			strings.Repeat("0", 100): 0, strings.Repeat("0", 100) + "42": 42, strings.Repeat("0", 5000) + "1000000": 1000000,
		} {
			want.Unit.Burst = n
			says(t, f, "Unit", "StartLimitBurst", value, want)
			says(t, sets(t, f, "Unit", "StartLimitBurst", "3", value, "4"), "Unit", "StartLimitBurst", value, want)
		}
		wrong(t, f, "Unit", "StartLimitBurst", "", " ", "-1", "+1", "-0", "1 ", " 1", "1\n", "1.0", "1,0", "1_0", "0x1", "0b1", "1e3", "a", "ten", "1a", "a1", "1 2", `"1"`, "infinity", "1000001", "0001000001", "1000010", "2000000", "9999999", "10000000",
			"4294967296", "4294967301", "9223372036854775807", "9223372036854775808", "18446744073709551616", "18446744073709551621", strings.Repeat("9", 30), strings.Repeat("1", 5000), "0"+strings.Repeat("9", 30), "٣", "１", "\x00", "1\x00", "/", ":")
	}
}

// P13.2: types of services, and when they are started again.
func TestTypeAndRestart(t *testing.T) {
	f := fileOf(t, "a.service")
	for value, n := range map[string]uint8{"simple": Simple, "oneshot": Oneshot, "exec": Exec} {
		want := f
		want.Service.Type = n
		says(t, f, "Service", "Type", value, want)
		says(t, sets(t, f, "Service", "Type", "exec", "oneshot"), "Service", "Type", value, want)
		wrong(t, f, "Service", "Type", strings.ToUpper(value), capital(value), " "+value, value+" ", value+"\n", value[1:], value[:len(value)-1], value+value, `"`+value+`"`)
	}
	wrong(t, f, "Service", "Type", "", " ", "dbus", "notify", "forking", "idle", "1", "0", "no", "one-shot", "simple oneshot")
	for value, n := range map[string]uint8{"no": Never, "always": Always, "on-success": OnSuccess, "on-failure": OnFailure} {
		want := f
		want.Service.Restart = n
		says(t, f, "Service", "Restart", value, want)
		says(t, sets(t, f, "Service", "Restart", "always", "on-failure"), "Service", "Restart", value, want)
		wrong(t, f, "Service", "Restart", strings.ToUpper(value), capital(value), " "+value, value+" ", value+"\n", value[1:], value[:len(value)-1], value+value, `"`+value+`"`)
	}
	wrong(t, f, "Service", "Restart", "", " ", "never", "yes", "false", "0", "1", "on-abnormal", "on-abort", "on-watchdog", "on_success", "onfailure", "on-success on-failure")
	if Simple != 1 || Oneshot != 2 || Exec != 3 || Never != 1 || Always != 2 || OnSuccess != 3 || OnFailure != 4 {
		t.Error("the numbers of types, and of when to start again")
	}
}

// P13.2: what a service runs: words, which take the place of those that were there, or none.
func TestExec(t *testing.T) {
	f := fileOf(t, "a.service")
	was := sets(t, f, "Service", "ExecStart", "/bin/was here")
	want := f
	for value, l := range map[string][]string{
		"/bin/x": {"/bin/x"}, `/bin/x 'a b'`: {"/bin/x", "a b"}, " a\tb ": {"a", "b"}, `""`: {""}, `"" ''`: {"", ""}, `a\sb`: {"a b"}, `\x00 "é"`: {"\x00", "é"}, "a = b": {"a", "=", "b"}, "\n": {"\n"},
		"": nil, ` ""`: {""}, "\t''\t": {""}, `" "`: {" "}, "'\t'": {"\t"}, `\s`: {" "}, `\t`: {"\t"}, `\x20`: {" "},
		many("a", 63): slices.Repeat([]string{"a"}, 63), many("'a b'", 64): slices.Repeat([]string{"a b"}, 64),
	} {
		want.Service.Exec = l
		says(t, f, "Service", "ExecStart", value, want)
		says(t, was, "Service", "ExecStart", value, want)
	}
	for _, g := range []File{f, was} {
		wrong(t, g, "Service", "ExecStart", `"`, `'`, `/bin/x "a`, `/bin/x 'a`, `\`, `/bin/x \`, `\q`, `\x4`, `\ `, `a" b`, many("a", 64)+` "`, many("a", 65)+` "`, many("a", 65)+` \`)
		refuses(t, g, "Service", "ExecStart", many("a", 65), api.ErrLimit)
		refuses(t, g, "Service", "ExecStart", many("a", 1000), api.ErrLimit)
		refuses(t, g, "Service", "ExecStart", many(`""`, 65), api.ErrLimit)
	}
}

// P13.2: a value of blanks alone is not words, one at least, nor nothing: only an empty one is that.
func TestExecOfBlanks(t *testing.T) {
	f := fileOf(t, "a.service")
	one := sets(t, f, "Service", "ExecStart", `""`)
	for _, g := range []File{f, one, sets(t, f, "Service", "ExecStart", "/bin/was here"), sets(t, f, "Service", "ExecStart", many("a", 64))} {
		says(t, g, "Service", "ExecStart", "", f)
		rows := []string{""}
		for range 7 {
			var longer []string
			for _, row := range rows {
				longer = append(longer, row+" ", row+"\t")
			}
			rows = longer
			for _, row := range rows {
				wrong(t, g, "Service", "ExecStart", row)
				says(t, g, "Service", "ExecStart", row+`""`, one)
				says(t, g, "Service", "ExecStart", `""`+row, one)
			}
		}
		wrong(t, g, "Service", "ExecStart", strings.Repeat(" ", 64), strings.Repeat("\t", 65), strings.Repeat(" \t", 30000))
	}
}

// P13.2: the unit of a timer: a service or a target.
func TestTimerUnit(t *testing.T) {
	f := fileOf(t, "a.timer")
	want := f
	for _, name := range []string{"b.service", "b.target", "a.service", "a.timer.service", ".timer.target", `\.service`, strings.Repeat("b", 56) + ".service"} {
		want.Timer.Unit = name
		says(t, f, "Timer", "Unit", name, want)
		says(t, sets(t, f, "Timer", "Unit", "x.target"), "Timer", "Unit", name, want)
		wrong(t, f, "Timer", "Unit", " "+name, name+" ", name+" "+name, `"`+name+`"`, name+"\n", name+".timer")
	}
	wrong(t, f, "Timer", "Unit", "", " ", "a.timer", "b.timer", "a.service.timer", ".service", ".target", "b", "b.mount", "b.Service", "a b.service", "é.service", strings.Repeat("b", 57)+".service", strings.Repeat("b", 58)+".timer")
}

// kinds are the triggers' keys, but the calendar's, and what they begin with.
func kinds() map[string]uint8 {
	return map[string]uint8{"OnActiveSec": api.OnActive, "OnBootSec": api.OnBoot, "OnStartupSec": api.OnStartup, "OnUnitActiveSec": api.OnUnitActive, "OnUnitInactiveSec": api.OnUnitInactive}
}

// P13.2: triggers of spans.
func TestTriggersOfSpans(t *testing.T) {
	f := fileOf(t, "a.timer")
	for key, kind := range kinds() {
		for value, n := range map[string]int64{"1": 1000000, "5min": 300000000, " 1h 30min ": 5400000000, "0": 0, "0s": 0, "0.1us": 0, "1us": 1, "9223372036854775806us": math.MaxInt64 - 1} {
			want := f
			want.Timer.Triggers = []Trigger{{Kind: kind, Span: n}}
			says(t, f, "Timer", key, value, want)
		}
		for _, value := range append(wrongSpans(), "infinity", " infinity ", "daily") {
			if value != "" {
				wrong(t, f, "Timer", key, value)
				wrong(t, sets(t, f, "Timer", key, "1", "2"), "Timer", key, value)
			}
		}
	}
}

// P13.2: triggers of a calendar: with the text as it was told.
func TestTriggersOfCalendars(t *testing.T) {
	f := fileOf(t, "a.timer")
	for _, value := range []string{"daily", "DAILY", "hourly UTC", "*-*-* 00:00:00", "Mon..Fri 8:30", "Sat..Mon 10:00", "  Mon   1:00 ", "*-*~1 0/6:00", "12-24 */6:30", "\tweekly"} {
		want := f
		want.Timer.Triggers = []Trigger{{Kind: api.OnCalendar, Text: value}}
		says(t, f, "Timer", "OnCalendar", value, want)
	}
	for _, value := range []string{" ", "\t", "never", "*-2~3..1", "25:00", "5min", "1", "infinity", "daily daily", "1:00 2:00", "daily\n", `"daily"`, "UTC", strings.Repeat(" ", 3996) + "daily"} {
		wrong(t, f, "Timer", "OnCalendar", value)
		wrong(t, sets(t, f, "Timer", "OnCalendar", "1:00", "2:00"), "Timer", "OnCalendar", value)
	}
}

// P13.2: triggers of all keys stand in their order; an empty value of each key clears them all.
func TestTriggersInOrder(t *testing.T) {
	f := fileOf(t, "a.timer")
	g := f
	var want []Trigger
	for _, x := range []struct {
		key, value string
		trigger    Trigger
	}{
		{"OnBootSec", "5min", Trigger{Kind: 3, Span: 300000000}},
		{"OnCalendar", "daily", Trigger{Kind: 1, Text: "daily"}},
		{"OnActiveSec", "1", Trigger{Kind: 2, Span: 1000000}},
		{"OnUnitInactiveSec", "1", Trigger{Kind: 6, Span: 1000000}},
		{"OnBootSec", "5min", Trigger{Kind: 3, Span: 300000000}},
		{"OnStartupSec", "0", Trigger{Kind: 4}},
		{"OnCalendar", "daily", Trigger{Kind: 1, Text: "daily"}},
		{"OnUnitActiveSec", "2us", Trigger{Kind: 5, Span: 2}},
		{"OnCalendar", "1:00", Trigger{Kind: 1, Text: "1:00"}},
	} {
		g = sets(t, g, "Timer", x.key, x.value)
		want = append(want, x.trigger)
		if !slices.Equal(g.Timer.Triggers, want) {
			t.Errorf("%s", short(g))
		}
	}
	for _, r := range table() {
		if r.isTrigger() {
			says(t, g, "Timer", r.key, "", f)
			says(t, f, "Timer", r.key, "", f)
			says(t, sets(t, g, "Timer", r.key, "", "", valueOf(r)), "Timer", r.key, "", f)
			says(t, sets(t, g, "Timer", r.key, "", valueOf(r)), "Timer", r.key, valueOf(r), sets(t, f, "Timer", r.key, valueOf(r), valueOf(r)))
		}
	}
}

// P13.2: up to 64 triggers, whichever keys they are of.
func TestMaxTriggers(t *testing.T) {
	var keys []row
	for _, r := range table() {
		if r.isTrigger() {
			keys = append(keys, r)
		}
	}
	for first := range keys {
		f := fileOf(t, "a.timer")
		for i := range 64 {
			r := keys[(first+i%7)%len(keys)]
			f = sets(t, f, "Timer", r.key, valueOf(r))
			if len(f.Timer.Triggers) != i+1 {
				t.Fatalf("%d triggers, not %d", len(f.Timer.Triggers), i+1)
			}
		}
		for _, r := range keys {
			refuses(t, f, "Timer", r.key, valueOf(r), api.ErrLimit)
			says(t, f, "Timer", r.key, "", fileOf(t, "a.timer"))
		}
		made := f
		made.Timer.Triggers = slices.Repeat([]Trigger{{Kind: 9, Span: -1, Text: "made by hand"}}, 65)
		refuses(t, made, "Timer", keys[first].key, valueOf(keys[first]), api.ErrLimit)
		says(t, made, "Timer", "Persistent", "no", made)
	}
}

// P13.2: what is not of a file's kind stays as it was at first, and all else as it was.
func TestNothingElse(t *testing.T) {
	for _, r := range table() {
		f := File{Kind: r.kind()}
		g := sets(t, f, r.section, r.key, valueOf(r))
		for _, other := range table() {
			for _, path := range other.to {
				changed := !reflect.DeepEqual(at(&f, path).Interface(), at(&g, path).Interface())
				if changed != slices.Contains(r.to, path) {
					t.Errorf("%s of %s: %s is %v", r.key, r.section, path, at(&g, path).Interface())
				}
			}
		}
		if g.Kind != f.Kind {
			t.Errorf("%s of %s: kind %d", r.key, r.section, g.Kind)
		}
	}
}
