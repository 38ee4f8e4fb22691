package unit

import (
	"fmt"
	"math/rand"
	"reflect"
	"regexp"
	"slices"
	"strconv"
	"strings"
	"testing"

	"clepsydra/api"
	"clepsydra/cal"
	"clepsydra/timespan"
	"clepsydra/words"
)

// row is one of the chapter's table: what its values are, and where they go. The sort of a trigger's row has its kind behind it.
type row struct {
	section, key, sort string
	to                 []string
}

func table() []row {
	return []row{
		{"Unit", "Requires", "names", []string{"Unit.Requires"}},
		{"Unit", "Wants", "names", []string{"Unit.Wants"}},
		{"Unit", "BindsTo", "names", []string{"Unit.BindsTo"}},
		{"Unit", "PartOf", "names", []string{"Unit.PartOf"}},
		{"Unit", "After", "names", []string{"Unit.After"}},
		{"Unit", "Before", "names", []string{"Unit.Before"}},
		{"Unit", "Conflicts", "names", []string{"Unit.Conflicts"}},
		{"Unit", "DefaultDependencies", "switch", []string{"Unit.Defaults"}},
		{"Unit", "StartLimitIntervalSec", "span", []string{"Unit.Interval"}},
		{"Unit", "StartLimitBurst", "digits", []string{"Unit.Burst"}},
		{"Unit", "Description", "anything", nil},
		{"Unit", "Documentation", "anything", nil},
		{"Service", "Type", "type", []string{"Service.Type"}},
		{"Service", "RemainAfterExit", "switch", []string{"Service.Remain"}},
		{"Service", "Restart", "restart", []string{"Service.Restart"}},
		{"Service", "RestartSec", "finite", []string{"Service.Again"}},
		{"Service", "TimeoutStartSec", "timeout", []string{"Service.Up"}},
		{"Service", "TimeoutStopSec", "timeout", []string{"Service.Down"}},
		{"Service", "TimeoutSec", "timeout", []string{"Service.Up", "Service.Down"}},
		{"Service", "ExecStart", "words", []string{"Service.Exec"}},
		{"Timer", "OnCalendar", "trigger1", []string{"Timer.Triggers"}},
		{"Timer", "OnActiveSec", "trigger2", []string{"Timer.Triggers"}},
		{"Timer", "OnBootSec", "trigger3", []string{"Timer.Triggers"}},
		{"Timer", "OnStartupSec", "trigger4", []string{"Timer.Triggers"}},
		{"Timer", "OnUnitActiveSec", "trigger5", []string{"Timer.Triggers"}},
		{"Timer", "OnUnitInactiveSec", "trigger6", []string{"Timer.Triggers"}},
		{"Timer", "AccuracySec", "accuracy", []string{"Timer.Accuracy"}},
		{"Timer", "RandomizedDelaySec", "finite", []string{"Timer.Random"}},
		{"Timer", "Persistent", "switch", []string{"Timer.Persistent"}},
		{"Timer", "OnClockChange", "switch", []string{"Timer.OnClock"}},
		{"Timer", "OnTimezoneChange", "switch", []string{"Timer.OnZone"}},
		{"Timer", "Unit", "unit", []string{"Timer.Unit"}},
	}
}

// isTrigger: is it one of the six keys that tell triggers?
func (r row) isTrigger() bool { return strings.HasPrefix(r.sort, "trigger") }

// isNames: are its values names?
func (r row) isNames() bool { return r.sort == "names" }

// kind is that of files which have the row's section; a service's, if all have it.
func (r row) kind() uint8 {
	if r.section == "Timer" {
		return 2
	}
	return 1
}

// at is where a file has what a path tells.
func at(f *File, path string) reflect.Value {
	v := reflect.ValueOf(f).Elem()
	for _, name := range strings.Split(path, ".") {
		v = v.FieldByName(name)
	}
	return v
}

// deep is the same file in memory of its own, in which no list is empty, but nil.
func deep(f File) File {
	for _, r := range table() {
		for _, path := range r.to {
			v := at(&f, path)
			if v.Kind() != reflect.Slice {
				continue
			}
			made := reflect.MakeSlice(v.Type(), v.Len(), v.Len())
			reflect.Copy(made, v)
			if v.Len() == 0 {
				made = reflect.Zero(v.Type())
			}
			v.Set(made)
		}
	}
	return f
}

// equal: do two files say the same, by the library's way to hold things against each other?
func equal(a, b File) bool { return reflect.DeepEqual(deep(a), deep(b)) }

// short is a file that a failed test may tell.
func short(f File) string { return cut(fmt.Sprintf("%+v", f)) }

func cut(text string) string {
	if len(text) > 600 {
		return text[:400] + " .. " + text[len(text)-150:] + " (" + strconv.Itoa(len(text)) + " bytes)"
	}
	return text
}

// plain is the chapter told once more: the table, patterns, and lists of words.
type plain struct {
	name, digits *regexp.Regexp
	rows         map[string]row
}

func newPlain() plain {
	p := plain{
		name:   regexp.MustCompile(`^[a-zA-Z0-9:\-_.@\\]+\.(service|timer|target)$`),
		digits: regexp.MustCompile(`^0*([0-9]{1,7})$`),
		rows:   map[string]row{},
	}
	for _, r := range table() {
		p.rows[r.section+"]"+r.key] = r
	}
	return p
}

func (p plain) kind(name string) uint8 {
	found := p.name.FindStringSubmatch(name)
	if found == nil || len(name) > 64 {
		return 0
	}
	return map[string]uint8{"service": 1, "timer": 2, "target": 3}[found[1]]
}

// words are all of a value's, however many; false: it is wrong.
func (p plain) words(value string) ([]string, bool) {
	value = strings.Trim(value, " \t")
	if value == "" {
		return nil, true
	}
	// The shortest text ahead of a blank that is right is a word.
	for i := 1; i <= len(value); i++ {
		if i < len(value) && value[i] != ' ' && value[i] != '\t' {
			continue
		}
		first, err := words.Split(value[:i])
		if err != api.OK {
			continue
		}
		more, ok := p.words(value[i:])
		return append(first, more...), ok
	}
	return nil, false
}

// span reads one; 0 is what zero says.
func (p plain) span(value string, infinite bool, zero int64) (any, api.Errno) {
	n, err := timespan.Parse(value)
	if err != api.OK || n == api.Infinity && !infinite {
		return nil, 131
	}
	if n == 0 {
		n = zero
	}
	return n, 0
}

// one reads a word by what it says.
func one[T any](value string, says map[string]T) (any, api.Errno) {
	n, ok := says[value]
	if !ok {
		return nil, 131
	}
	return n, 0
}

// list puts what is behind a list, or clears it.
func list[T any](old, more []T, clear bool) (any, api.Errno) {
	if clear {
		return []T(nil), 0
	}
	if len(old)+len(more) > 64 {
		return nil, 3
	}
	return slices.Concat(old, more), 0
}

// says is what a row's value says, where old is what was there.
func (p plain) says(sort, value string, old any) (any, api.Errno) {
	switch sort {
	case "names":
		l, ok := p.words(value)
		if !ok || slices.ContainsFunc(l, func(name string) bool { return p.kind(name) == 0 }) {
			return nil, 131
		}
		return list(old.([]string), l, len(l) == 0)
	case "words":
		l, ok := p.words(value)
		if !ok || len(l) == 0 && value != "" {
			return nil, 131
		}
		return list(nil, l, value == "")
	case "switch":
		return one(value, map[string]bool{"yes": true, "true": true, "on": true, "1": true, "no": false, "false": false, "off": false, "0": false})
	case "type":
		return one(value, map[string]uint8{"simple": 1, "oneshot": 2, "exec": 3})
	case "restart":
		return one(value, map[string]uint8{"no": 1, "always": 2, "on-success": 3, "on-failure": 4})
	case "span":
		return p.span(value, true, 0)
	case "finite":
		return p.span(value, false, 0)
	case "timeout":
		return p.span(value, true, 9223372036854775807)
	case "accuracy":
		return p.span(value, false, 1)
	case "digits":
		found := p.digits.FindStringSubmatch(value)
		if found == nil {
			return nil, 131
		}
		n, _ := strconv.Atoi(found[1])
		if n > 1000000 {
			return nil, 131
		}
		return int64(n), 0
	case "unit":
		if kind := p.kind(value); kind != 1 && kind != 3 {
			return nil, 131
		}
		return value, 0
	}
	return p.trigger(sort, value, old.([]Trigger))
}

func (p plain) trigger(sort, value string, old []Trigger) (any, api.Errno) {
	t := Trigger{Kind: sort[len(sort)-1] - '0'}
	if value == "" {
		return list(old, nil, true)
	}
	if t.Kind == 1 {
		if _, err := cal.Parse(value); err != api.OK {
			return nil, 131
		}
		t.Text = value
		return list(old, []Trigger{t}, false)
	}
	n, err := p.span(value, false, 0)
	if err != api.OK {
		return nil, err
	}
	t.Span = n.(int64)
	return list(old, []Trigger{t}, false)
}

func (p plain) set(f File, section, key, value string) (File, api.Errno) {
	f = deep(f)
	if section == "Install" || len(section) > 1 && section[:2] == "X-" {
		return f, 0
	}
	r, ok := p.rows[section+"]"+key]
	if !ok || section == "Service" && f.Kind != 1 || section == "Timer" && f.Kind != 2 {
		return f, 130
	}
	if r.sort == "anything" {
		return f, 0
	}
	told, err := p.says(r.sort, value, at(&f, r.to[0]).Interface())
	if err != api.OK {
		return f, err
	}
	for _, path := range r.to {
		at(&f, path).Set(reflect.ValueOf(told))
	}
	return f, 0
}

// holds fails unless Set answers of an assignment what the model answers; it tells that.
func (p plain) holds(t *testing.T, f File, section, key, value string) (File, api.Errno) {
	t.Helper()
	got, err := Set(f, section, key, value)
	want, wantErr := p.set(f, section, key, value)
	if err != wantErr || !equal(got, want) {
		t.Fatalf("Set(%s, %q, %q, %q):\n%s, %d, but should be\n%s, %d", short(f), section, key, cut(value), short(got), err, short(want), wantErr)
	}
	return got, err
}

// lot draws names, values and files.
type lot struct{ *rand.Rand }

func newLot(seed int64) lot { return lot{rand.New(rand.NewSource(seed))} }

func (l lot) of(texts ...string) string { return texts[l.Intn(len(texts))] }

// name is a unit's.
func (l lot) name() string {
	const bytes = `abcxyzABCXYZ0189:-_.@\`
	n := 1 + l.Intn(6)
	if l.Intn(20) == 0 {
		n = 54 + l.Intn(3)
	}
	var b strings.Builder
	for range n {
		b.WriteByte(bytes[l.Intn(len(bytes))])
	}
	return b.String() + l.of(".service", ".service", ".timer", ".target")
}

// nearName is none, most often.
func (l lot) nearName() string {
	name := l.name()
	i := l.Intn(len(name))
	switch l.Intn(5) {
	case 0:
		return name[:i]
	case 1:
		return name[i:]
	case 2:
		return name[:i] + string([]byte{byte(l.Intn(256))}) + name[i+1:]
	case 3:
		return name[:i] + name[i+1:]
	}
	return strings.Repeat("a", 64-len(name)%8) + name
}

// told is a name as a value may tell it.
func (l lot) told(name string) string {
	name = strings.ReplaceAll(name, `\`, `\\`)
	switch l.Intn(8) {
	case 0:
		return `"` + name + `"`
	case 1:
		return `'` + strings.ReplaceAll(name, `\\`, `\`) + `'`
	case 2:
		return strings.ReplaceAll(name, ".", `\x2e`)
	case 3:
		return `""` + name
	}
	return name
}

// names are some, blanks between, and perhaps something that is none.
func (l lot) names() string {
	n := l.Intn(5)
	switch l.Intn(12) {
	case 0:
		n = 20 + l.Intn(60)
	case 1:
		n = 63 + l.Intn(3)
	}
	var all []string
	for range n {
		all = append(all, l.told(l.name()))
	}
	if l.Intn(5) == 0 {
		wrong := l.of(l.nearName(), l.nearName(), `""`, `"`, `'`, `\`, `a.service\`, `"a.service b.service"`, `a\sb.service`, `\x20`, "nobody", "a.service,b.service", "\n", "é.service")
		all = slices.Insert(all, l.Intn(len(all)+1), wrong)
	}
	blank := l.of(" ", " ", "\t", "  ", " \t ")
	return l.of("", "", " ") + strings.Join(all, blank) + l.of("", "", "\t")
}

// words are some of any bytes.
func (l lot) words() string {
	n := l.Intn(4)
	if l.Intn(8) == 0 {
		n = 60 + l.Intn(10)
	}
	var all []string
	for range n {
		all = append(all, l.of("a", "/bin/x", `"a b"`, `'c "d'`, `\x41`, `""`, "é", "x=1", "\n"))
	}
	if l.Intn(8) == 0 {
		all = append(all, l.of(`"`, `'`, `\`, `\q`, `"a`))
	}
	return l.of("", " ", "\t ") + strings.Join(all, l.of(" ", "\t", "  ")) + l.of("", "", " ")
}

// number is a row of digits, or nearly one.
func (l lot) number() string {
	switch l.Intn(8) {
	case 0:
		return l.of("", "-1", "+1", "1.5", "0x1", "1_0", " 1", "1 ", "٣", "1e3")
	case 1:
		return l.of("999999", "1000000", "1000001", "01000000", "0001000001", "10000000", "99999999999999999999999")
	}
	return strings.Repeat("0", l.Intn(3)) + strconv.Itoa(l.Intn(1100000))
}

// span is a text of one, or of none.
func (l lot) span() string {
	switch l.Intn(6) {
	case 0:
		return l.of("0", "0s", "0us", "0.0min", "0.1us", "infinity", " infinity ", "00")
	case 1:
		return l.of("", " ", "-1", "1 x", "inf", "Infinity", "infinity 1s", "9223372036854775806us", "9223372036854775807us", "300000y", "1.s", "s")
	}
	return strconv.Itoa(l.Intn(1000)) + l.of("", "us", "ms", "s", " min", "h", "d", "y") + l.of("", "", " 1s", " ")
}

func (l lot) calendar() string {
	return l.of("", "daily", "DAILY", "Mon..Fri 8:30", "*-*~1 0/6:00", " 1:00 ", "*:*:*", "12-24 */6:30", "hourly UTC", "*-2~3..1", "never", " ", "25:00", "Mon", "1:00 2:00")
}

// value is one of a sort, or nearly so.
func (l lot) value(sort string) string {
	if l.Intn(40) == 0 {
		sort = "anything"
	}
	switch sort {
	case "names":
		return l.names()
	case "unit":
		return l.of(l.name(), l.name(), l.nearName(), " "+l.name(), "")
	case "words":
		return l.words()
	case "switch":
		return l.of("yes", "true", "on", "1", "no", "false", "off", "0", "YES", "y", "", "yes ", "2", "None")
	case "type":
		return l.of("simple", "oneshot", "exec", "dbus", "", "Simple", "simple exec", "notify", "1")
	case "restart":
		return l.of("no", "always", "on-success", "on-failure", "on-abnormal", "", "No", "never", "yes", "on_failure")
	case "digits":
		return l.number()
	case "span", "finite", "timeout", "accuracy":
		return l.span()
	case "trigger1":
		return l.calendar()
	case "anything":
		return l.of("", " ", "a.service", "1", "yes", "\x00\xff", `"`, "5min", "daily", "simple")
	}
	return l.span()
}

// assignment is one to a key of a section, now and then to another one.
func (l lot) assignment() (section, key, value string) {
	rows := table()
	r := rows[l.Intn(len(rows))]
	section, key, value = r.section, r.key, l.value(r.sort)
	switch l.Intn(25) {
	case 0:
		section = l.of("Unit", "Service", "Timer", "Install", "X-", "X-Timer", "x-a", "X", "", "unit", " Unit", "Units")
	case 1:
		key = l.of("", "after", key+"s", key+" ", "Unit", "Type", strings.ToUpper(key), rows[l.Intn(len(rows))].key)
	}
	return section, key, value
}

// file is any that assignments have made, of any name.
func (l lot) file() File {
	f, _ := New(l.name())
	for range l.Intn(12) {
		f, _ = Set(f, "Unit", l.of("After", "Requires", "Wants", "Conflicts"), l.names())
	}
	for range l.Intn(30) {
		section, key, value := l.assignment()
		f, _ = Set(f, section, key, value)
	}
	return f
}

// P13.2: assignments drawn by lot, right ones and wrong ones, one behind the other.
func TestLot(t *testing.T) {
	p, l := newPlain(), newLot(1)
	told := map[api.Errno]int{}
	for range 3000 {
		f, err := New(l.name())
		if err != api.OK {
			t.Fatal(err)
		}
		if l.Intn(20) == 0 {
			f.Kind = uint8(l.Intn(6))
		}
		for range 20 {
			section, key, value := l.assignment()
			f, err = p.holds(t, f, section, key, value)
			told[err]++
		}
	}
	for _, err := range []api.Errno{api.OK, api.ErrKey, api.ErrValue, api.ErrLimit} {
		if told[err] < 100 {
			t.Errorf("%d was told but %d times", err, told[err])
		}
	}
}

// P13.2: each key again and again, up to its limit and past it.
func TestLotOfOneKey(t *testing.T) {
	p, l := newPlain(), newLot(2)
	for _, r := range table() {
		f, _ := New(l.of("a.service"))
		f.Kind = r.kind()
		for range 400 {
			f, _ = p.holds(t, f, r.section, r.key, l.value(r.sort))
		}
	}
}

// P13.1: names drawn by lot, and such as are nearly names.
func TestLotOfNames(t *testing.T) {
	p, l := newPlain(), newLot(3)
	none := 0
	for range 50000 {
		for _, name := range []string{l.name(), l.nearName(), l.nearName() + l.of(".service", ".timer", ".target", "")} {
			want := p.kind(name)
			wantErr := api.OK
			if want == 0 {
				wantErr = api.ErrName
				none++
			}
			if kind, err := Kind(name); kind != want || err != wantErr {
				t.Fatalf("Kind(%q): %d, %d, but should be %d, %d", name, kind, err, want, wantErr)
			}
			if f, err := New(name); f.Kind != want || err != wantErr {
				t.Fatalf("New(%q): %s, %d, but should be of kind %d, %d", name, short(f), err, want, wantErr)
			}
		}
	}
	if none < 10000 {
		t.Errorf("but %d names were none", none)
	}
}
