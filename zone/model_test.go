package zone

import (
	"math/rand"
	"slices"
	"strconv"
	"testing"
	"time"

	"clepsydra/api"
	"clepsydra/civil"
	"clepsydra/footer"
	"clepsydra/tzif"
)

// plain is a zone by the chapter's words; nil is UTC.
type plain struct {
	file tzif.Zone
	rule footer.Rule
}

// plainOf is a right file's zone.
func plainOf(f tzif.Zone) *plain {
	rule, _ := footer.Parse(f.Footer)
	return &plain{f, rule}
}

// offset goes through all times.
func (p *plain) offset(seconds int64) int {
	if p == nil {
		return 0
	}
	if seconds < -10000000000 {
		seconds = -10000000000
	}
	if seconds > 100000000000 {
		seconds = 100000000000
	}
	times := p.file.Times
	if p.file.Footer != "" && (len(times) == 0 || times[len(times)-1] <= seconds) {
		off, _ := footer.At(p.rule, seconds)
		return off
	}
	holds := -1
	for i, at := range times {
		if at <= seconds {
			holds = p.file.Index[i]
		}
	}
	for i, x := range p.file.Types {
		if holds < 0 && !x.Dst {
			holds = i
		}
	}
	return p.file.Types[max(holds, 0)].Off
}

// offsets are in a row that is put in order and thinned.
func (p *plain) offsets() []int {
	if p == nil {
		return []int{0}
	}
	var all []int
	for _, x := range p.file.Types {
		all = append(all, x.Off)
	}
	if p.file.Footer != "" {
		all = append(all, p.rule.Off)
		if p.rule.Dst != "" {
			all = append(all, p.rule.DstOff)
		}
	}
	slices.Sort(all)
	return slices.Compact(all)
}

// plainSecond is an instant's, by the library.
func plainSecond(usec int64) int64 { return time.UnixMicro(usec).Unix() }

// local is by the library's calendar; false: there is no such time.
func (p *plain) local(usec int64) (civil.Clock, bool) {
	at := time.UnixMicro(usec).UTC().Add(time.Duration(p.offset(plainSecond(usec))) * time.Second)
	if at.Year() < 1 || at.Year() > 9999 {
		return civil.Clock{}, false
	}
	return civil.Clock{
		Date:   civil.Date{Year: at.Year(), Month: int(at.Month()), Day: at.Day()},
		Hour:   at.Hour(),
		Minute: at.Minute(),
		Second: at.Second(),
		Usec:   at.Nanosecond() / 1000,
	}, true
}

// window is all offsets of a zone from a second on.
type window struct {
	first int64
	offs  []int
}

func (p *plain) window(first int64, long int) window {
	w := window{first: first}
	for i := range long {
		w.offs = append(w.offs, p.offset(first+int64(i)))
	}
	return w
}

// instants goes through all of the window.
func (w window) instants(local int64) []int64 {
	var found []int64
	second := plainSecond(local)
	for i, off := range w.offs {
		at := w.first + int64(i)
		if at+int64(off) == second {
			found = append(found, at*1000000+local-second*1000000)
		}
	}
	return found
}

// changes goes through all of the window.
func (w window) changes(from, to int64) []int64 {
	var found []int64
	for i := 1; i < len(w.offs); i++ {
		at := w.first + int64(i)
		if from < at && at <= to && w.offs[i] != w.offs[i-1] {
			found = append(found, at)
		}
	}
	return found
}

// lot draws files whose offsets and times lie close together, so that all of them can be gone through.
type lot struct{ *rand.Rand }

func newLot(seed int64) lot { return lot{rand.New(rand.NewSource(seed))} }

// farthest is how far the offsets that are drawn may be from UTC.
const farthest = 1999

func (l lot) off() int {
	if l.Intn(3) == 0 {
		return []int{0, 600, -600, farthest, -farthest}[l.Intn(5)]
	}
	return l.Intn(2*farthest+1) - farthest
}

func twoDigits(n int) string { return strconv.Itoa(n/10) + strconv.Itoa(n%10) }

// told is so many seconds in a footer.
func told(seconds int) string {
	if seconds < 0 {
		return "-" + told(-seconds)
	}
	return strconv.Itoa(seconds/3600) + ":" + twoDigits(seconds/60%60) + ":" + twoDigits(seconds%60)
}

// ahead is an offset in a footer: there is no -0.
func ahead(off int) string {
	if off == 0 {
		return "0"
	}
	return told(-off)
}

// footer is none, or a rule, whose summer may begin and end in the first hours of the 29th of March.
func (l lot) footer() string {
	switch l.Intn(5) {
	case 0:
		return ""
	case 1:
		return "AAA" + ahead(l.off())
	}
	days := []string{"J88", "M3.5.0"}
	start, end := days[l.Intn(2)], days[l.Intn(2)]
	if l.Intn(3) == 0 {
		end = "M10.5.0"
	}
	return "AAA" + ahead(l.off()) + "BBB" + ahead(l.off()) + "," + start + "/" + told(l.Intn(12000)) + "," + end + "/" + told(l.Intn(12000))
}

// base is 2026-03-29 00:00:00, a Sunday, and the 88th day of its year.
const base = 1774742400

// file has times about the base.
func (l lot) file() tzif.Zone {
	f := tzif.Zone{Footer: l.footer()}
	for range 1 + l.Intn(5) {
		f.Types = append(f.Types, tzif.Type{Off: l.off(), Dst: l.Intn(2) == 0, Abbr: "A"})
	}
	at := int64(base - 5000)
	for range l.Intn(10) {
		at += 1 + l.Int63n([]int64{2, 500, 4000}[l.Intn(3)])
		f.Times = append(f.Times, at)
		f.Index = append(f.Index, l.Intn(len(f.Types)))
	}
	return f
}

// made is the zone of a file that is right.
func made(t *testing.T, f tzif.Zone) *Zone {
	t.Helper()
	z, err := New(f)
	if err != api.OK || z == nil {
		t.Fatalf("New(%v): %v, %d", f, z, err)
	}
	return z
}

// P8.2 to P8.5, P8.7: zones drawn by lot against all of their offsets in some hours, second by second.
func TestByLot(t *testing.T) {
	const begin, long = base - 10000, 30000
	l := newLot(8)
	// thin are instants and times that are few: these have to be among what was drawn.
	thin := map[int]int{}
	for range 60 {
		f := l.file()
		z, p := made(t, f), plainOf(f)
		w := p.window(begin, long)
		for i, off := range w.offs {
			if got := z.Offset(begin + int64(i)); got != off {
				t.Fatalf("%v: Offset(%d): %d, not %d", f, begin+i, got, off)
			}
		}
		if got := z.Offsets(); !slices.Equal(got, p.offsets()) {
			t.Errorf("%v: Offsets: %v, not %v", f, got, p.offsets())
		}
		for range 50 {
			from, to := begin+l.Int63n(long), begin+l.Int63n(long)
			if got := z.Changes(from, to); !slices.Equal(got, w.changes(from, to)) {
				t.Errorf("%v: Changes(%d, %d): %v, not %v", f, from, to, got, w.changes(from, to))
			}
			usec := (begin+3000+l.Int63n(long-6000))*1000000 + l.Int63n(3)*499999
			thin[instantsAsModel(t, z, w, usec)]++
			localAsModel(t, z, p, usec)
		}
	}
	for n := range 4 {
		if thin[n] == 0 {
			t.Errorf("no time with %d instants was drawn", n)
		}
	}
}

// instantsAsModel fails unless a time has the window's instants; it answers how many.
func instantsAsModel(t *testing.T, z *Zone, w window, local int64) int {
	t.Helper()
	c, _ := civil.FromMicro(local)
	want := w.instants(local)
	got, err := z.Instants(c)
	if err != api.OK || !slices.Equal(got, want) {
		t.Errorf("%v: Instants(%v): %v, %d, not %v", z.Zone, c, got, err, want)
	}
	return len(got)
}

// localAsModel fails unless an instant has its time, and is one of that time's, of which no two have one offset.
func localAsModel(t *testing.T, z *Zone, p *plain, usec int64) {
	t.Helper()
	want, ok := p.local(usec)
	got, err := z.Local(usec)
	if got != want || (err == api.OK) != ok {
		t.Errorf("%v: Local(%d): %v, %d, not %v", p, usec, got, err, want)
	}
	if ok {
		oneOfItsTime(t, z, usec)
	}
}

// oneOfItsTime fails unless an instant is one of its local time's, and the offsets of these are unlike.
func oneOfItsTime(t *testing.T, z *Zone, usec int64) {
	t.Helper()
	c, err := z.Local(usec)
	if err != api.OK {
		t.Errorf("Local(%d): %d", usec, err)
	}
	list, err := z.Instants(c)
	if err != api.OK || !slices.Contains(list, usec) || !slices.IsSorted(list) {
		t.Errorf("Instants(%v): %v, %d: %d is not there", c, list, err, usec)
	}
	offs := map[int]bool{}
	for _, u := range list {
		offs[z.Offset(plainSecond(u))] = true
		if same, _ := z.Local(u); same != c {
			t.Errorf("Local(%d): %v, not %v", u, same, c)
		}
	}
	if len(offs) != len(list) {
		t.Errorf("instants %v of %v: only %d offsets", list, c, len(offs))
	}
}

// anyFile has times and offsets wherever they may be.
func (l lot) anyFile() tzif.Zone {
	f := tzif.Zone{}
	if l.Intn(2) == 0 {
		f.Footer = []string{"CET-1CEST,M3.5.0,M10.5.0/3", "EST5EDT,M3.2.0,M11.1.0", "<-03>3", "AAA-24:59:59BBB24:59:59,J1/-167:59:59,365/167:59:59"}[l.Intn(4)]
	}
	for range 1 + l.Intn(20) {
		f.Types = append(f.Types, tzif.Type{Off: l.Intn(89999+93599+1) - 89999, Dst: l.Intn(2) == 0, Abbr: "A"})
	}
	for range l.Intn(40) {
		f.Times = append(f.Times, l.Int63n(115000000000)-12000000000)
	}
	slices.Sort(f.Times)
	f.Times = slices.Compact(f.Times)
	for range f.Times {
		f.Index = append(f.Index, l.Intn(len(f.Types)))
	}
	return f
}

// P8.2, P8.3, P8.5, P8.7: zones drawn by lot, at instants all over, and about their times.
func TestAllOverByLot(t *testing.T) {
	l := newLot(88)
	for range 300 {
		f := l.anyFile()
		z, p := made(t, f), plainOf(f)
		if got := z.Offsets(); !slices.Equal(got, p.offsets()) {
			t.Errorf("%v: Offsets: %v, not %v", f, got, p.offsets())
		}
		var some []int64
		for range 30 {
			some = append(some, l.Int63n(110000000000)-10000000000)
		}
		for _, at := range f.Times {
			some = append(some, at-1, at, at+1)
		}
		for _, at := range some {
			if got := z.Offset(at); got != p.offset(at) {
				t.Errorf("%v: Offset(%d): %d, not %d", f, at, got, p.offset(at))
			}
			if at < -10000000000 || at >= 100000000000 {
				continue
			}
			localAsModel(t, z, p, at*1000000+l.Int63n(1000000))
			changes := z.Changes(at-1, at)
			if turns := at > -9999999999 && p.offset(at) != p.offset(at-1); slices.Equal(changes, []int64{at}) != turns || len(changes) > 1 {
				t.Errorf("%v: Changes(%d, %d): %v, not %v", f, at-1, at, changes, turns)
			}
		}
	}
}

// library reads the zone's file.
func library(t *testing.T, f tzif.Zone) *time.Location {
	t.Helper()
	b, _ := tzif.Put(f)
	loc, err := time.LoadLocationFromTZData("", b)
	if err != nil {
		t.Fatal(err)
	}
	return loc
}

// libraryZones are such as there are, or were: the library tells them as the chapter does.
func libraryZones() []tzif.Zone {
	europe := tzif.Zone{
		Types:  []tzif.Type{{Off: 1172, Abbr: "LMT"}, {Off: 1172, Abbr: "AMT"}, {Off: 4772, Dst: true, Abbr: "NST"}, {Off: 3600, Abbr: "CET"}, {Off: 7200, Dst: true, Abbr: "CEST"}},
		Times:  []int64{-4260212372, -1693700372, -1680484772, -935022000, 228877200, 243997200, 828234000, 846378000},
		Index:  []int{1, 2, 1, 3, 4, 3, 4, 3},
		Footer: "CET-1CEST,M3.5.0,M10.5.0/3",
	}
	samoa := tzif.Zone{
		Types:  []tzif.Type{{Off: 45184, Abbr: "LMT"}, {Off: -41216, Abbr: "LMT"}, {Off: -41400, Abbr: "-1130"}, {Off: -39600, Abbr: "-11"}, {Off: -36000, Dst: true, Abbr: "-10"}, {Off: 50400, Dst: true, Abbr: "+14"}, {Off: 46800, Abbr: "+13"}},
		Times:  []int64{-2445424384, -1861878784, -631110600, 1285498800, 1301752800, 1316872800, 1325239200, 1333202400},
		Index:  []int{1, 2, 3, 4, 3, 4, 5, 6},
		Footer: "<+13>-13",
	}
	bare := europe
	bare.Footer = ""
	half := tzif.Zone{
		Types:  []tzif.Type{{Off: 37800, Abbr: "+1030"}, {Off: 39600, Dst: true, Abbr: "+11"}},
		Times:  []int64{1207404000},
		Index:  []int{0},
		Footer: "<+1030>-10:30<+11>-11,M10.1.0,M4.1.0",
	}
	return []tzif.Zone{europe, samoa, bare, half}
}

// P8.2, P8.3, P8.4, P8.5: real zones, as the library tells the same files.
func TestAsTheLibrary(t *testing.T) {
	for _, f := range libraryZones() {
		z, loc := made(t, f), library(t, f)
		at := f.Times[0]
		for at < 2100000000 {
			_, end := time.Unix(at, 0).In(loc).ZoneBounds()
			if end.IsZero() {
				break
			}
			next := end.Unix()
			// The library lets a year's last bounds end with its 365th day, be there another one or not.
			if next <= at {
				next = at + 86400
			}
			_, before := time.Unix(next-1, 0).In(loc).Zone()
			_, behind := time.Unix(next, 0).In(loc).Zone()
			want := []int64{next}
			if before == behind {
				want = nil
			}
			if got := z.Changes(at, next); !slices.Equal(got, want) {
				t.Errorf("%s: Changes(%d, %d): %v, not %v", f.Footer, at, next, got, want)
			}
			for _, s := range []int64{at, (at + next) / 2, next - 3601, next - 1, next, next + 1, next + 3600} {
				asLibrary(t, z, loc, s)
			}
			at = next
		}
		for s := f.Times[0]; s < 4000000000; s += 8640000 / 7 {
			asLibrary(t, z, loc, s)
		}
	}
}

// asLibrary fails unless a second's time is as the library has it, and the instant that it picks of that time is there.
func asLibrary(t *testing.T, z *Zone, loc *time.Location, seconds int64) {
	t.Helper()
	at := time.Unix(seconds, 123456000).In(loc)
	if _, off := at.Zone(); z.Offset(seconds) != off {
		t.Errorf("Offset(%d): %d, not %d", seconds, z.Offset(seconds), off)
	}
	want := civil.Clock{Date: civil.Date{Year: at.Year(), Month: int(at.Month()), Day: at.Day()}, Hour: at.Hour(), Minute: at.Minute(), Second: at.Second(), Usec: 123456}
	if got, err := z.Local(seconds*1000000 + 123456); err != api.OK || got != want {
		t.Errorf("Local(%d): %v, %d, not %v", seconds, got, err, want)
	}
	picked := time.Date(at.Year(), at.Month(), at.Day(), at.Hour(), at.Minute(), at.Second(), at.Nanosecond(), loc)
	list, err := z.Instants(want)
	if err != api.OK || !slices.Contains(list, picked.UnixMicro()) || !slices.Contains(list, at.UnixMicro()) {
		t.Errorf("Instants(%v): %v, %d", want, list, err)
	}
}
