package zone

import (
	"bytes"
	"math"
	"slices"
	"strings"
	"testing"
	"unsafe"

	"clepsydra/api"
	"clepsydra/civil"
	"clepsydra/tzif"
)

// The bounds by the chapter: seconds, and the first and last microseconds of the years 1 and 9999.
const (
	lowest  = -10000000000
	highest = 100000000000

	firstMicro = -62135596800000000
	lastMicro  = 253402300799999999
)

const europeRule = "CET-1CEST,M3.5.0,M10.5.0/3"

// Instants, in seconds, at which clocks are put ahead and back by that rule.
const (
	spring2026 = 1774746000
	autumn2026 = 1792890000
)

// farWest and farEast are the offsets farthest from UTC that a type may have.
const (
	farWest = -89999
	farEast = 93599
)

func clock(year, month, day, hour, minute, second, usec int) civil.Clock {
	return civil.Clock{Date: civil.Date{Year: year, Month: month, Day: day}, Hour: hour, Minute: minute, Second: second, Usec: usec}
}

// only has one type, no times, and that footer.
func only(off int, footer string) tzif.Zone {
	return tzif.Zone{Types: []tzif.Type{{Off: off, Abbr: "A"}}, Footer: footer}
}

// put has, from time to time, one offset behind another.
func put(footer string, off int, turns ...int64) tzif.Zone {
	f := only(off, footer)
	for i := 0; i < len(turns); i += 2 {
		f.Types = append(f.Types, tzif.Type{Off: int(turns[i+1]), Abbr: "B"})
		f.Times = append(f.Times, turns[i])
		f.Index = append(f.Index, len(f.Types)-1)
	}
	return f
}

// some has three types, the middle one Dst, and three times.
func some(footer string) tzif.Zone {
	return tzif.Zone{
		Types:  []tzif.Type{{Off: 0, Abbr: "A"}, {Off: 5400, Dst: true, Abbr: "B"}, {Off: -3600, Abbr: "C"}},
		Times:  []int64{1000, 20000, 300000},
		Index:  []int{1, 2, 0},
		Footer: footer,
	}
}

// bytesOf is a right file's.
func bytesOf(t *testing.T, f tzif.Zone) []byte {
	t.Helper()
	b, err := tzif.Put(f)
	if err != api.OK {
		t.Fatalf("Put(%v): %d", f, err)
	}
	return b
}

// newIs fails unless New answers that error, and a zone just beside none.
func newIs(t *testing.T, f tzif.Zone, want api.Errno) {
	t.Helper()
	if z, err := New(f); err != want || (z != nil) != (want == api.OK) {
		t.Errorf("New(%v): %v, %d, not %d", f, z, err, want)
	}
}

// loadIs fails unless Load answers that error, and a zone just beside none.
func loadIs(t *testing.T, b []byte, want api.Errno) {
	t.Helper()
	if z, err := Load(b); err != want || (z != nil) != (want == api.OK) {
		t.Errorf("Load(%q): %v, %d, not %d", b, z, err, want)
	}
}

// offsetIs fails unless that is the offset at a second.
func offsetIs(t *testing.T, z *Zone, seconds int64, want int) {
	t.Helper()
	if got := z.Offset(seconds); got != want {
		t.Errorf("Offset(%d): %d, not %d", seconds, got, want)
	}
}

// localIs fails unless that is the local time of an instant; of no year there is none.
func localIs(t *testing.T, z *Zone, usec int64, want civil.Clock) {
	t.Helper()
	err := api.OK
	if want.Year == 0 {
		err = api.ErrRange
	}
	if got, e := z.Local(usec); got != want || e != err {
		t.Errorf("Local(%d): %v, %d, not %v", usec, got, e, want)
	}
}

// instantsAre fails unless these are the instants of a time.
func instantsAre(t *testing.T, z *Zone, c civil.Clock, want ...int64) {
	t.Helper()
	if got, err := z.Instants(c); err != api.OK || !slices.Equal(got, want) {
		t.Errorf("Instants(%v): %v, %d, not %v", c, got, err, want)
	}
}

// shownAt fails unless these are the instants of a time that is told in microseconds.
func shownAt(t *testing.T, z *Zone, local int64, want ...int64) {
	t.Helper()
	c, err := civil.FromMicro(local)
	if err != api.OK {
		t.Fatalf("FromMicro(%d): %d", local, err)
	}
	instantsAre(t, z, c, want...)
}

// changesAre fails unless these are the changes.
func changesAre(t *testing.T, z *Zone, from, to int64, want ...int64) {
	t.Helper()
	if got := z.Changes(from, to); !slices.Equal(got, want) {
		t.Errorf("Changes(%d, %d): %v, not %v", from, to, got, want)
	}
}

// offsetsAre fails unless these are the offsets.
func offsetsAre(t *testing.T, z *Zone, want ...int) {
	t.Helper()
	if got := z.Offsets(); !slices.Equal(got, want) {
		t.Errorf("Offsets: %v, not %v", got, want)
	}
}

// P8.1: files that are not right are told ahead of footers that are no rule's.
func TestNewOfNoFile(t *testing.T) {
	for i, spoil := range []func(f *tzif.Zone){
		func(f *tzif.Zone) { *f = tzif.Zone{} },
		func(f *tzif.Zone) { f.Types = nil },
		func(f *tzif.Zone) { f.Types = make([]tzif.Type, 256) },
		func(f *tzif.Zone) { f.Types[2].Off = farEast + 1 },
		func(f *tzif.Zone) { f.Types[2].Off = farWest - 1 },
		func(f *tzif.Zone) { f.Types[0].Off = math.MaxInt },
		func(f *tzif.Zone) { f.Types[0].Abbr = "" },
		func(f *tzif.Zone) { f.Types[1].Abbr = "ABCDEFGHIJKLMNOP" },
		func(f *tzif.Zone) { f.Types[1].Abbr = "A B" },
		func(f *tzif.Zone) { f.Times = nil },
		func(f *tzif.Zone) { f.Index = nil },
		func(f *tzif.Zone) { f.Index = append(f.Index, 0) },
		func(f *tzif.Zone) { f.Times[1] = f.Times[0] },
		func(f *tzif.Zone) { f.Times[2] = math.MinInt64 },
		func(f *tzif.Zone) { f.Index[1] = 3 },
		func(f *tzif.Zone) { f.Index[1] = -1 },
		func(f *tzif.Zone) { f.Footer = strings.Repeat("A", 101) },
		func(f *tzif.Zone) { f.Footer = "\n" },
		func(f *tzif.Zone) { f.Footer = "CET\x7f" },
	} {
		for _, footer := range []string{europeRule, "", "CET"} {
			f := some(footer)
			spoil(&f)
			if tzif.Right(f) {
				t.Errorf("%d: %v is right", i, f)
			}
			newIs(t, f, api.ErrArg)
		}
	}
}

// P8.1: a footer is empty, or a rule.
func TestFooters(t *testing.T) {
	for footer, want := range map[string]api.Errno{
		"": api.OK, "UTC0": api.OK, "CET-1": api.OK, "<-03>3": api.OK, europeRule: api.OK,
		"AAA0BBB,0,J365": api.OK, "CET-01:00": api.OK,
		" ": api.ErrFooter, "CET": api.ErrFooter, "EST5EDT": api.ErrFooter, europeRule + " ": api.ErrFooter,
		" UTC0": api.ErrFooter, "CET-1CEST,M3.5.0": api.ErrFooter, "CET-25": api.ErrFooter, "0": api.ErrFooter,
		strings.Repeat("A", 100): api.ErrFooter,
	} {
		newIs(t, some(footer), want)
		newIs(t, only(0, footer), want)
		loadIs(t, bytesOf(t, some(footer)), want)
	}
}

// P8.1: Load of what is no file, of one cut short, and of one with more behind it.
func TestLoadOfNoFile(t *testing.T) {
	for _, b := range [][]byte{nil, {}, {0}, []byte("TZif"), []byte("TZif2"), []byte("CET-1"), make([]byte, 44), bytes.Repeat([]byte{255}, 300)} {
		loadIs(t, b, api.ErrTzif)
	}
	for _, footer := range []string{"", europeRule, "CET"} {
		b := bytesOf(t, some(footer))
		for n := range len(b) {
			loadIs(t, b[:n], api.ErrTzif)
		}
		loadIs(t, append(b, '\n'), api.ErrTzif)
	}
}

// P8.1: Load tells a file as New does, whatever byte of it is another one.
func TestLoadIsAsNew(t *testing.T) {
	b := bytesOf(t, some(europeRule))
	told := map[api.Errno]int{}
	for i := range b {
		for _, x := range []byte{b[i] ^ 1, b[i] ^ 128, 0, 255, 'A', '\n'} {
			spoilt := slices.Clone(b)
			spoilt[i] = x
			f, err := tzif.Parse(spoilt)
			if err == api.OK {
				_, err = New(f)
			}
			loadIs(t, spoilt, err)
			told[err]++
		}
	}
	if told[api.OK] == 0 || told[api.ErrTzif] == 0 || told[api.ErrFooter] == 0 {
		t.Errorf("errors: %v", told)
	}
}

// P8.1: New and Load make zones of the same answers.
func TestNewAndLoad(t *testing.T) {
	for _, f := range append(libraryZones(), some(""), some(europeRule), only(-1, "UTC0")) {
		z := made(t, f)
		loaded, err := Load(bytesOf(t, f))
		if err != api.OK {
			t.Fatalf("Load: %d", err)
		}
		if !tzif.Same(z.Zone, f) || !tzif.Same(loaded.Zone, f) {
			t.Errorf("%v: %v and %v", f, z.Zone, loaded.Zone)
		}
		if a, b := z.Changes(lowest, highest), loaded.Changes(lowest, highest); !slices.Equal(a, b) {
			t.Errorf("%v: changes %v and %v", f, a, b)
		}
		offsetsAre(t, loaded, z.Offsets()...)
		for _, at := range append(f.Times, 0, spring2026, autumn2026, lowest, highest) {
			offsetIs(t, loaded, at, z.Offset(at))
		}
	}
}

// P8.1, P8.2: a file of version 0 has no rule.
func TestLoadOfOneBlock(t *testing.T) {
	b := []byte("TZif\x00" + strings.Repeat("\x00", 15) +
		"\x00\x00\x00\x00\x00\x00\x00\x00\x00\x00\x00\x00\x00\x00\x00\x01\x00\x00\x00\x02\x00\x00\x00\x04" +
		"\x00\x00\x00\x64\x01" + "\x00\x00\x0e\x10\x00\x00" + "\xff\xff\xf1\xf0\x00\x02" + "A\x00B\x00")
	z, err := Load(b)
	if err != api.OK {
		t.Fatalf("Load: %d", err)
	}
	offsetIs(t, z, 99, 3600)
	offsetIs(t, z, 100, -3600)
	offsetIs(t, z, spring2026, -3600)
	offsetsAre(t, z, -3600, 3600)
}

// P8.1 to P8.5: nil is UTC, and so is what New has not made.
func TestUTC(t *testing.T) {
	for _, z := range []*Zone{nil, {}, new(Zone)} {
		for _, at := range []int64{math.MinInt64, lowest - 1, lowest, -1, 0, 1, spring2026, highest, highest + 1, math.MaxInt64} {
			offsetIs(t, z, at, 0)
			changesAre(t, z, at-1, at)
		}
		changesAre(t, z, math.MinInt64, math.MaxInt64)
		offsetsAre(t, z, 0)
		localIs(t, z, 0, clock(1970, 1, 1, 0, 0, 0, 0))
		localIs(t, z, -1, clock(1969, 12, 31, 23, 59, 59, 999999))
		localIs(t, z, 86399000001, clock(1970, 1, 1, 23, 59, 59, 1))
		localIs(t, z, firstMicro, clock(1, 1, 1, 0, 0, 0, 0))
		localIs(t, z, lastMicro, clock(9999, 12, 31, 23, 59, 59, 999999))
		for _, usec := range []int64{math.MinInt64, firstMicro - 1, lastMicro + 1, math.MaxInt64} {
			localIs(t, z, usec, civil.Clock{})
		}
		instantsAre(t, z, clock(1970, 1, 1, 0, 0, 0, 0), 0)
		instantsAre(t, z, clock(2026, 3, 29, 2, 30, 0, 7), 1774751400000007)
		instantsAre(t, z, clock(1, 1, 1, 0, 0, 0, 0))
		instantsAre(t, z, clock(9999, 12, 31, 23, 59, 59, 999999))
		shownAt(t, z, lowest*1000000, lowest*1000000)
		shownAt(t, z, lowest*1000000-1)
		shownAt(t, z, highest*1000000, highest*1000000)
		shownAt(t, z, highest*1000000+1)
		if list, err := z.Instants(clock(2026, 2, 29, 0, 0, 0, 0)); err != api.ErrDate || len(list) != 0 {
			t.Errorf("Instants: %v, %d", list, err)
		}
	}
}

// P8.2: one second below each time of a file, at it, and above it.
func TestOffsetAtTimes(t *testing.T) {
	for _, x := range []struct {
		footer       string
		last, behind int
	}{
		{"", 0, 0}, {"CET-1", 3600, 3600}, {"<-02>2", -7200, -7200},
		// The rule's summer has just been, or is just on.
		{europeRule, 3600, 7200}, {"AAA0BBB-1,J1/0,J4/12:20", 0, 0}, {"AAA0BBB-1,J1/0,J4/12:20:01", 3600, 0},
	} {
		z := made(t, some(x.footer))
		for at, want := range map[int64]int{
			math.MinInt64: 0, lowest: 0, 0: 0, 998: 0, 999: 0,
			1000: 5400, 1001: 5400, 19999: 5400,
			20000: -3600, 20001: -3600, 299998: -3600, 299999: -3600,
			300000: x.last,
		} {
			offsetIs(t, z, at, want)
		}
		offsetIs(t, z, spring2026, x.behind)
	}
}

// P8.2: without times a rule holds always; without a rule the first type that is not Dst, else the first one.
func TestOffsetWithoutTimes(t *testing.T) {
	everywhere := []int64{math.MinInt64, lowest - 1, lowest, -1, 0, 1, spring2026, highest, highest + 1, math.MaxInt64}
	types := func(dst ...bool) tzif.Zone {
		var f tzif.Zone
		for i, d := range dst {
			f.Types = append(f.Types, tzif.Type{Off: 100 + i, Dst: d, Abbr: "A"})
		}
		return f
	}
	for _, x := range []struct {
		f    tzif.Zone
		want int
	}{
		{types(false, false), 100}, {types(true, false, false), 101}, {types(true, true), 100},
		{only(farEast, ""), farEast}, {only(farWest, ""), farWest},
		{only(7, "UTC0"), 0}, {only(7, "<-03>3"), -10800}, {only(7, "AAA24:59:59"), farWest}, {only(7, "AAA-24:59:59"), 89999},
	} {
		z := made(t, x.f)
		for _, at := range everywhere {
			offsetIs(t, z, at, x.want)
		}
	}
	z := made(t, only(7, europeRule))
	for at, want := range map[int64]int{spring2026 - 1: 3600, spring2026: 7200, autumn2026 - 1: 7200, autumn2026: 3600, 0: 3600, -250000000: 3600, -270000000: 7200} {
		offsetIs(t, z, at, want)
	}
}

// P8.2: ahead of the first time the first type holds that is not Dst, whatever the rule.
func TestOffsetAheadOfTimes(t *testing.T) {
	f := some(europeRule)
	f.Types[0].Dst = true
	z := made(t, f)
	offsetIs(t, z, 999, -3600)
	offsetIs(t, z, lowest, -3600)
	f.Types[2].Dst = true
	z = made(t, f)
	offsetIs(t, z, 999, 0)
	offsetIs(t, z, 1000, 5400)
}

// P8.2: seconds beyond the bounds are taken for these, with times there and beyond them.
func TestOffsetBounds(t *testing.T) {
	for _, x := range []struct {
		time  int64
		begun []int64
		not   []int64
	}{
		{math.MinInt64, []int64{math.MinInt64, lowest, 0, math.MaxInt64}, nil},
		{lowest - 1, []int64{math.MinInt64, lowest - 2, lowest - 1, lowest, 0}, nil},
		{lowest, []int64{math.MinInt64, lowest - 1, lowest, lowest + 1, math.MaxInt64}, nil},
		{lowest + 1, []int64{lowest + 1, 0, math.MaxInt64}, []int64{math.MinInt64, lowest - 1, lowest}},
		{highest - 1, []int64{highest - 1, highest, highest + 1, math.MaxInt64}, []int64{math.MinInt64, 0, highest - 2}},
		{highest, []int64{highest, highest + 1, math.MaxInt64}, []int64{math.MinInt64, 0, highest - 1}},
		{highest + 1, nil, []int64{math.MinInt64, 0, highest, highest + 1, highest + 2, math.MaxInt64}},
		{math.MaxInt64, nil, []int64{math.MinInt64, 0, highest, math.MaxInt64}},
	} {
		byTimes, byRule := made(t, put("", 10, x.time, 20)), made(t, put("AAA-0:00:30", 10, x.time, 20))
		for _, at := range x.begun {
			offsetIs(t, byTimes, at, 20)
			offsetIs(t, byRule, at, 30)
		}
		for _, at := range x.not {
			offsetIs(t, byTimes, at, 10)
			offsetIs(t, byRule, at, 10)
		}
	}
}

// The bounds are 1653-02-10 06:13:20 and 5138-11-16 09:46:40, days 41 and 320 of their years.
const (
	beginsAtLowest   = "AAA0BBB-2,J41/6:13:20,J200"
	beginsBelow      = "AAA0BBB-2,J41/6:13:21,J200"
	beginsAtHighest  = "AAA0BBB-2,J320/9:46:40,J200"
	beginsOneBehind  = "AAA0BBB-2,J320/9:46:41,J200"
	beginsOneAbove   = "AAA0BBB-2,J41/6:13:22,J200"
	beginsAheadOfEnd = "AAA0BBB-2,J320/9:46:39,J200"
)

// P8.2: a rule's turns at the bounds.
func TestOffsetOfRuleAtBounds(t *testing.T) {
	for _, x := range []struct {
		rule string
		at   int64
		want int
	}{
		{beginsAtLowest, lowest, 7200}, {beginsAtLowest, lowest - 1, 7200}, {beginsAtLowest, math.MinInt64, 7200},
		{beginsBelow, lowest, 0}, {beginsBelow, lowest + 1, 7200}, {beginsBelow, math.MinInt64, 0},
		{beginsAtHighest, highest - 1, 0}, {beginsAtHighest, highest, 7200}, {beginsAtHighest, math.MaxInt64, 7200},
		{beginsOneBehind, highest, 0}, {beginsOneBehind, highest + 1, 0}, {beginsOneBehind, math.MaxInt64, 0},
	} {
		offsetIs(t, made(t, only(7, x.rule)), x.at, x.want)
	}
}

// P8.3: microseconds that are no whole seconds, and the instants about changes, above 0 and below.
func TestLocalAtChanges(t *testing.T) {
	for _, turn := range []int64{-1000, -1, 0, 1, 1000} {
		z := made(t, put("", 3600, turn, -1800))
		for usec := turn*1000000 - 1000001; usec < turn*1000000; usec += 499999 {
			want, _ := civil.FromMicro(usec + 3600000000)
			localIs(t, z, usec, want)
		}
		for usec := turn * 1000000; usec < turn*1000000+2000002; usec += 499999 {
			want, _ := civil.FromMicro(usec - 1800000000)
			localIs(t, z, usec, want)
		}
		want, _ := civil.FromMicro(turn*1000000 + 3599999999)
		localIs(t, z, turn*1000000-1, want)
	}
	z := made(t, put("", 0, -1000, 7200))
	localIs(t, z, -1000000001, clock(1969, 12, 31, 23, 43, 19, 999999))
	localIs(t, z, -1000000000, clock(1970, 1, 1, 1, 43, 20, 0))
	localIs(t, z, -999999999, clock(1970, 1, 1, 1, 43, 20, 1))
}

// P8.3: local times by the rule.
func TestLocalByRule(t *testing.T) {
	z := made(t, only(7, europeRule))
	localIs(t, z, spring2026*1000000-1, clock(2026, 3, 29, 1, 59, 59, 999999))
	localIs(t, z, spring2026*1000000, clock(2026, 3, 29, 3, 0, 0, 0))
	localIs(t, z, autumn2026*1000000-1, clock(2026, 10, 25, 2, 59, 59, 999999))
	localIs(t, z, autumn2026*1000000, clock(2026, 10, 25, 2, 0, 0, 0))
	// What holds beyond the bounds is what holds there.
	localIs(t, z, 253370764800000000, clock(9999, 1, 1, 1, 0, 0, 0))
	localIs(t, z, 253386489600000000, clock(9999, 7, 2, 1, 0, 0, 0))
	localIs(t, z, -62119872000000000, clock(1, 7, 2, 1, 0, 0, 0))
}

// P8.3: the first and the last local time, and those that there are not.
func TestLocalBounds(t *testing.T) {
	for _, off := range []int{farWest, -3600, -1, 0, 1, 3600, farEast} {
		z := made(t, only(off, ""))
		behind := int64(off) * 1000000
		localIs(t, z, firstMicro-behind, clock(1, 1, 1, 0, 0, 0, 0))
		localIs(t, z, firstMicro-behind-1, civil.Clock{})
		localIs(t, z, lastMicro-behind, clock(9999, 12, 31, 23, 59, 59, 999999))
		localIs(t, z, lastMicro-behind+1, civil.Clock{})
		for n := range int64(3) {
			localIs(t, z, math.MinInt64+n*behind, civil.Clock{})
			localIs(t, z, math.MaxInt64-n*behind, civil.Clock{})
		}
	}
}

// P8.4: times that are none, by each field, in zones of any kind.
func TestInstantsOfNoTime(t *testing.T) {
	z := made(t, some(europeRule))
	for _, c := range []civil.Clock{
		{}, clock(0, 1, 1, 0, 0, 0, 0), clock(10000, 1, 1, 0, 0, 0, 0), clock(-1, 1, 1, 0, 0, 0, 0),
		clock(2026, 0, 1, 0, 0, 0, 0), clock(2026, 13, 1, 0, 0, 0, 0), clock(2026, -1, 1, 0, 0, 0, 0),
		clock(2026, 1, 0, 0, 0, 0, 0), clock(2026, 1, 32, 0, 0, 0, 0), clock(2026, 4, 31, 0, 0, 0, 0),
		clock(2026, 2, 29, 0, 0, 0, 0), clock(1900, 2, 29, 0, 0, 0, 0), clock(2024, 2, 30, 0, 0, 0, 0),
		clock(2026, 1, 1, -1, 0, 0, 0), clock(2026, 1, 1, 24, 0, 0, 0),
		clock(2026, 1, 1, 0, -1, 0, 0), clock(2026, 1, 1, 0, 60, 0, 0),
		clock(2026, 1, 1, 0, 0, -1, 0), clock(2026, 1, 1, 0, 0, 60, 0),
		clock(2026, 1, 1, 0, 0, 0, -1), clock(2026, 1, 1, 0, 0, 0, 1000000),
		clock(math.MaxInt, 1, 1, 0, 0, 0, 0), clock(2026, math.MinInt, 1, 0, 0, 0, 0), clock(2026, 1, math.MaxInt, 0, 0, 0, 0),
		clock(2026, 1, 1, math.MaxInt, 0, 0, 0), clock(2026, 1, 1, 0, math.MinInt, 0, 0),
		clock(2026, 1, 1, 0, 0, math.MaxInt, 0), clock(2026, 1, 1, 0, 0, 0, math.MinInt),
	} {
		for _, x := range []*Zone{z, nil, {}} {
			if list, err := x.Instants(c); err != api.ErrDate || len(list) != 0 {
				t.Errorf("Instants(%v): %v, %d", c, list, err)
			}
		}
	}
	for c, want := range map[civil.Clock]int64{
		clock(2026, 1, 1, 0, 0, 0, 0):           1767222000000000,
		clock(2026, 12, 31, 23, 59, 59, 999999): 1798757999999999,
		clock(2024, 2, 29, 0, 0, 0, 0):          1709161200000000,
	} {
		instantsAre(t, z, c, want)
	}
}

// P8.4, P8.7: folds and gaps, a microsecond below their bounds, and at them.
func TestFoldsAndGaps(t *testing.T) {
	for _, turn := range []int64{-500000, -1, 0, 1, 500000, spring2026} {
		for _, offs := range [][2]int{{3600, 0}, {1, 0}, {farEast, farWest}, {-100, -5000}} {
			west, east := int64(offs[1])*1000000, int64(offs[0])*1000000
			at := turn * 1000000
			z := made(t, put("", offs[0], turn, int64(offs[1])))
			// Clocks are put back: what is from the lower bound to the upper one comes twice.
			shownAt(t, z, at+west-1, at+west-1-east)
			shownAt(t, z, at+west, at+west-east, at)
			shownAt(t, z, at+west+1, at+west+1-east, at+1)
			shownAt(t, z, at+east-1, at-1, at+east-1-west)
			shownAt(t, z, at+east, at+east-west)
			z = made(t, put("", offs[1], turn, int64(offs[0])))
			// Clocks are put ahead: it does not come.
			shownAt(t, z, at+west-1, at-1)
			shownAt(t, z, at+west)
			shownAt(t, z, at+west+1)
			shownAt(t, z, at+east-1)
			shownAt(t, z, at+east, at)
			shownAt(t, z, at+east+1, at+1)
		}
	}
}

// P8.4, P8.7: times that come once, not at all, and twice, by a rule.
func TestInstantsByRule(t *testing.T) {
	z := made(t, only(3600, europeRule))
	instantsAre(t, z, clock(2026, 3, 29, 1, 59, 59, 999999), spring2026*1000000-1)
	instantsAre(t, z, clock(2026, 3, 29, 2, 0, 0, 0))
	instantsAre(t, z, clock(2026, 3, 29, 2, 59, 59, 999999))
	instantsAre(t, z, clock(2026, 3, 29, 3, 0, 0, 0), spring2026*1000000)
	instantsAre(t, z, clock(2026, 7, 1, 12, 0, 0, 1), 1782900000000001)
	instantsAre(t, z, clock(2026, 10, 25, 1, 59, 59, 999999), (autumn2026-3600)*1000000-1)
	instantsAre(t, z, clock(2026, 10, 25, 2, 0, 0, 0), (autumn2026-3600)*1000000, autumn2026*1000000)
	instantsAre(t, z, clock(2026, 10, 25, 2, 59, 59, 999999), autumn2026*1000000-1, (autumn2026+3600)*1000000-1)
	instantsAre(t, z, clock(2026, 10, 25, 3, 0, 0, 0), (autumn2026+3600)*1000000)
}

// P8.4, P8.7: a time that comes as often as there are offsets.
func TestInstantsManyTimes(t *testing.T) {
	for many := 2; many <= 120; many++ {
		// Each type is ten seconds behind the one ahead of it, and begins ten seconds later.
		var f tzif.Zone
		var want []int64
		for i := range many {
			f.Types = append(f.Types, tzif.Type{Off: -10 * i, Abbr: "A"})
			want = append(want, int64(10*i+3)*1000000+5)
			if i > 0 {
				f.Times = append(f.Times, int64(10*i))
				f.Index = append(f.Index, i)
			}
		}
		z := made(t, f)
		instantsAre(t, z, clock(1970, 1, 1, 0, 0, 3, 5), want...)
		instantsAre(t, z, clock(1970, 1, 1, 0, 0, 0, 0), instantsFrom(want, -3000005)...)
		instantsAre(t, z, clock(1970, 1, 1, 0, 0, 9, 999999), instantsFrom(want, 6999994)...)
		instantsAre(t, z, clock(1970, 1, 1, 0, 0, 10, 0), int64(10*many)*1000000)
		for _, u := range want {
			oneOfItsTime(t, z, u)
		}
	}
}

// instantsFrom is the same, later by so many microseconds.
func instantsFrom(list []int64, later int64) []int64 {
	moved := slices.Clone(list)
	for i := range moved {
		moved[i] += later
	}
	return moved
}

// P8.4: types that share an offset give an instant once.
func TestInstantsOfSharedOffsets(t *testing.T) {
	z := made(t, put("<+01>-1", 3600, 1000, 3600, 2000, 3600, 3000, 0))
	for _, at := range []int64{0, 999, 1000, 1500, 2000, 2999, 3000, 4000} {
		oneOfItsTime(t, z, at*1000000)
		shownAt(t, z, (at+3600)*1000000, at*1000000)
	}
}

// P8.4: about the last time, where the rule begins in place of its type.
func TestInstantsAtLastTime(t *testing.T) {
	const last = 1000000
	for _, x := range []struct {
		footer string
		off    int64
	}{{"", 1800}, {"<+01>-1", 3600}, {"<-01>1", -3600}, {"AAA0BBB,0/0,J100", 3600}} {
		// The time's own type is half an hour ahead: without a rule alone it holds.
		z := made(t, put(x.footer, 0, last, 1800))
		offsetIs(t, z, last-1, 0)
		offsetIs(t, z, last, int(x.off))
		if x.off > 0 {
			shownAt(t, z, last*1000000-1, last*1000000-1)
			shownAt(t, z, last*1000000)
			shownAt(t, z, (last+x.off)*1000000-1)
		} else {
			shownAt(t, z, last*1000000-1, last*1000000-1, last*1000000-1+3600000000)
			shownAt(t, z, (last+x.off)*1000000, (last+x.off)*1000000, last*1000000)
			shownAt(t, z, (last+x.off)*1000000-1, (last+x.off)*1000000-1)
		}
		shownAt(t, z, (last+4000+x.off)*1000000, (last+4000)*1000000)
	}
}

// P8.4: the first and the last instant that there is, and one beyond each.
func TestInstantsBounds(t *testing.T) {
	for _, off := range []int{farWest, -1, 0, 1, farEast} {
		z := made(t, only(off, ""))
		ahead := int64(off) * 1000000
		shownAt(t, z, lowest*1000000+ahead, lowest*1000000)
		shownAt(t, z, lowest*1000000+ahead+1, lowest*1000000+1)
		shownAt(t, z, lowest*1000000+ahead-1)
		shownAt(t, z, lowest*1000000+ahead-1000000)
		shownAt(t, z, highest*1000000+ahead, highest*1000000)
		shownAt(t, z, highest*1000000+ahead-1, highest*1000000-1)
		shownAt(t, z, highest*1000000+ahead+1)
		shownAt(t, z, highest*1000000+ahead+1000000)
		instantsAre(t, z, clock(1, 1, 1, 0, 0, 0, 0))
		instantsAre(t, z, clock(9999, 12, 31, 23, 59, 59, 999999))
		oneOfItsTime(t, z, lowest*1000000)
		oneOfItsTime(t, z, highest*1000000)
	}
	// Of two instants one is beyond.
	z := made(t, put("", 3600, lowest+1800, 0))
	shownAt(t, z, (lowest+1800)*1000000, (lowest+1800)*1000000)
	shownAt(t, z, (lowest+3600)*1000000, lowest*1000000, (lowest+3600)*1000000)
	z = made(t, put("", 3600, highest-1800, 0))
	shownAt(t, z, (highest+1)*1000000, (highest-3599)*1000000)
	shownAt(t, z, highest*1000000, (highest-3600)*1000000, highest*1000000)
}

// P8.5: offsets, of types that share one, and of a rule.
func TestOffsets(t *testing.T) {
	for _, x := range []struct {
		f    tzif.Zone
		want []int
	}{
		{only(0, ""), []int{0}}, {only(-7, ""), []int{-7}}, {only(farEast, ""), []int{farEast}},
		{some(""), []int{-3600, 0, 5400}}, {some("UTC0"), []int{-3600, 0, 5400}}, {some("<+01>-1"), []int{-3600, 0, 3600, 5400}},
		{some(europeRule), []int{-3600, 0, 3600, 5400, 7200}}, {some("AAA1BBB0,0,1"), []int{-3600, 0, 5400}},
		{some("AAA0BBB-1:30,0,1"), []int{-3600, 0, 5400}}, {some("AAA-1BBB-1,0,1"), []int{-3600, 0, 3600, 5400}},
		{some("AAA24:59:59BBB-24:59:59,0,1"), []int{farWest, -3600, 0, 5400, 89999}},
		{put("", 5, 1, 3, 2, 5, 3, 3, 4, -5, 5, -5), []int{-5, 3, 5}},
		// A type that never holds, and a rule that never begins, have theirs too.
		{tzif.Zone{Types: []tzif.Type{{Off: 9, Abbr: "A"}, {Off: 4, Abbr: "B"}, {Off: 6, Dst: true, Abbr: "C"}}}, []int{4, 6, 9}},
		{put("<+01>-1", 5, math.MaxInt64, 7), []int{5, 7, 3600}},
	} {
		offsetsAre(t, made(t, x.f), x.want...)
	}
	var f tzif.Zone
	var want []int
	for i := range 128 {
		f.Types = append(f.Types, tzif.Type{Off: (i*37%128 - 64) * 60, Abbr: "A"})
		want = append(want, (i-64)*60)
	}
	offsetsAre(t, made(t, f), want...)
}

// P8.5: changes by times, above from and up to to.
func TestChangesByTimes(t *testing.T) {
	z := made(t, some(""))
	for _, x := range []struct {
		from, to int64
		want     []int64
	}{
		{math.MinInt64, math.MaxInt64, []int64{1000, 20000, 300000}}, {999, 300000, []int64{1000, 20000, 300000}},
		{1000, 300000, []int64{20000, 300000}}, {1001, 300000, []int64{20000, 300000}}, {999, 299999, []int64{1000, 20000}},
		{999, 1000, []int64{1000}}, {998, 999, nil}, {1000, 1001, nil}, {1000, 1000, nil}, {999, 999, nil},
		{1000, 999, nil}, {300000, 999, nil}, {math.MaxInt64, math.MinInt64, nil}, {300000, math.MaxInt64, nil}, {math.MinInt64, 999, nil},
		{20000, 20000, nil}, {19999, 20000, []int64{20000}}, {19999, 20001, []int64{20000}},
	} {
		changesAre(t, z, x.from, x.to, x.want...)
	}
	// At 2000 and at 5000 there is another type, but no other offset.
	z = made(t, put("", 0, 1000, 60, 2000, 60, 3000, 0, 4000, 60, 5000, 60))
	changesAre(t, z, 0, 10000, 1000, 3000, 4000)
	changesAre(t, z, 1999, 2000)
	z = made(t, put("", 60, 1000, 60))
	changesAre(t, z, math.MinInt64, math.MaxInt64)
	// Times second by second.
	z = made(t, put("", 0, -1, 1, 0, 2, 1, 1))
	changesAre(t, z, -5, 5, -1, 0, 1)
	changesAre(t, made(t, only(farEast, "")), math.MinInt64, math.MaxInt64)
	// Ahead of the first time a type holds that is not the first one.
	f := some("")
	f.Types[0].Dst, f.Types[2].Off = true, 5400
	changesAre(t, made(t, f), 0, 400000, 300000)
}

// P8.5: over the last time, and the rule behind it.
func TestChangesByRule(t *testing.T) {
	z := made(t, only(7, europeRule))
	changesAre(t, z, spring2026-1, autumn2026, spring2026, autumn2026)
	changesAre(t, z, spring2026, autumn2026-1)
	changesAre(t, z, spring2026, autumn2026, autumn2026)
	changesAre(t, z, spring2026-2, spring2026-1)
	changesAre(t, z, 1767225600, 1830297600, spring2026, autumn2026, 1806195600, 1824944400)
	for _, x := range []struct {
		last int64
		want []int64
	}{
		{spring2026 - 10, []int64{spring2026 - 10, spring2026, autumn2026}},
		// The time's own type does not hold any more.
		{spring2026 - 1, []int64{spring2026 - 1, spring2026, autumn2026}},
		// The rule begins just where it turns.
		{spring2026, []int64{spring2026, autumn2026}},
		{spring2026 + 1, []int64{spring2026 + 1, autumn2026}},
		{autumn2026 - 1, []int64{autumn2026 - 1, autumn2026}},
		{autumn2026, []int64{autumn2026}},
		{autumn2026 + 1, []int64{autumn2026 + 1}},
	} {
		z := made(t, put(europeRule, -3600, x.last, -7200))
		changesAre(t, z, spring2026-1000, autumn2026+1000, x.want...)
		z = made(t, put("CET-1", -3600, x.last, -3600))
		changesAre(t, z, spring2026-1000, autumn2026+1000, x.last)
		z = made(t, put("<-01>1", -3600, x.last, 3600))
		changesAre(t, z, spring2026-1000, autumn2026+1000)
	}
	// A rule whose time is beyond never begins.
	changesAre(t, made(t, put(europeRule, 0, highest+1, 0)), math.MinInt64, math.MaxInt64)
}

// P8.5: rules that turn twice at once, or into the same offset, and by whose days a turn is in another year.
func TestChangesByStrangeRules(t *testing.T) {
	const year2026, year2027 = 1767225600, 1798761600
	for _, x := range []struct {
		rule     string
		from, to int64
		want     []int64
	}{
		{"AAA0BBB0,J88,J200", lowest, highest, nil},
		// Summer begins and ends at one instant: it is never there.
		{"AAA0BBB-1,J88/2,J88/3", lowest, highest, nil},
		{"AAA0BBB-1,J88/2,J88/3:00:01", year2026, year2027, []int64{base + 7200, base + 7201}},
		// The summer of 2025 ends where that of 2026 begins: of both the end counts.
		{"AAA0BBB-1,0/0,365/1", year2026 - 1, year2027, []int64{year2026}},
		{"AAA0BBB-1,J1/-1,J100/0", year2026 - 3601, year2026 - 1, []int64{year2026 - 3600}},
		{"AAA0BBB-1,J1/-1,J100/0", year2026 - 3601, year2026 - 3600, []int64{year2026 - 3600}},
		{"AAA0BBB-1,J1/-1,J100/0", year2026 - 3601, year2026, []int64{year2026 - 3600}},
		{"AAA0BBB-1,J1/-167:59:59,J100/0", year2026 - 604799 - 1, year2026 - 604799, []int64{year2026 - 604799}},
		{"AAA-24:59:59BBB0,J1/-167:59:59,J100/0", year2026 - 604799 - 89999 - 1, year2026 - 604799 - 89999, []int64{year2026 - 604799 - 89999}},
		{"AAA0BBB-24:59:59,J100,J1/-167:59:59", year2026 - 604799 - 89999 - 1, year2026 - 604799 - 89999, []int64{year2026 - 604799 - 89999}},
		{"AAA0BBB24:59:59,J100,365/167:59:59", year2027, year2027 + 604799 + 89999, []int64{year2027 + 604799 + 89999}},
		{"AAA0BBB24:59:59,J100,365/167:59:59", year2027 + 604799 + 89999, year2027 + 7000000, nil},
	} {
		changesAre(t, made(t, only(7, x.rule)), x.from, x.to, x.want...)
	}
}

// P8.5: the bounds that from and to are brought into.
func TestChangesBounds(t *testing.T) {
	for _, x := range []struct {
		time int64
		told bool
	}{
		{math.MinInt64, false}, {lowest - 1, false}, {lowest, false}, {lowest + 1, false}, {lowest + 2, true},
		{highest - 1, true}, {highest, true}, {highest + 1, false}, {math.MaxInt64, false},
	} {
		for _, footer := range []string{"", "<+01>-1"} {
			z := made(t, put(footer, 0, x.time, 3600))
			var want []int64
			if x.told {
				want = []int64{x.time}
			}
			for _, from := range []int64{math.MinInt64, lowest - 1, lowest, lowest + 1} {
				for _, to := range []int64{highest, highest + 1, math.MaxInt64} {
					changesAre(t, z, from, to, want...)
				}
				changesAre(t, z, from, math.MinInt64)
				changesAre(t, z, from, lowest+1)
			}
			changesAre(t, z, highest, math.MaxInt64)
			changesAre(t, z, math.MaxInt64, highest)
		}
	}
	for rule, want := range map[string][]int64{
		beginsAtLowest: nil, beginsBelow: nil, beginsOneAbove: {lowest + 2},
		beginsAheadOfEnd: {highest - 1}, beginsAtHighest: {highest}, beginsOneBehind: nil,
	} {
		z := made(t, only(7, rule))
		all := z.Changes(math.MinInt64, math.MaxInt64)
		near := slices.DeleteFunc(all, func(at int64) bool { return at > lowest+10 && at < highest-10 })
		if !slices.Equal(near, want) {
			t.Errorf("%s: changes at the bounds: %v, not %v", rule, near, want)
		}
	}
}

// P8.5: the whole of what a rule brings, turn by turn, and in pieces.
func TestAllChanges(t *testing.T) {
	z := made(t, put(europeRule, 0, -1000, 60, 828234000, 60))
	all := z.Changes(math.MinInt64, math.MaxInt64)
	// From the summer of 1996 on, up to the autumn of 5138, and the first time.
	if len(all) != 1+2*(5138-1996+1) {
		t.Errorf("%d changes", len(all))
	}
	for i, at := range all {
		if i > 0 && at <= all[i-1] {
			t.Fatalf("%d behind %d", at, all[i-1])
		}
		if z.Offset(at) == z.Offset(at-1) {
			t.Errorf("no change at %d", at)
		}
	}
	var pieces []int64
	const step = 9999999 * 13
	for from := int64(lowest); from < highest; from += step {
		pieces = append(pieces, z.Changes(from, from+step)...)
	}
	if !slices.Equal(all, pieces) {
		t.Errorf("in pieces: %d, not %d", len(pieces), len(all))
	}
}

// P8.6: what is handed in is as it was, and is not kept.
func TestOnlyRead(t *testing.T) {
	abbr, footer := []byte("CET"), []byte("<+02>-2")
	f := some(unsafe.String(&footer[0], len(footer)))
	f.Types[0].Abbr = unsafe.String(&abbr[0], len(abbr))
	// There is room behind each list.
	types, times, index := append(f.Types, tzif.Type{Off: 1, Abbr: "Z"}), append(f.Times, 77), append(f.Index, 9)
	f.Types, f.Times, f.Index = types[:3], times[:3], index[:3]
	z := made(t, f)
	z.Offset(1000)
	z.Changes(lowest, highest)
	z.Offsets()
	if types[3] != (tzif.Type{Off: 1, Abbr: "Z"}) || times[3] != 77 || index[3] != 9 || string(abbr) != "CET" || string(footer) != "<+02>-2" {
		t.Errorf("%v, %v, %v, %s, %s", types, times, index, abbr, footer)
	}
	if want := some("<+02>-2"); f.Types[1] != want.Types[1] || f.Types[2] != want.Types[2] || !slices.Equal(f.Times, want.Times) || !slices.Equal(f.Index, want.Index) {
		t.Errorf("%v", f)
	}
	clear(types)
	clear(times)
	clear(index)
	copy(abbr, "***")
	copy(footer, "*******")
	asSome(t, z)
	if z.Types[0].Abbr != "CET" || z.Footer != "<+02>-2" {
		t.Errorf("%v", z.Zone)
	}
}

// asSome fails unless a zone is some's, with a rule of two hours.
func asSome(t *testing.T, z *Zone) {
	t.Helper()
	for at, want := range map[int64]int{0: 0, 1000: 5400, 20000: -3600, 300000: 7200} {
		offsetIs(t, z, at, want)
	}
	offsetsAre(t, z, -3600, 0, 5400, 7200)
	changesAre(t, z, lowest, highest, 1000, 20000, 300000)
	instantsAre(t, z, clock(1970, 1, 1, 4, 35, 0, 0), 11100000000, 20100000000)
}

// P8.6: nothing of a file without a footer is kept either.
func TestNotKeptWithoutFooter(t *testing.T) {
	f := some("")
	z := made(t, f)
	clear(f.Types)
	clear(f.Times)
	clear(f.Index)
	if !tzif.Same(z.Zone, some("")) {
		t.Errorf("%v", z.Zone)
	}
	changesAre(t, z, lowest, highest, 1000, 20000, 300000)
}

// P8.6: Load's bytes are as they were, and are not kept.
func TestLoadOnlyReads(t *testing.T) {
	b := bytesOf(t, some("<+02>-2"))
	long := append(slices.Clone(b), 'x')
	z, err := Load(long[:len(b)])
	if err != api.OK || !bytes.Equal(long[:len(b)], b) || long[len(b)] != 'x' {
		t.Fatalf("Load: %d, %q", err, long)
	}
	clear(long)
	asSome(t, z)
}

// P8.6: answers may be written over, up to all that they have room for.
func TestNewMemory(t *testing.T) {
	z := made(t, some("<+02>-2"))
	for range 3 {
		offs := z.Offsets()
		clear(offs[:cap(offs)])
		changes := z.Changes(lowest, highest)
		clear(changes[:cap(changes)])
		few := z.Changes(0, 1000)
		clear(few[:cap(few)])
		instants, _ := z.Instants(clock(1970, 1, 1, 3, 5, 0, 0))
		clear(instants[:cap(instants)])
		asSome(t, z)
	}
	var utc *Zone
	utc.Offsets()[0] = 5
	offsetsAre(t, utc, 0)
	// Zones of one file share nothing.
	f := some("<+02>-2")
	first, second := made(t, f), made(t, f)
	clear(first.Types)
	clear(first.Times)
	clear(first.Index)
	asSome(t, second)
	asSome(t, made(t, f))
}

// P8.2 to P8.5: zones made by hand, and zones whose files were written over, end and do not panic.
func TestZonesByHand(t *testing.T) {
	wild := tzif.Zone{
		Types:  []tzif.Type{{Off: math.MaxInt}, {Off: math.MinInt, Dst: true}, {Off: -1}},
		Times:  []int64{math.MaxInt64, math.MinInt64, 5, 5},
		Index:  []int{7, -1},
		Footer: "CET",
	}
	broken := made(t, some(europeRule))
	broken.Zone = wild
	emptied := made(t, some(europeRule))
	emptied.Types = nil
	lost := made(t, some(""))
	lost.Index[0] = 9
	for _, z := range []*Zone{{Zone: wild}, broken, emptied, lost, {Zone: tzif.Zone{Times: wild.Times, Index: wild.Index}}, {Zone: some(europeRule)}} {
		for _, n := range []int64{math.MinInt64, lowest - 1, lowest, -1, 0, 1, 300000, highest, highest + 1, math.MaxInt64} {
			z.Offset(n)
			z.Local(n)
			z.Changes(n, math.MaxInt64)
			z.Changes(math.MinInt64, n)
		}
		z.Offsets()
		z.Instants(clock(1, 1, 1, 0, 0, 0, 0))
		z.Instants(clock(2026, 1, 1, 0, 0, 0, 0))
		z.Instants(clock(9999, 12, 31, 23, 59, 59, 999999))
	}
	offsetsAre(t, emptied, 0)
}

// P8.3, P8.4: the chapter's examples.
func TestExamples(t *testing.T) {
	localIs(t, nil, 0, clock(1970, 1, 1, 0, 0, 0, 0))
	z := made(t, only(3600, europeRule))
	instantsAre(t, z, clock(2026, 3, 29, 2, 30, 0, 0))
	list, err := z.Instants(clock(2026, 10, 25, 2, 30, 0, 0))
	if err != api.OK || len(list) != 2 || list[1]-list[0] != 3600000000 {
		t.Errorf("Instants: %v, %d", list, err)
	}
}
