package next

import (
	"fmt"
	"math"
	"slices"
	"testing"
	"time"

	"clepsydra/api"
	"clepsydra/cal"
	"clepsydra/footer"
	"clepsydra/tzif"
	"clepsydra/zone"
)

const (
	aMinute = int64(60000000)
	anHour  = 60 * aMinute
	aDay    = 24 * anHour

	// spring and autumn of 2026, when clocks of the middle of Europe are put ahead, and back.
	spring = int64(1774746000000000)
	autumn = int64(1792890000000000)

	middleOfEurope = "CET-1CEST,M3.5.0,M10.5.0/3"

	// eachMicro is all times.
	eachMicro = "*:*:*/0.000001"
)

// parsed is the expression of a text.
func parsed(t *testing.T, text string) cal.Spec {
	t.Helper()
	s, err := cal.Parse(text)
	if err != api.OK {
		t.Fatalf("%q: %d", text, err)
	}
	return s
}

// made is the zone of a file that is right.
func made(t *testing.T, f tzif.Zone) *zone.Zone {
	t.Helper()
	z, err := zone.New(f)
	if err != api.OK {
		t.Fatalf("%v: %d", f, err)
	}
	return z
}

// ruled is a zone that has a rule alone.
func ruled(t *testing.T, rule string) *zone.Zone {
	t.Helper()
	r, err := footer.Parse(rule)
	if err != api.OK {
		t.Fatalf("%q: %d", rule, err)
	}
	return made(t, tzif.Zone{Types: []tzif.Type{{Off: r.Off, Abbr: "A"}}, Footer: rule})
}

// turned is a zone that has one offset up to a second, and others from it, and from those that follow, on.
func turned(t *testing.T, off int, turns ...int64) *zone.Zone {
	t.Helper()
	f := tzif.Zone{Types: []tzif.Type{{Off: off, Abbr: "A"}}}
	for i := 0; i < len(turns); i += 2 {
		f.Types = append(f.Types, tzif.Type{Off: int(turns[i+1]), Abbr: "A"})
		f.Times = append(f.Times, turns[i])
		f.Index = append(f.Index, i/2+1)
	}
	return made(t, f)
}

// at is a time as microseconds, by the library.
func at(year, month, day, hour, minute, second, usec int) int64 {
	return time.Date(year, time.Month(month), day, hour, minute, second, usec*1000, time.UTC).UnixMicro()
}

// midnight begins a day.
func midnight(year, month, day int) int64 { return at(year, month, day, 0, 0, 0, 0) }

// localIs fails unless that is the least local time from one on.
func localIs(t *testing.T, s cal.Spec, from, want int64) {
	t.Helper()
	if got, ok := Local(s, from); got != want || !ok {
		t.Errorf("%+v: Local(%d): %d, %t, not %d", s, from, got, ok, want)
	}
}

func noLocal(t *testing.T, s cal.Spec, from int64) {
	t.Helper()
	if got, ok := Local(s, from); got != 0 || ok {
		t.Errorf("%+v: Local(%d): %d, %t, not none", s, from, got, ok)
	}
}

// allLocals are all that Local tells, one behind the other.
func allLocals(s cal.Spec) []int64 {
	var all []int64
	for n, ok := Local(s, math.MinInt64); ok; n, ok = Local(s, n+1) {
		all = append(all, n)
	}
	return all
}

func firstIs(t *testing.T, s cal.Spec, z *zone.Zone, usec int64, want bool) {
	t.Helper()
	if got := First(s, z, usec); got != want {
		t.Errorf("%+v: First(%d): %t", s, usec, got)
	}
}

// afterIs fails unless that is the least instant above one, at which it elapses.
func afterIs(t *testing.T, s cal.Spec, z *zone.Zone, from, want int64) {
	t.Helper()
	if got, ok := After(s, z, from); got != want || !ok {
		t.Errorf("%+v: After(%d): %d, %t, not %d", s, from, got, ok, want)
	}
	firstIs(t, s, z, want, true)
}

func nothingAfter(t *testing.T, s cal.Spec, z *zone.Zone, from int64) {
	t.Helper()
	if got, ok := After(s, z, from); got != 0 || ok {
		t.Errorf("%+v: After(%d): %d, %t, not none", s, from, got, ok)
	}
}

// told is a list in short.
func told(list []int64) string {
	if len(list) > 20 {
		return fmt.Sprint(list[:10], " and so on, ", len(list), " in all")
	}
	return fmt.Sprint(list)
}

func upIs(t *testing.T, s cal.Spec, z *zone.Zone, from, to int64, most int, want ...int64) {
	t.Helper()
	if got := Up(s, z, from, to, most); !slices.Equal(got, want) {
		t.Errorf("%+v: Up(%d, %d, %d): %s, not %s", s, from, to, most, told(got), told(want))
	}
}

// somewhere are numbers at which something may begin or end, and far beyond.
func somewhere() []int64 {
	return []int64{
		math.MinInt64, math.MinInt64 + 1, -api.MaxTime - 1, -api.MaxTime, -aDay, -1, 0, 1, aDay, spring, autumn,
		api.MaxTime - 1, api.MaxTime, api.MaxTime + 1, 2 * api.MaxTime, math.MaxInt64 - 1, math.MaxInt64,
	}
}

// wrong are expressions that are not right, each but a little beside one that is.
func wrong() []cal.Spec {
	zero := []cal.Part{{}}
	daily := cal.Spec{Hour: zero, Minute: zero, Second: zero}
	with := func(change func(s *cal.Spec)) cal.Spec {
		s := daily
		change(&s)
		return s
	}
	return []cal.Spec{
		{},
		{UTC: true},
		with(func(s *cal.Spec) { s.Second = nil }),
		with(func(s *cal.Spec) { s.Second = []cal.Part{} }),
		with(func(s *cal.Spec) { s.Days = 128 }),
		with(func(s *cal.Spec) { s.Year = []cal.Part{{From: 1969, To: 1969}} }),
		with(func(s *cal.Spec) { s.Year = []cal.Part{{From: 1970, To: 2200, Step: 1}} }),
		with(func(s *cal.Spec) { s.Month = zero }),
		with(func(s *cal.Spec) { s.Month = []cal.Part{{From: 1, To: 13, Step: 1}} }),
		with(func(s *cal.Spec) { s.Day = zero }),
		with(func(s *cal.Spec) { s.Day = []cal.Part{{From: 1, To: 32, Step: 1}} }),
		with(func(s *cal.Spec) { s.Hour = []cal.Part{{From: 24, To: 24}} }),
		with(func(s *cal.Spec) { s.Hour = []cal.Part{{From: 2, To: 1, Step: 1}} }),
		with(func(s *cal.Spec) { s.Minute = []cal.Part{{From: 1, To: 2}} }),
		with(func(s *cal.Spec) { s.Minute = []cal.Part{{From: 1, To: 2, Step: -1}} }),
		with(func(s *cal.Spec) { s.Second = []cal.Part{{From: 0, To: aMinute, Step: 1}} }),
		with(func(s *cal.Spec) { s.Second = []cal.Part{{From: math.MinInt64, To: math.MaxInt64, Step: 1}} }),
		with(func(s *cal.Spec) { s.Second = make([]cal.Part, 21) }),
	}
}

// P10.1 to P10.4: an expression that is not right elapses never.
func TestOfWrong(t *testing.T) {
	zones := []*zone.Zone{nil, ruled(t, middleOfEurope)}
	for _, s := range wrong() {
		if cal.Right(s) {
			t.Errorf("%+v is right", s)
		}
		for _, n := range somewhere() {
			noLocal(t, s, n)
			for _, z := range zones {
				firstIs(t, s, z, n, false)
				nothingAfter(t, s, z, n)
				upIs(t, s, z, n, math.MaxInt64, 9)
			}
		}
	}
}

// P10.1: at, one below and one above a time that matches.
func TestLocalAt(t *testing.T) {
	for _, x := range []struct {
		text       string
		this, next int64
	}{
		{"daily", midnight(2026, 3, 29), midnight(2026, 3, 30)},
		{"daily", midnight(2026, 12, 31), midnight(2027, 1, 1)},
		{"hourly", at(2026, 3, 29, 23, 0, 0, 0), midnight(2026, 3, 30)},
		{"minutely", at(2026, 3, 29, 23, 59, 0, 0), midnight(2026, 3, 30)},
		{"*:*:*", at(2026, 3, 29, 23, 59, 59, 0), midnight(2026, 3, 30)},
		{"monthly", midnight(2026, 2, 1), midnight(2026, 3, 1)},
		{"yearly", midnight(2026, 1, 1), midnight(2027, 1, 1)},
		{"weekly", midnight(2026, 3, 23), midnight(2026, 3, 30)},
		{"quarterly", midnight(2026, 10, 1), midnight(2027, 1, 1)},
		{"Mon 10:30", at(2026, 3, 23, 10, 30, 0, 0), at(2026, 3, 30, 10, 30, 0, 0)},
		{"12-24 */6:30", at(2026, 12, 24, 18, 30, 0, 0), at(2027, 12, 24, 0, 30, 0, 0)},
		{"*:*:1.5", at(2026, 3, 29, 4, 5, 1, 500000), at(2026, 3, 29, 4, 6, 1, 500000)},
		{"*:*:59.999999", at(2026, 12, 31, 23, 59, 59, 999999), at(2027, 1, 1, 0, 0, 59, 999999)},
		{"*:*:0/7.25", at(2026, 3, 29, 4, 5, 58, 0), at(2026, 3, 29, 4, 6, 0, 0)},
		{"*:*:0/7.25", at(2026, 3, 29, 4, 5, 7, 250000), at(2026, 3, 29, 4, 5, 14, 500000)},
		{"2026,2031-3-* 7:8:9", at(2026, 3, 31, 7, 8, 9, 0), at(2031, 3, 1, 7, 8, 9, 0)},
		{"*/10-1-1", midnight(2020, 1, 1), midnight(2030, 1, 1)},
		{"*-*~1", midnight(2026, 1, 31), midnight(2026, 2, 28)},
		{"*-*~1..3", midnight(2026, 2, 26), midnight(2026, 2, 27)},
		{"*-*~1..3", midnight(2026, 2, 28), midnight(2026, 3, 29)},
	} {
		s := parsed(t, x.text)
		localIs(t, s, x.this-1, x.this)
		localIs(t, s, x.this, x.this)
		localIs(t, s, x.this+1, x.next)
		localIs(t, s, x.next, x.next)
	}
}

// P10.1: the years are those from 1970 up to 2199.
func TestLocalYears(t *testing.T) {
	last := int64(api.MaxTime - 1)
	if last != at(2199, 12, 31, 23, 59, 59, 999999) {
		t.Fatalf("the last time of 2199 is not %d", last)
	}
	for _, from := range somewhere() {
		for _, x := range []struct {
			text string
			only int64
		}{
			{"1970-1-1 0:00:00", 0},
			{"2199-12-31 23:59:59.999999", last},
		} {
			if s := parsed(t, x.text); from <= x.only {
				localIs(t, s, from, x.only)
			} else {
				noLocal(t, s, from)
			}
		}
		if s := parsed(t, eachMicro); from <= last {
			localIs(t, s, from, max(from, 0))
		} else {
			noLocal(t, s, from)
		}
	}
	daily := parsed(t, "daily")
	localIs(t, daily, last-aDay, midnight(2199, 12, 31))
	localIs(t, daily, midnight(2199, 12, 31), midnight(2199, 12, 31))
	noLocal(t, daily, midnight(2199, 12, 31)+1)
	localIs(t, parsed(t, "*-*~1"), 0, midnight(1970, 1, 31))
	localIs(t, parsed(t, "Thu"), -1, 0)
	localIs(t, parsed(t, "Wed"), -1, 6*aDay)
}

// days are those of the years that there are, for which a test holds.
func days(holds func(d time.Time) bool) []int64 {
	var all []int64
	for d := time.Date(1970, 1, 1, 0, 0, 0, 0, time.UTC); d.Year() < 2200; d = d.AddDate(0, 0, 1) {
		if holds(d) {
			all = append(all, d.UnixMicro())
		}
	}
	return all
}

// left is how many days a month has left, with that one, by the library.
func left(d time.Time) int {
	return time.Date(d.Year(), d.Month()+1, 0, 0, 0, 0, 0, time.UTC).Day() - d.Day() + 1
}

// P10.1: all days that match: over the ends of months of each length, in years of 365 and of 366 days, on days of the week.
func TestLocalDays(t *testing.T) {
	for _, x := range []struct {
		text  string
		holds func(d time.Time) bool
	}{
		{"daily", func(d time.Time) bool { return true }},
		{"*-2-29", func(d time.Time) bool { return d.Month() == 2 && d.Day() == 29 }},
		{"*-2~29", func(d time.Time) bool { return d.Month() == 2 && left(d) == 29 }},
		{"*-2~1", func(d time.Time) bool { return d.Month() == 2 && left(d) == 1 }},
		{"*-2-28..31", func(d time.Time) bool { return d.Month() == 2 && d.Day() >= 28 }},
		{"*-2~28..31", func(d time.Time) bool { return d.Month() == 2 && left(d) >= 28 }},
		{"*-*-29", func(d time.Time) bool { return d.Day() == 29 }},
		{"*-*-30", func(d time.Time) bool { return d.Day() == 30 }},
		{"*-*-31", func(d time.Time) bool { return d.Day() == 31 }},
		{"*-*~1", func(d time.Time) bool { return left(d) == 1 }},
		{"*-*~29", func(d time.Time) bool { return left(d) == 29 }},
		{"*-*~30", func(d time.Time) bool { return left(d) == 30 }},
		{"*-*~31", func(d time.Time) bool { return left(d) == 31 }},
		{"*-*~1/7", func(d time.Time) bool { return left(d)%7 == 1 }},
		{"*-*~2..30/5", func(d time.Time) bool { return left(d) <= 30 && left(d)%5 == 2 }},
		{"*-*-1/7", func(d time.Time) bool { return d.Day()%7 == 1 }},
		{"Fri *-*-13", func(d time.Time) bool { return d.Weekday() == 5 && d.Day() == 13 }},
		{"Mon *-2-29", func(d time.Time) bool { return d.Weekday() == 1 && d.Month() == 2 && d.Day() == 29 }},
		{"Sun *-*~1..7", func(d time.Time) bool { return d.Weekday() == 0 && left(d) <= 7 }},
		{"Sat,Sun *-*~1,31", func(d time.Time) bool { return d.Weekday()%6 == 0 && (left(d) == 1 || left(d) == 31) }},
		{"Mon..Sun *-2-1", func(d time.Time) bool { return d.Month() == 2 && d.Day() == 1 }},
		{"1970/7-5..12/3-1", func(d time.Time) bool {
			return d.Year()%7 == 1970%7 && d.Month() >= 5 && d.Month()%3 == 2 && d.Day() == 1
		}},
		{"2000,2100-2~29", func(d time.Time) bool { return d.Year() == 2000 && d.Month() == 2 && d.Day() == 1 }},
		{"Thu 2026-1-1", func(d time.Time) bool { return d.Year() == 2026 && d.YearDay() == 1 }},
	} {
		if got, want := allLocals(parsed(t, x.text)), days(x.holds); !slices.Equal(got, want) {
			t.Errorf("%q: %d days, not %d", x.text, len(got), len(want))
		}
	}
}

// neverTexts are those of expressions that match no time.
func neverTexts() []string {
	return []string{
		"*-2-30", "*-2-30..31", "*-2~30", "*-2~30,31", "*-2,4,6,9,11-31", "*-2,4,6,9,11~31",
		"2026-2-29", "2100-2-29", "1971/4-2-29", "2100-2~29", "2199-2-29",
		"Mon 2026-1-1", "Mon..Wed,Fri..Sun 2026-1-1", "Fri 2026-1~31", "Sun 2199-12-31", "Wed 1970-1-1",
		"Sat 2026-2-1..6,8..13,15..20,22..27", "Mon *-2-30 " + eachMicro, "2026-2-29 " + eachMicro,
	}
}

// P10.1, P10.3, P10.4: what no day matches elapses never.
func TestNever(t *testing.T) {
	zones := []*zone.Zone{nil, ruled(t, middleOfEurope)}
	for _, text := range neverTexts() {
		s := parsed(t, text)
		for _, from := range somewhere() {
			noLocal(t, s, from)
			for _, z := range zones {
				nothingAfter(t, s, z, from)
				upIs(t, s, z, from, math.MaxInt64, math.MaxInt)
			}
		}
	}
}

// P10.1: several parts in each field, in any order, that meet, that come twice, whose steps lead past their ends, or very far.
func TestLocalParts(t *testing.T) {
	s := cal.Spec{
		Year:   []cal.Part{{From: 2030, To: 2199, Step: 100}, {From: 2026, To: 2026}, {From: 2028, To: 2028, Step: math.MaxInt64}},
		Month:  []cal.Part{{From: 11, To: 12, Step: 2}, {From: 2, To: 4, Step: 2}, {From: 4, To: 4}, {From: 4, To: 4}},
		Day:    []cal.Part{{From: 30, To: 31, Step: 1}, {From: 29, To: 30, Step: 1}, {From: 10, To: 31, Step: math.MaxInt64}},
		Hour:   []cal.Part{{From: 20, To: 23, Step: 2}, {From: 5, To: 5}},
		Minute: []cal.Part{{From: 58, To: 59, Step: 3}, {From: 7, To: 9, Step: 1}, {From: 8, To: 8}},
		Second: []cal.Part{{From: 59999999, To: 59999999}, {From: 0, To: 59999999, Step: 59999998}, {From: 1, To: 2, Step: 1}},
	}
	var want []int64
	for _, year := range []int{2026, 2028, 2030, 2130} {
		for _, month := range []int{2, 4, 11} {
			for _, day := range []int{10, 29, 30, 31} {
				if d := time.Date(year, time.Month(month), day, 0, 0, 0, 0, time.UTC); d.Day() != day {
					continue
				}
				for _, hour := range []int{5, 20, 22} {
					for _, minute := range []int{7, 8, 9, 58} {
						for _, usec := range []int64{0, 1, 2, 59999998, 59999999} {
							want = append(want, at(year, month, day, hour, minute, 0, 0)+usec)
						}
					}
				}
			}
		}
	}
	if got := allLocals(s); !slices.Equal(got, want) {
		t.Errorf("%d local times, not %d", len(got), len(want))
	}
	for i, n := range want[1:] {
		localIs(t, s, want[i]+1, n)
		localIs(t, s, (want[i]+n+1)/2, n)
	}
}

// P10.1: steps of a microsecond, and parts of microseconds.
func TestLocalMicros(t *testing.T) {
	day := midnight(2026, 3, 29)
	for _, x := range []struct {
		text       string
		from, want int64
	}{
		{eachMicro, day + 17, day + 17},
		{"2:30:0/0.000001", day, day + 2*anHour + 30*aMinute},
		{"2:30:0/0.000001", day + 2*anHour + 30*aMinute + 1, day + 2*anHour + 30*aMinute + 1},
		{"2:30:0/0.000001", day + 2*anHour + 31*aMinute - 1, day + 2*anHour + 31*aMinute - 1},
		{"2:30:0/0.000001", day + 2*anHour + 31*aMinute, day + 26*anHour + 30*aMinute},
		{"*:*:0.000001/0.000003", day, day + 1},
		{"*:*:0.000001/0.000003", day + 2, day + 4},
		{"*:*:0.000001/0.000003", day + 59999999, day + aMinute + 1},
		{"*:*:1.000001..1.000003/0.000001", day + 1000004, day + aMinute + 1000001},
		{"*:*:0..30/29.999999", day + 29999999, day + 29999999},
		{"*:*:0..30/29.999999", day + 30000000, day + aMinute},
	} {
		localIs(t, parsed(t, x.text), x.from, x.want)
	}
}

// P10.2: at an instant that matches, beside it, and where instants begin and end.
func TestFirst(t *testing.T) {
	const last = int64(api.MaxTime - 1)
	east, west := turned(t, 1), turned(t, -1)
	for i, x := range []struct {
		text string
		z    *zone.Zone
		usec int64
		want bool
	}{
		{"daily", nil, aDay, true},
		{"daily", nil, aDay - 1, false},
		{"daily", nil, aDay + 1, false},
		{"daily", nil, 0, true},
		{"daily", nil, -aDay, false},
		{"daily", nil, api.MaxTime, false},
		{"daily", nil, api.MaxTime - aDay, true},
		{eachMicro, nil, 0, true},
		{eachMicro, nil, -1, false},
		{eachMicro, nil, math.MinInt64, false},
		{eachMicro, nil, last, true},
		{eachMicro, nil, api.MaxTime, false},
		{eachMicro, nil, math.MaxInt64, false},
		{eachMicro, east, -1, false},
		{eachMicro, east, -1000000, false},
		{eachMicro, east, 0, true},
		{eachMicro, east, last - 1000000, true},
		{eachMicro, east, last - 999999, false},
		{eachMicro, east, last, false},
		{eachMicro, west, 0, false},
		{eachMicro, west, 999999, false},
		{eachMicro, west, 1000000, true},
		{eachMicro, west, last, true},
		{eachMicro, west, api.MaxTime, false},
		{eachMicro + " UTC", west, 0, true},
		{eachMicro + " UTC", east, last, true},
		{"daily", east, aDay - 1000000, true},
		{"daily", east, aDay, false},
		{"daily UTC", east, aDay - 1000000, false},
		{"daily UTC", east, aDay, true},
		{"0:00:01", east, aDay, true},
		{"23:59:59", west, aDay, true},
	} {
		if got := First(parsed(t, x.text), x.z, x.usec); got != x.want {
			t.Errorf("%d: %q: First(%d): %t", i, x.text, x.usec, got)
		}
	}
}

// P10.2: where clocks are put back the earlier one of two instants, where they are put ahead none.
func TestFirstAtChanges(t *testing.T) {
	z := ruled(t, middleOfEurope)
	s := parsed(t, eachMicro)
	for _, x := range []struct {
		usec int64
		want bool
	}{
		{autumn - anHour - 1, true},
		{autumn - anHour, true},
		{autumn - 1, true},
		{autumn, false},
		{autumn + 1, false},
		{autumn + anHour - 1, false},
		{autumn + anHour, true},
		{spring - 1, true},
		{spring, true},
	} {
		firstIs(t, s, z, x.usec, x.want)
		firstIs(t, parsed(t, eachMicro+" UTC"), z, x.usec, true)
	}
	half := parsed(t, "2:30")
	for usec := spring - aDay/2; usec <= spring+aDay/2; usec += aMinute {
		firstIs(t, half, z, usec, false)
	}
	firstIs(t, half, z, autumn-anHour/2, true)
	firstIs(t, half, z, autumn+anHour/2, false)
	firstIs(t, parsed(t, "Mon 2:30"), z, autumn-anHour/2, false)
}

// P10.2, P10.3: an instant ahead of 1970 had that local time: it does not come again.
func TestEarlierThanAll(t *testing.T) {
	z := turned(t, 7200, 600, 3600)
	s := parsed(t, eachMicro)
	for _, x := range []struct {
		usec int64
		want bool
	}{
		{0, true},
		{600*1000000 - 1, true},
		{600 * 1000000, false},
		{4200*1000000 - 1, false},
		{4200 * 1000000, true},
	} {
		firstIs(t, s, z, x.usec, x.want)
	}
	afterIs(t, s, z, -1, 0)
	afterIs(t, s, z, 600*1000000-1, 4200*1000000)
	// At -600 seconds it was 1:50, which is of 1970, but the instant is not.
	afterIs(t, parsed(t, "1:50"), z, -aDay, aDay+50*aMinute)
	nothingAfter(t, parsed(t, "1970-1-1 1:50"), z, -aDay)
	afterIs(t, parsed(t, "1970-1-1 2:05"), z, -aDay, 5*aMinute)
}

// P10.3: at, one below and one above an instant at which it elapses; from far ahead; and from the end on.
func TestAfter(t *testing.T) {
	const last = int64(api.MaxTime - 1)
	east, west := turned(t, 1), turned(t, -1)
	for _, x := range []struct {
		text string
		z    *zone.Zone
		from int64
		want int64
	}{
		{"daily", nil, math.MinInt64, 0},
		{"daily", nil, -1, 0},
		{"daily", nil, 0, aDay},
		{"daily", nil, aDay - 1, aDay},
		{"daily", nil, aDay, 2 * aDay},
		{"daily", nil, aDay + 1, 2 * aDay},
		{"daily", nil, last - aDay, api.MaxTime - aDay},
		{"Thu", nil, math.MinInt64, 0},
		{eachMicro, nil, math.MinInt64, 0},
		{eachMicro, nil, math.MinInt64 + 1, 0},
		{eachMicro, nil, -2, 0},
		{eachMicro, nil, -1, 0},
		{eachMicro, nil, 0, 1},
		{eachMicro, nil, last - 1, last},
		{eachMicro, east, math.MinInt64, 0},
		{eachMicro, east, last - 1000001, last - 1000000},
		{eachMicro, west, math.MinInt64, 1000000},
		{eachMicro, west, 0, 1000000},
		{eachMicro, west, 999999, 1000000},
		{eachMicro, west, 1000000, 1000001},
		{eachMicro, west, last - 1, last},
		{"daily", east, -1, aDay - 1000000},
		{"daily", west, -1, 1000000},
		{"daily UTC", east, -1, 0},
		{"daily UTC", west, 0, aDay},
		{"2199-12-31 23:59:59", nil, math.MinInt64, api.MaxTime - 1000000},
		{"2199-12-31 23:59:59", east, 0, api.MaxTime - 2000000},
		{"2199-12-31 23:59:58", west, 0, api.MaxTime - 1000000},
	} {
		afterIs(t, parsed(t, x.text), x.z, x.from, x.want)
	}
	for _, x := range []struct {
		text string
		z    *zone.Zone
		from int64
	}{
		{"daily", nil, api.MaxTime - aDay},
		{eachMicro, nil, last},
		{eachMicro, nil, api.MaxTime},
		{eachMicro, nil, math.MaxInt64 - 1},
		{eachMicro, nil, math.MaxInt64},
		{eachMicro, east, last - 1000000},
		{eachMicro, east, math.MaxInt64},
		{eachMicro, west, last},
		{eachMicro, west, math.MaxInt64},
		{"1970-1-1", east, -1},
		{"1970-1-1 0:00:00.999999", east, -1},
		{"1970-1-1", nil, 0},
		{"2199-12-31 23:59:59", west, 0},
		{"2199-12-31 23:59:59", nil, api.MaxTime - 1000000},
	} {
		nothingAfter(t, parsed(t, x.text), x.z, x.from)
	}
}

// P10.3: over a gap, and over a time that comes twice.
func TestAfterAtChanges(t *testing.T) {
	z := ruled(t, middleOfEurope)
	half := anHour / 2
	for _, x := range []struct {
		text       string
		from, want int64
	}{
		{"2:30", spring - 23*anHour, spring + 23*anHour + half},
		{"2:30", spring - anHour, spring + 23*anHour + half},
		{"2:30", spring - 1, spring + 23*anHour + half},
		{"2:30", spring, spring + 23*anHour + half},
		{"2:59:59.999999", spring - 1, spring + aDay - 1},
		{"3:00", spring - anHour, spring},
		{"3:00", spring - 1, spring},
		{"3:00", spring, spring + aDay},
		{"1:59:59.999999", spring - 2, spring - 1},
		{"1:59:59.999999", spring - 1, spring + 23*anHour - 1},
		{eachMicro, spring - 2, spring - 1},
		{eachMicro, spring - 1, spring},
		{eachMicro, spring, spring + 1},
		{"*:00", spring - 1, spring},
		{"*:30", spring - half, spring + half},
		{"2:30", autumn - 2*anHour, autumn - half},
		{"2:30", autumn - half - 1, autumn - half},
		{"2:30", autumn - half, autumn + aDay + half},
		{"2:30", autumn, autumn + aDay + half},
		{"2:30", autumn + half - 1, autumn + aDay + half},
		{"2:00", autumn - anHour - 1, autumn - anHour},
		{"2:00", autumn - anHour, autumn + aDay},
		{"3:00", autumn - 1, autumn + anHour},
		{"3:00", autumn, autumn + anHour},
		{eachMicro, autumn - 2, autumn - 1},
		{eachMicro, autumn - 1, autumn + anHour},
		{eachMicro, autumn, autumn + anHour},
		{eachMicro, autumn + anHour - 1, autumn + anHour},
		{eachMicro, autumn + anHour, autumn + anHour + 1},
		{"*:15,45", autumn - half, autumn - half/2},
		{"*:15,45", autumn - half/2, autumn + anHour + half/2},
		{eachMicro + " UTC", autumn, autumn + 1},
	} {
		afterIs(t, parsed(t, x.text), z, x.from, x.want)
	}
	never := parsed(t, "2026-3-29 2:*:*/0.000001")
	for _, from := range []int64{0, spring - 1, spring, spring + 1, api.MaxTime - 1} {
		nothingAfter(t, never, z, from)
		firstIs(t, never, z, spring, false)
	}
	nothingAfter(t, parsed(t, "2026-10-25 2:*:*/0.000001"), z, autumn-1)
	nothingAfter(t, parsed(t, "Sun *-3~1..7 2:*:*/0.000001"), ruled(t, "CET-1CEST,M3.5.0,M10.5.0/3"), 0)
}

// P10.3, P10.4: where clocks are put ahead, and then back by less, or by more, the least local time is not the least instant's.
func TestLeastInstant(t *testing.T) {
	day := midnight(2026, 6, 1)
	base := day / 1000000
	// From 2:00 on it is 4:00; from 5:00 on 3:00: so from 3:00 to 4:00 it is new, then it is not, up to 5:00.
	z := turned(t, 0, base+7200, 7200, base+10800, 0)
	s := parsed(t, "3:30,45")
	both := parsed(t, "3..4:30")
	afterIs(t, both, z, day, day+2*anHour+anHour/2)
	afterIs(t, both, z, day+2*anHour+anHour/2, day+3*anHour+anHour/2)
	afterIs(t, both, z, day+3*anHour+anHour/2, day+aDay+3*anHour+anHour/2)
	afterIs(t, s, z, day, day+3*anHour+anHour/2)
	upIs(t, parsed(t, "2026-6-1 *:00"), z, 0, api.MaxTime, 99,
		day, day+anHour, day+2*anHour, day+3*anHour, day+5*anHour, day+6*anHour, day+7*anHour, day+8*anHour, day+9*anHour,
		day+10*anHour, day+11*anHour, day+12*anHour, day+13*anHour, day+14*anHour, day+15*anHour, day+16*anHour, day+17*anHour,
		day+18*anHour, day+19*anHour, day+20*anHour, day+21*anHour, day+22*anHour, day+23*anHour)
	// Ahead by two hours at 2:00, then back by three at 5:00: from 2:00 on up to 4:00 it is new.
	z = turned(t, 0, base+7200, 7200, base+10800, -3600)
	upIs(t, parsed(t, "2026-6-1 1..5:30"), z, 0, api.MaxTime, 99,
		day+anHour+anHour/2, day+2*anHour+anHour/2, day+3*anHour+anHour/2, day+4*anHour+anHour/2, day+6*anHour+anHour/2)
	upIs(t, parsed(t, "2026-6-1 1..5:30"), z, day+2*anHour+anHour/2, api.MaxTime, 1, day+3*anHour+anHour/2)
}

// P10.2, P10.3: offsets as far from each other as they may be: times come again days behind.
func TestFarOffsets(t *testing.T) {
	day := midnight(2026, 6, 10)
	base := day / 1000000
	const most, least = int64(93599), int64(-89999)
	const apart = (most - least) * 1000000
	z := turned(t, int(most), base, least)
	s := parsed(t, eachMicro)
	for _, x := range []struct {
		usec int64
		want bool
	}{{day - 1, true}, {day, false}, {day + apart - 1, false}, {day + apart, true}} {
		firstIs(t, s, z, x.usec, x.want)
	}
	afterIs(t, s, z, day-2, day-1)
	for _, from := range []int64{day - 1, day, day + apart/2, day + apart - 1} {
		afterIs(t, s, z, from, day+apart)
	}
	afterIs(t, s, z, day+apart, day+apart+1)
	back := turned(t, int(least), base, most)
	afterIs(t, s, back, day-1, day)
	gap := parsed(t, "2026-6-9..10")
	nothingAfter(t, gap, back, 0)
	afterIs(t, parsed(t, "2026-6-9..12 2:00"), back, 0, midnight(2026, 6, 11)+2*anHour-most*1000000)
}

// P10.4: from, to and most.
func TestUp(t *testing.T) {
	daily := parsed(t, "daily")
	for _, x := range []struct {
		from, to int64
		most     int
		want     []int64
	}{
		{-1, 3 * aDay, 9, []int64{0, aDay, 2 * aDay, 3 * aDay}},
		{math.MinInt64, 3 * aDay, 9, []int64{0, aDay, 2 * aDay, 3 * aDay}},
		{0, 3 * aDay, 9, []int64{aDay, 2 * aDay, 3 * aDay}},
		{1, 3*aDay - 1, 9, []int64{aDay, 2 * aDay}},
		{0, 3*aDay + 1, 9, []int64{aDay, 2 * aDay, 3 * aDay}},
		{aDay - 1, aDay, 9, []int64{aDay}},
		{aDay, aDay, 9, nil},
		{aDay, 2*aDay - 1, 9, nil},
		{aDay, aDay - 1, 9, nil},
		{3 * aDay, 0, 9, nil},
		{-1, 0, 9, []int64{0}},
		{-2, -1, 9, nil},
		{math.MinInt64, math.MinInt64, 9, nil},
		{math.MaxInt64, math.MaxInt64, 9, nil},
		{math.MaxInt64, math.MinInt64, 9, nil},
		{0, 3 * aDay, 4, []int64{aDay, 2 * aDay, 3 * aDay}},
		{0, 3 * aDay, 3, []int64{aDay, 2 * aDay, 3 * aDay}},
		{0, 3 * aDay, 2, []int64{aDay, 2 * aDay}},
		{0, 3 * aDay, 1, []int64{aDay}},
		{0, 3 * aDay, 0, nil},
		{0, 3 * aDay, -1, nil},
		{0, 3 * aDay, math.MinInt, nil},
		{0, 3 * aDay, math.MaxInt, []int64{aDay, 2 * aDay, 3 * aDay}},
		{api.MaxTime - 2*aDay - 1, api.MaxTime, 9, []int64{api.MaxTime - 2*aDay, api.MaxTime - aDay}},
		{api.MaxTime - 2*aDay, math.MaxInt64, 9, []int64{api.MaxTime - aDay}},
		{api.MaxTime - aDay, math.MaxInt64, 9, nil},
	} {
		upIs(t, daily, nil, x.from, x.to, x.most, x.want...)
	}
	s := parsed(t, eachMicro)
	upIs(t, s, nil, api.MaxTime-3, math.MaxInt64, 9, api.MaxTime-2, api.MaxTime-1)
	upIs(t, s, nil, api.MaxTime-3, api.MaxTime-2, 9, api.MaxTime-2)
	upIs(t, s, nil, math.MinInt64, math.MaxInt64, 3, 0, 1, 2)
	z := ruled(t, middleOfEurope)
	upIs(t, s, z, autumn-3, math.MaxInt64, 4, autumn-2, autumn-1, autumn+anHour, autumn+anHour+1)
	upIs(t, s, z, autumn-3, autumn+anHour-1, 9, autumn-2, autumn-1)
	upIs(t, s, z, autumn-3, autumn+anHour, 9, autumn-2, autumn-1, autumn+anHour)
	upIs(t, s, z, spring-3, spring+1, 9, spring-2, spring-1, spring, spring+1)
	upIs(t, parsed(t, "*:*:*/0.000001 UTC"), z, autumn-2, autumn+1, 9, autumn-1, autumn, autumn+1)
}

// P10.4: over all years: each instant once, rising, and just those at which it elapses.
func TestUpManyYears(t *testing.T) {
	z := ruled(t, middleOfEurope)
	noon := days(func(d time.Time) bool { return true })
	for i := range noon {
		noon[i] += aDay / 2
	}
	upIs(t, parsed(t, "12:00"), nil, math.MinInt64, math.MaxInt64, math.MaxInt, noon...)
	upIs(t, parsed(t, "12:00"), nil, 0, math.MaxInt64, len(noon), noon...)
	upIs(t, parsed(t, "12:00"), nil, 0, math.MaxInt64, len(noon)-1, noon[:len(noon)-1]...)
	s := parsed(t, "1..3:00")
	var want []int64
	for day := int64(0); day <= api.MaxTime; day += aDay {
		// One o'clock there may be the day ahead, an hour ahead of its end.
		for usec := day - anHour; usec <= day+2*anHour; usec += anHour {
			if First(s, z, usec) {
				want = append(want, usec)
			}
		}
	}
	// Three a day, but two where clocks are put ahead.
	upIs(t, s, z, math.MinInt64, math.MaxInt64, math.MaxInt, want...)
	if len(want) != 3*len(noon)-230 {
		t.Errorf("%d instants", len(want))
	}
}

// P10.3, P10.4: After, again and again, tells what Up tells.
func TestUpIsAfter(t *testing.T) {
	z := ruled(t, "EST5EDT,M3.2.0,M11.1.0")
	for _, text := range []string{"Sun 1:30", "*-3,11-8..14 1..3:0/15", "Mon *-*~1..7 0:00", "*-2-29 23:59:59.5"} {
		s := parsed(t, text)
		var want []int64
		for usec, ok := After(s, z, -1); ok; usec, ok = After(s, z, usec) {
			want = append(want, usec)
		}
		upIs(t, s, z, -1, api.MaxTime, math.MaxInt, want...)
		if len(want) < 50 {
			t.Errorf("%q: %v", text, want)
		}
	}
}

// roomy is an expression whose lists have more behind their lengths.
func roomy() cal.Spec {
	list := func(parts ...cal.Part) []cal.Part {
		return append(parts, cal.Part{From: -1, To: -2, Step: -3}, cal.Part{From: 4, To: 5, Step: 6})[:len(parts)]
	}
	return cal.Spec{
		Days:   127,
		Year:   list(cal.Part{From: 2027, To: 2199, Step: 900}, cal.Part{From: 1970, To: 2199, Step: 1}),
		Month:  list(cal.Part{From: 3, To: 11, Step: 7}, cal.Part{From: 1, To: 1}, cal.Part{From: 1, To: 1}),
		Day:    list(cal.Part{From: 9, To: 31, Step: 4}, cal.Part{From: 1, To: 3, Step: 1}),
		End:    true,
		Hour:   list(cal.Part{From: 23, To: 23, Step: 5}, cal.Part{From: 2, To: 3, Step: 1}),
		Minute: list(cal.Part{From: 30, To: 59, Step: 15}, cal.Part{From: 0, To: 0}),
		Second: list(cal.Part{From: 30000001, To: 30000001}, cal.Part{From: 0, To: 0}),
	}
}

// whole are an expression's lists with what is behind their lengths.
func whole(s cal.Spec) [6][]cal.Part {
	lists := [6][]cal.Part{s.Year, s.Month, s.Day, s.Hour, s.Minute, s.Second}
	for i, l := range lists {
		lists[i] = l[:cap(l)]
	}
	return lists
}

// callAll calls all four, from all over.
func callAll(s cal.Spec, z *zone.Zone) {
	for _, n := range somewhere() {
		Local(s, n)
		First(s, z, n)
		After(s, z, n)
		Up(s, z, n, math.MaxInt64, 7)
	}
}

// P10.5: an expression is only read, what lies behind its lists' lengths with them.
func TestOnlyRead(t *testing.T) {
	z := ruled(t, middleOfEurope)
	s, want := roomy(), roomy()
	callAll(s, z)
	got, all := whole(s), whole(want)
	for i := range got {
		if !slices.Equal(got[i], all[i]) {
			t.Errorf("field %d: %v, not %v", i, got[i], all[i])
		}
	}
	if s.Days != want.Days || s.End != want.End || s.UTC != want.UTC {
		t.Errorf("%+v, not %+v", s, want)
	}
}

// P10.5: a zone is only read, and is the same behind all calls.
func TestZoneOnlyRead(t *testing.T) {
	f := func() tzif.Zone {
		return tzif.Zone{
			Types:  []tzif.Type{{Off: 3600, Abbr: "CET"}, {Off: 7200, Dst: true, Abbr: "CEST"}},
			Times:  []int64{-60000, 70000, 828234000, 846378000},
			Index:  []int{1, 0, 1, 0},
			Footer: middleOfEurope,
		}
	}
	z := made(t, f())
	before := z.Changes(-100000, 7000000000)
	callAll(roomy(), z)
	callAll(parsed(t, eachMicro), z)
	if !tzif.Same(z.Zone, f()) {
		t.Errorf("%+v", z.Zone)
	}
	if got := z.Changes(-100000, 7000000000); !slices.Equal(got, before) {
		t.Errorf("%s, not %s", told(got), told(before))
	}
}

// P10.5: an answer may be written over, and lengthened, without changing another one; and so may what was handed in.
func TestNewMemory(t *testing.T) {
	z := ruled(t, middleOfEurope)
	s := roomy()
	want := Up(s, z, 0, api.MaxTime, 40)
	if len(want) != 40 {
		t.Fatalf("%d instants", len(want))
	}
	one, two := Up(s, z, 0, api.MaxTime, 40), Up(s, z, 0, api.MaxTime, 40)
	for i := range one[:cap(one)] {
		one[:cap(one)][i] = -1
	}
	if !slices.Equal(two, want) {
		t.Errorf("%v, not %v", two, want)
	}
	upIs(t, s, z, 0, api.MaxTime, 40, want...)
	for _, list := range whole(s) {
		for i := range list {
			list[i] = cal.Part{From: 7, To: 7}
		}
	}
	if !slices.Equal(two, want) {
		t.Errorf("%v, not %v", two, want)
	}
	upIs(t, roomy(), z, 0, api.MaxTime, 40, want...)
}

// P10.1 to P10.5: the same again, whatever was asked between.
func TestAgain(t *testing.T) {
	z := ruled(t, middleOfEurope)
	s := parsed(t, "Sun *-3,10~1..7 1..3:0/20")
	want := Up(s, z, 0, api.MaxTime, math.MaxInt)
	for _, text := range []string{"daily", eachMicro, "*-2-30", "Sun *-3~1..7 2:*:*/0.000001"} {
		other := parsed(t, text)
		callAll(other, z)
		upIs(t, s, z, 0, api.MaxTime, math.MaxInt, want...)
		callAll(other, nil)
		afterIs(t, s, z, want[0], want[1])
		firstIs(t, s, z, want[1], true)
	}
}

// atOnce fails if something takes long: a fine expression that were gone through step by step would take hours.
func atOnce(t *testing.T, what string, do func()) {
	t.Helper()
	begin := time.Now()
	do()
	if took := time.Since(begin); took > 5*time.Second {
		t.Errorf("%s: %v", what, took)
	}
}

// P10.5: what matches nothing, and what is as fine as can be, ends at once: over gaps, over folds, and over all years.
func TestAtOnce(t *testing.T) {
	zones := []*zone.Zone{
		nil,
		ruled(t, middleOfEurope),
		turned(t, 93599, spring/1000000, -89999, autumn/1000000, 93599),
		turned(t, -89999, spring/1000000, 93599, autumn/1000000, -89999),
	}
	texts := append(neverTexts(),
		eachMicro, "*:*:0/0.000002", "*:*:59.999999", "2026-3-29 2:*:*/0.000001", "2026-10-25 2:*:*/0.000001",
		"Sun *-3~1..7 2:*:*/0.000001", "2199-12-31 23:59:59/0.000001", "2026-3-28..30 *:*:*/0.000001",
		"Mon *-*-* *:*:*/0.000003", "*-2-29 *:*:*/0.000001", "*-*~31 0/23:0/59:*/0.000001")
	for _, text := range texts {
		s := parsed(t, text)
		atOnce(t, text, func() {
			for _, z := range zones {
				callAll(s, z)
				for _, from := range []int64{spring - 1, spring, spring + 1, autumn - 1, autumn, autumn + 1} {
					After(s, z, from)
					Up(s, z, from, from+60*aDay, 50)
					First(s, z, from)
				}
			}
		})
	}
}

// P10.5: many answers come at once, too.
func TestManyAtOnce(t *testing.T) {
	z := ruled(t, middleOfEurope)
	const many = 1000000
	atOnce(t, "a million microseconds", func() {
		list := Up(parsed(t, eachMicro), z, autumn-many/2, api.MaxTime, many)
		for i, usec := range list {
			want := autumn - many/2 + 1 + int64(i)
			if want >= autumn {
				want += anHour
			}
			if usec != want {
				t.Fatalf("%d: %d, not %d", i, usec, want)
			}
		}
		if len(list) != many {
			t.Errorf("%d", len(list))
		}
	})
	atOnce(t, "After, and First, of each minute of ten days", func() {
		s := parsed(t, "*:*")
		usec := autumn - 5*aDay
		for range 10 * 24 * 60 {
			want := usec + aMinute
			if want == autumn {
				want += anHour
			}
			afterIs(t, s, z, usec, want)
			usec = want
		}
	})
}

// P10.5: a zone of as many changes as a file may have, all of them in some days, takes no time, either.
func TestZoneOfManyChanges(t *testing.T) {
	f := tzif.Zone{Types: []tzif.Type{{Off: 0, Abbr: "A"}, {Off: 93599, Abbr: "A"}, {Off: -89999, Abbr: "A"}}}
	for i := range 4000 {
		f.Times = append(f.Times, spring/1000000+int64(i)*61)
		f.Index = append(f.Index, (i+1)%3)
	}
	z := made(t, f)
	atOnce(t, "4000 changes", func() {
		for _, text := range []string{eachMicro, "2026-3-*", "2026-3-27..31 *:*:*/0.000001", "*-2-30", "*:0/30"} {
			s := parsed(t, text)
			list := Up(s, z, spring-1, spring+4*aDay, 1000)
			if !slices.IsSorted(list) || len(slices.Compact(slices.Clone(list))) != len(list) {
				t.Errorf("%q: %s", text, told(list))
			}
			for _, usec := range list[:min(len(list), 20)] {
				firstIs(t, s, z, usec, true)
			}
		}
	})
}

// P10.2 to P10.4: zones by hand, whatever they say: all calls end, and none panics.
func TestZonesByHand(t *testing.T) {
	offs := func(offs ...int) *zone.Zone {
		z := &zone.Zone{}
		for _, off := range offs {
			z.Types = append(z.Types, tzif.Type{Off: off})
		}
		return z
	}
	spoilt := ruled(t, middleOfEurope)
	spoilt.Types, spoilt.Times, spoilt.Index = nil, []int64{5, 4}, []int{9}
	turning := offs(math.MinInt, math.MaxInt)
	turning.Times, turning.Index = []int64{0, 1}, []int{1, 0}
	zones := []*zone.Zone{
		{}, spoilt, turning, offs(math.MaxInt), offs(math.MinInt), offs(1<<58, 0), offs(0, 1<<58), offs(-1<<58, 1<<58),
		offs(18446744073710), offs(-18446744073710), offs(7258118400), offs(-7258118400), offs(7258118399), offs(-7258118399), offs(7258118401, -7258118401),
	}
	for i, z := range zones {
		for _, s := range append(wrong(), parsed(t, "daily"), parsed(t, eachMicro), parsed(t, "*-2-30"), roomy()) {
			atOnce(t, "a zone by hand", func() { callAll(s, z) })
			for _, n := range somewhere() {
				list := Up(s, z, n, math.MaxInt64, 9)
				if !slices.IsSorted(list) || slices.ContainsFunc(list, func(usec int64) bool { return usec <= n || usec < 0 || usec >= api.MaxTime }) {
					t.Errorf("zone %d: %+v: Up(%d): %v", i, s, n, list)
				}
			}
		}
	}
	// A zone that is UTC, and such as are so far off that but one second, or none, is of the years that there are.
	s := parsed(t, eachMicro)
	afterIs(t, s, zones[0], -1, 0)
	afterIs(t, s, spoilt, autumn, autumn+1)
	afterIs(t, s, offs(7258118399), -1, 0)
	nothingAfter(t, s, offs(7258118399), 999999)
	nothingAfter(t, s, offs(7258118400), -1)
	afterIs(t, s, offs(-7258118399), -1, api.MaxTime-1000000)
	nothingAfter(t, s, offs(-7258118400), -1)
	// As many microseconds do not fit: what is left of them, if they go round, are 448384, or none.
	for _, off := range []int{18446744073710, -18446744073710, 1 << 58, -1 << 58, math.MaxInt, math.MinInt} {
		nothingAfter(t, s, offs(off), -1)
		firstIs(t, s, offs(off), autumn, false)
	}
}

// P10.1 to P10.4: the chapter's examples.
func TestExamples(t *testing.T) {
	z := ruled(t, middleOfEurope)
	afterIs(t, parsed(t, "daily"), nil, 0, 86400000000)
	nothingAfter(t, parsed(t, "*-2-30"), nil, 0)
	nothingAfter(t, parsed(t, "2026-3-29 2:30"), z, 0)
	afterIs(t, parsed(t, "2026-10-25 2:30"), z, 0, at(2026, 10, 25, 0, 30, 0, 0))
	nothingAfter(t, parsed(t, "2026-10-25 2:30"), z, at(2026, 10, 25, 0, 30, 0, 0))
}
