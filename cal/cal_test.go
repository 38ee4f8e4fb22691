package cal

import (
	"math"
	"slices"
	"strings"
	"testing"

	"clepsydra/api"
	"clepsydra/civil"
)

// same: are they the same, told apart by the tests' own way?
func same(a, b Spec) bool {
	for _, k := range kinds() {
		x, y := *k.of(&a), *k.of(&b)
		if len(x) != len(y) {
			return false
		}
		for i := range x {
			if x[i] != y[i] {
				return false
			}
		}
	}
	return a.Days == b.Days && a.End == b.End && a.UTC == b.UTC
}

// one is a part of a number alone.
func one(n int64) []Part { return []Part{{n, n, 0}} }

// daily is a right expression: each day, at its beginning.
func daily() Spec { return Spec{Hour: one(0), Minute: one(0), Second: one(0)} }

// with is daily with other parts in one field.
func with(k kind, parts ...Part) Spec {
	s := daily()
	*k.of(&s) = parts
	return s
}

// isWrong fails unless an expression is not right, has neither a normal form nor a text, and matches nothing.
func isWrong(t *testing.T, s Spec) {
	t.Helper()
	if Right(s) {
		t.Errorf("%+v is right", s)
	}
	if n, err := Normal(s); err != api.ErrArg || !same(n, Spec{}) {
		t.Errorf("%+v: normal %+v, %d", s, n, err)
	}
	if text, err := Text(s); err != api.ErrArg || text != "" {
		t.Errorf("%+v: %q, %d", s, text, err)
	}
}

// normalIs fails unless an expression has that normal form, which is its own.
func normalIs(t *testing.T, s, want Spec) {
	t.Helper()
	if !Right(s) {
		t.Errorf("%+v is not right", s)
	}
	for _, x := range []Spec{s, want} {
		if n, err := Normal(x); err != api.OK || !same(n, want) {
			t.Errorf("%+v: normal %+v, %d, not %+v", x, n, err, want)
		}
	}
}

// textIs fails unless an expression, and its normal form, have that text, which tells the normal form.
func textIs(t *testing.T, s Spec, want string) {
	t.Helper()
	n, err := Normal(s)
	if err != api.OK {
		t.Errorf("%+v: %d", s, err)
	}
	for _, x := range []Spec{s, n} {
		if text, err := Text(x); err != api.OK || text != want {
			t.Errorf("%+v: %q, %d, not %q", x, text, err, want)
		}
	}
	parsedIs(t, want, n)
}

// parsedIs fails unless a text tells that expression.
func parsedIs(t *testing.T, text string, want Spec) {
	t.Helper()
	got, err := Parse(text)
	if err != api.OK || !same(got, want) {
		t.Errorf("%q: %+v, %d, not %+v", text, got, err, want)
	}
	if !Right(got) || !Same(got, want) {
		t.Errorf("%q: %+v is not right, or not the same", text, got)
	}
}

// isNone fails unless a text tells nothing.
func isNone(t *testing.T, text string) {
	t.Helper()
	if got, err := Parse(text); err != api.ErrCal || !same(got, Spec{}) {
		t.Errorf("%q: %+v, %d", text, got, err)
	}
}

// matchIs fails unless an expression, and its normal form, match a time, or not.
func matchIs(t *testing.T, s Spec, c civil.Clock, want bool) {
	t.Helper()
	if got := Match(s, c); got != want {
		t.Errorf("%+v at %v: %v", s, c, got)
	}
	if n, err := Normal(s); err == api.OK && Match(n, c) != want {
		t.Errorf("%+v, the normal form, at %v: %v", n, c, !want)
	}
}

// P9.1: each field at the bounds of From and To, and one beyond them.
func TestRightNumbers(t *testing.T) {
	for _, k := range kinds() {
		for p, right := range map[Part]bool{
			{k.low, k.low, 0}:                 true,
			{k.high, k.high, 0}:               true,
			{k.low, k.high, 1}:                true,
			{k.low, k.high, k.unit}:           true,
			{k.low - 1, k.low - 1, 0}:         false,
			{k.high + 1, k.high + 1, 0}:       false,
			{k.low - 1, k.high, 1}:            false,
			{k.low, k.high + 1, 1}:            false,
			{k.low + 1, k.low + 1, 1}:         true,
			{k.low + 1, k.low, 1}:             false,
			{k.low + 1, k.low, 0}:             false,
			{k.high, k.low, 1}:                false,
			{math.MinInt64, k.low, 1}:         false,
			{k.low, math.MaxInt64, 1}:         false,
			{math.MaxInt64, math.MinInt64, 1}: false,
			{math.MinInt64, math.MaxInt64, 1}: false,
		} {
			rightIs(t, with(k, p), right)
			rightIs(t, with(k, Part{k.low, k.low, 0}, p), right)
			rightIs(t, with(k, p, Part{k.high, k.high, 0}), right)
		}
	}
}

// P9.1: no Step, with To as From and not; Steps at 0 and below, and great ones.
func TestRightSteps(t *testing.T) {
	for _, k := range kinds() {
		for p, right := range map[Part]bool{
			{k.low, k.low + 1, 0}:               false,
			{k.low, k.high, 0}:                  false,
			{k.low, k.low + 1, 1}:               true,
			{k.low, k.low + 1, 2}:               true,
			{k.low, k.low, 1}:                   true,
			{k.low, k.high, k.high - k.low}:     true,
			{k.low, k.high, k.high - k.low + 1}: true,
			{k.low, k.high, math.MaxInt64}:      true,
			{k.high, k.high, math.MaxInt64}:     true,
			{k.low, k.low, -1}:                  false,
			{k.low, k.high, -1}:                 false,
			{k.low, k.high, math.MinInt64}:      false,
			{k.low, k.low, math.MinInt64}:       false,
		} {
			rightIs(t, with(k, p), right)
		}
	}
}

func rightIs(t *testing.T, s Spec, right bool) {
	t.Helper()
	if !right {
		isWrong(t, s)
	} else if !Right(s) {
		t.Errorf("%+v is not right", s)
	}
}

// P9.1: how many parts a field may have.
func TestRightParts(t *testing.T) {
	for _, k := range kinds() {
		for n, right := range map[int]bool{0: k.name != "second", 1: true, 19: true, 20: true, 21: false, 22: false, 3000: false} {
			parts := make([]Part, n)
			for i := range parts {
				parts[i] = Part{k.low, k.high, 2}
			}
			rightIs(t, with(k, parts...), right)
		}
		s := daily()
		*k.of(&s) = []Part{}
		rightIs(t, s, k.name != "second")
	}
	isWrong(t, Spec{})
	isWrong(t, Spec{Days: 1, End: true, UTC: true})
	rightIs(t, Spec{Second: one(0)}, true)
}

// P9.1, P9.2: days of the week, with and without the rest.
func TestRightDays(t *testing.T) {
	for days := range 256 {
		s := daily()
		s.Days, s.End, s.UTC = uint8(days), days%2 == 1, days%3 == 1
		if days >= 128 {
			isWrong(t, s)
			continue
		}
		want := s
		if days == 127 {
			want.Days = 0
		}
		normalIs(t, s, want)
	}
}

// P9.2: parts in any order, told twice, and those that differ in one number alone.
func TestNormalOrder(t *testing.T) {
	for _, k := range kinds() {
		u := k.unit
		sorted := []Part{
			{k.low, k.low, 0}, {k.low, k.low + u, 1}, {k.low, k.low + 2*u, u}, {k.low, k.low + 2*u, 2 * u}, {k.low, k.low + 3*u, u},
			{k.low + u, k.low + u, 0}, {k.low + u, k.low + 2*u, 1}, {k.low + 2*u, k.low + 2*u, 0}, {k.high, k.high, 0},
		}
		l := newLot(2)
		for range 60 {
			var parts []Part
			parts = append(parts, sorted...)
			for range l.Intn(10) {
				parts = append(parts, sorted[l.Intn(len(sorted))])
			}
			l.Shuffle(len(parts), func(i, j int) { parts[i], parts[j] = parts[j], parts[i] })
			normalIs(t, with(k, parts...), with(k, sorted...))
		}
		for _, p := range sorted {
			normalIs(t, with(k, p, p), with(k, p))
			normalIs(t, with(k, slices.Repeat([]Part{p}, 20)...), with(k, p))
		}
	}
}

// P9.2: a Step just at To less From, below it, and above it.
func TestNormalSteps(t *testing.T) {
	for _, k := range kinds() {
		for _, x := range []struct{ from, to int64 }{{k.low, k.high}, {k.low, k.low + 3}, {k.high - 2, k.high}, {k.low + 4, k.low + 6}} {
			alone, far := one(x.from), x.to-x.from
			for step, stays := range map[int64]bool{1: true, far - 1: true, far: true, far + 1: false, far + 2: false, math.MaxInt64: false} {
				p := Part{x.from, x.to, step}
				want := alone
				if stays {
					want = []Part{p}
				}
				normalIs(t, with(k, p), with(k, want...))
			}
		}
		normalIs(t, with(k, Part{k.low, k.low, 1}), with(k, one(k.low)...))
		normalIs(t, with(k, Part{k.high, k.high, math.MaxInt64}), with(k, one(k.high)...))
		// What is a number alone is so ahead of the order, and of telling it once.
		normalIs(t, with(k, Part{k.low, k.high, math.MaxInt64}, Part{k.low, k.low, 0}, Part{k.low, k.low + 1, 7}), with(k, one(k.low)...))
		normalIs(t, with(k, Part{k.low, k.low + 1, 1}, Part{k.low, k.low + 2, 3}), with(k, Part{k.low, k.low, 0}, Part{k.low, k.low + 1, 1}))
	}
}

// P9.2: a normal form has what it had beside its parts, and no part where there is none.
func TestNormalRest(t *testing.T) {
	s := Spec{Days: 5, Year: []Part{}, Day: []Part{}, End: true, Second: one(7), UTC: true}
	n, err := Normal(s)
	if err != api.OK || !same(n, Spec{Days: 5, End: true, Second: one(7), UTC: true}) {
		t.Errorf("%+v, %d", n, err)
	}
	for _, k := range kinds() {
		p := Part{k.low, k.high, k.unit}
		normalIs(t, with(k, p), with(k, p))
	}
}

// P9.3: days alone, in rows of two and of three, over the week's end; and the whole of them.
func TestTextDays(t *testing.T) {
	for days, want := range map[uint8]string{
		0: "", 127: "", 1: "Mon ", 2: "Tue ", 4: "Wed ", 8: "Thu ", 16: "Fri ", 32: "Sat ", 64: "Sun ",
		1 | 2: "Mon,Tue ", 32 | 64: "Sat,Sun ", 1 | 4: "Mon,Wed ", 1 | 64: "Mon,Sun ",
		1 | 2 | 4: "Mon..Wed ", 16 | 32 | 64: "Fri..Sun ", 2 | 4 | 8: "Tue..Thu ",
		1 | 2 | 8 | 16: "Mon,Tue,Thu,Fri ", 1 | 2 | 4 | 16 | 32 | 64: "Mon..Wed,Fri..Sun ", 1 | 32 | 64: "Mon,Sat,Sun ", 1 | 2 | 64: "Mon,Tue,Sun ",
		1 | 16 | 32 | 64: "Mon,Fri..Sun ", 1 | 2 | 4 | 8: "Mon..Thu ", 8 | 16 | 32 | 64: "Thu..Sun ",
		63: "Mon..Sat ", 126: "Tue..Sun ", 1 | 4 | 16 | 64: "Mon,Wed,Fri,Sun ", 2 | 4 | 8 | 32: "Tue..Thu,Sat ", 1 | 4 | 8 | 16: "Mon,Wed..Fri ",
	} {
		s := daily()
		s.Days = days
		textIs(t, s, want+"*-*-* 00:00:00")
	}
	for days := range 128 {
		s := daily()
		s.Days = uint8(days)
		n, _ := Normal(s)
		textIs(t, s, plainText(n))
	}
}

// P9.3: each form of a field's text.
func TestTextFields(t *testing.T) {
	for _, x := range []struct {
		s    Spec
		want string
	}{
		{Spec{Second: one(0)}, "*-*-* *:*:00"},
		{daily(), "*-*-* 00:00:00"},
		{Spec{End: true, Second: one(0)}, "*-*~* *:*:00"},
		{Spec{End: true, Month: one(2), Day: one(1), Second: one(0)}, "*-02~01 *:*:00"},
		{Spec{UTC: true, Second: one(0)}, "*-*-* *:*:00 UTC"},
		{Spec{Days: 64, End: true, UTC: true, Second: one(0)}, "Sun *-*~* *:*:00 UTC"},
		{Spec{Year: one(1970), Month: one(1), Day: one(1), Hour: one(0), Minute: one(0), Second: one(0)}, "1970-01-01 00:00:00"},
		{Spec{Year: one(2199), Month: one(12), Day: one(31), Hour: one(23), Minute: one(59), Second: one(59000000)}, "2199-12-31 23:59:59"},
		{Spec{Month: one(9), Day: one(9), Hour: one(9), Minute: one(9), Second: one(9000000)}, "*-09-09 09:09:09"},
		{Spec{Month: one(10), Day: one(10), Hour: one(10), Minute: one(10), Second: one(10000000)}, "*-10-10 10:10:10"},
		{Spec{Year: []Part{{2000, 2001, 1}}, Month: []Part{{1, 12, 1}}, Day: []Part{{2, 3, 1}}, Second: one(0)}, "2000..2001-01..12-02..03 *:*:00"},
		{Spec{Year: []Part{{2000, 2199, 1}}, Hour: []Part{{0, 23, 1}}, Minute: []Part{{0, 59, 1}}, Second: one(0)}, "2000..2199-*-* 00..23:00..59:00"},
		{Spec{Year: []Part{{1970, 2199, 1}}, Day: []Part{{1, 31, 1}}, Second: one(0)}, "1970..2199-*-01..31 *:*:00"},
		{Spec{Year: []Part{{1970, 2199, 2}}, Month: []Part{{1, 12, 2}}, Day: []Part{{1, 31, 2}}, Hour: []Part{{0, 23, 2}}, Minute: []Part{{0, 59, 2}}, Second: []Part{{0, 59999999, 2000000}}}, "1970/2-01/2-01/2 00/2:00/2:00/2"},
		{Spec{Year: []Part{{1970, 2198, 2}}, Month: []Part{{1, 11, 2}}, Day: []Part{{1, 30, 2}}, Hour: []Part{{0, 22, 2}}, Minute: []Part{{0, 58, 2}}, Second: []Part{{0, 59999998, 2000000}}}, "1970..2198/2-01..11/2-01..30/2 00..22/2:00..58/2:00..59.999998/2"},
		{Spec{Year: []Part{{1971, 2199, 10}}, Month: []Part{{2, 12, 10}}, Day: []Part{{3, 31, 10}}, Hour: []Part{{4, 23, 10}}, Minute: []Part{{5, 59, 10}}, Second: []Part{{6000000, 59999999, 10000000}}}, "1971/10-02/10-03/10 04/10:05/10:06/10"},
		{Spec{Year: []Part{{1970, 2199, 229}}, Minute: []Part{{0, 59, 59}}, Second: one(0)}, "1970/229-*-* *:00/59:00"},
		{Spec{Year: one(2000), Hour: []Part{{1, 1, 0}, {1, 3, 1}, {1, 3, 2}, {1, 23, 2}, {5, 5, 0}}, Second: one(0)}, "2000-*-* 01,01..03,01..03/2,01/2,05:*:00"},
		{Spec{Hour: []Part{{7, 23, 17}, {3, 5, 9}, {3, 3, 0}, {2, 3, 1}}, Second: one(0)}, "*-*-* 02..03,03,07:*:00"},
	} {
		textIs(t, x.s, x.want)
	}
}

// P9.3: seconds with a rest, with noughts behind it and ahead of it, and without.
func TestTextSeconds(t *testing.T) {
	for p, want := range map[Part]string{
		{0, 0, 0}:                     "00",
		{1, 1, 0}:                     "00.000001",
		{10, 10, 0}:                   "00.00001",
		{100000, 100000, 0}:           "00.1",
		{123456, 123456, 0}:           "00.123456",
		{500000, 500000, 0}:           "00.5",
		{999999, 999999, 0}:           "00.999999",
		{1000000, 1000000, 0}:         "01",
		{1000001, 1000001, 0}:         "01.000001",
		{9000000, 9000000, 0}:         "09",
		{9900000, 9900000, 0}:         "09.9",
		{10000000, 10000000, 0}:       "10",
		{30120300, 30120300, 0}:       "30.1203",
		{59999999, 59999999, 0}:       "59.999999",
		{59999990, 59999990, 0}:       "59.99999",
		{0, 59999999, 1000000}:        "*",
		{0, 59999998, 1000000}:        "00..59.999998",
		{0, 59000000, 1000000}:        "00..59",
		{1, 59999999, 1000000}:        "00.000001..59.999999",
		{1000000, 59999999, 1000000}:  "01..59.999999",
		{0, 59999999, 1}:              "00/0.000001",
		{0, 59999999, 10}:             "00/0.00001",
		{0, 59999999, 250000}:         "00/0.25",
		{0, 59999999, 999999}:         "00/0.999999",
		{0, 59999999, 1000001}:        "00/1.000001",
		{0, 59999999, 1500000}:        "00/1.5",
		{0, 59999999, 2000000}:        "00/2",
		{0, 59999999, 9000000}:        "00/9",
		{0, 59999999, 10000000}:       "00/10",
		{0, 59999999, 10100000}:       "00/10.1",
		{0, 59999999, 59999999}:       "00/59.999999",
		{0, 59999999, 60000000}:       "00",
		{2500000, 2750000, 250000}:    "02.5..02.75/0.25",
		{2500000, 3500000, 1000000}:   "02.5..03.5",
		{2500000, 3499999, 1000000}:   "02.5",
		{59999998, 59999999, 1}:       "59.999998/0.000001",
		{1000000, 58999999, 57999999}: "01..58.999999/57.999999",
	} {
		textIs(t, Spec{Second: []Part{p}}, "*-*-* *:*:"+want)
	}
	whole := Part{0, 59999999, 1000000}
	textIs(t, Spec{Second: []Part{whole, {500000, 500000, 0}}}, "*-*-* *:*:00..59.999999,00.5")
	textIs(t, Spec{Second: []Part{whole, {0, 0, 0}}}, "*-*-* *:*:00,00..59.999999")
	textIs(t, Spec{Second: []Part{{0, 59999999, 500000}, whole}}, "*-*-* *:*:00/0.5,00..59.999999")
	textIs(t, Spec{Second: []Part{whole, whole, whole}}, "*-*-* *:*:*")
}

// P9.3, P9.4: an expression with as many parts as there may be, in each field, as long as they are.
func TestTextLongest(t *testing.T) {
	var s Spec
	for _, k := range kinds() {
		for i := range int64(20) {
			high := k.high - i%5 - 1
			if k.unit > 1 {
				high = k.high - i - 1
			}
			*k.of(&s) = append(*k.of(&s), Part{k.low + i/5, high, 2 + i/5})
		}
	}
	n, err := Normal(s)
	if err != api.OK {
		t.Fatal(err)
	}
	textIs(t, s, plainText(n))
	if len(n.Second) != 20 || len(n.Year) != 20 || len(plainText(n)) < 900 {
		t.Error("not the longest")
	}
}

// told is what a text tells, by the text of its normal form.
func told(t *testing.T, text, want string) {
	t.Helper()
	s, err := Parse(text)
	if err != api.OK {
		t.Errorf("%q: %d, not %q", text, err, want)
		return
	}
	textIs(t, s, want)
	if plain, ok := plainParse(text); !ok || !same(s, plain) {
		t.Errorf("%q: %+v, but by patterns %+v", text, s, plain)
	}
}

// P9.4: days in any order, more than once, written out, in small and great letters, in ranges that go round.
func TestParseDays(t *testing.T) {
	for text, want := range map[string]string{
		"Mon": "Mon", "tue": "Tue", "WED": "Wed", "tHu": "Thu", "Friday": "Fri", "SATURDAY": "Sat", "sunday": "Sun", "mONDAY": "Mon",
		"Tuesday": "Tue", "wednesday": "Wed", "ThursDay": "Thu", "Sat": "Sat", "Sun": "Sun", "fri": "Fri", "Saturday": "Sat", "Monday": "Mon",
		"Wed,Mon": "Mon,Wed", "Mon,Mon,monday": "Mon", "Wed,Tue,Mon": "Mon..Wed", "Mon,Tue": "Mon,Tue",
		"Mon..Tue": "Mon,Tue", "Mon..Wed": "Mon..Wed", "Mon..Mon": "Mon", "Sun..sunday": "Sun",
		"Sat..Tue": "Mon,Tue,Sat,Sun", "Sun..Mon": "Mon,Sun", "Tue..Mon": "", "Mon..Sun": "", "Sun..Sat": "", "Wed..Mon": "Mon,Wed..Sun",
		"Sat..Mon": "Mon,Sat,Sun", "Friday..MONDAY,Wed": "Mon,Wed,Fri..Sun", "Mon..Wed,Tue..Thu": "Mon..Thu", "Mon..Fri,Sat,Sun": "",
		"Sat..Mon,Tue..Thu,Fri": "", "Fri..Sat,Sat..Sun": "Fri..Sun",
	} {
		if want != "" {
			want += " "
		}
		told(t, text, want+"*-*-* 00:00:00")
		told(t, text+" 1:2", want+"*-*-* 01:02:00")
		told(t, text+" 3-4", want+"*-03-04 00:00:00")
		told(t, text+" *~4 5:6:7 UTC", want+"*-*~04 05:06:07 UTC")
	}
	for _, text := range []string{
		"M", "Mo", "Mond", "Monda", "Mondays", "Tues", "Thur", "Thurs", "Weds", "Mon.", "Mon,", ",Mon", "Mon,,Tue", "Mon..", "..Mon", "Mon...Tue", "Mon.Tue",
		"Mon..Tue..Wed", "Mon-Tue", "Mon/2", "Mon..Tue/2", "Mon Tue", "Mon, Tue", "Mon ,Tue", "Mon .. Tue", "Mon..Xyz", "Xyz..Mon", "Xyz", "*..Mon", "1", "1..2", "Mon,1", "Mon*",
		"Mon:0", "Mon:00:00", "Mon-1", "1-Mon", "1:Mon", "\u017Fun", "\u017Fat", "mon\u200b", "Sun\x00", "\x00Sun", "Sun\n", "Sun\r", "\vSun", "\u00a0Sun",
	} {
		isNone(t, text)
		isNone(t, text+" *-*-* 0:0:0")
	}
}

// P9.4: no date, a date of month and day alone, no time, no seconds; each alone, and together.
func TestParseLeftOut(t *testing.T) {
	for text, want := range map[string]string{
		"2-29": "*-02-29 00:00:00", "2~29": "*-02~29 00:00:00", "*-*": "*-*-* 00:00:00", "*~*": "*-*~* 00:00:00", "*-5": "*-*-05 00:00:00", "12-*": "*-12-* 00:00:00", "*~1": "*-*~01 00:00:00",
		"2026-2-29": "2026-02-29 00:00:00", "2026-2~29": "2026-02~29 00:00:00", "*-2-29": "*-02-29 00:00:00", "2026-*-*": "2026-*-* 00:00:00", "*-*-*": "*-*-* 00:00:00", "*-*~*": "*-*~* 00:00:00",
		"1:2": "*-*-* 01:02:00", "1:2:3": "*-*-* 01:02:03", "*:*": "*-*-* *:*:00", "*:*:*": "*-*-* *:*:*", "1:*": "*-*-* 01:*:00", "*:1": "*-*-* *:01:00", "*:1:*": "*-*-* *:01:*",
		"2-29 1:2": "*-02-29 01:02:00", "2026-2~29 1:2:3": "2026-02~29 01:02:03", "2026-2-29 1:2 UTC": "2026-02-29 01:02:00 UTC", "1:2 UTC": "*-*-* 01:02:00 UTC", "2-29 UTC": "*-02-29 00:00:00 UTC", "Mon UTC": "Mon *-*-* 00:00:00 UTC",
		"Mon 1:2 UTC": "Mon *-*-* 01:02:00 UTC", "Mon 2-3 UTC": "Mon *-02-03 00:00:00 UTC", "Mon *-*-*": "Mon *-*-* 00:00:00",
	} {
		told(t, text, want)
	}
	for _, text := range []string{
		"", " ", "\t", "     ", "UTC", " UTC ", "UTC UTC", "Mon UTC UTC", "UTC Mon", "Mon UTC 1:2", "1:2 UTC 2-3", "UTC 1:2", "utc", "Mon utc", "Mon Utc", "MonUTC", "1:2UTC", "2-3UTC", "Mon GMT", "1:2 CET", "1:2 Z", "1:2 UTC+1", "1:2 UTC,",
		"*", "* *", "5", "2026", "* 1:2", "1:2 *", "-", "~", ":", "::", "--", "-~", "*-", "-*", "*~", "~*", ":*", "*:", "*:*:", ":*:*", "*::*", "*--*", "*-*-", "-*-*", "*-~*", "*~~*", "*~*-*", "*~*~*", "*-*-*-*", "*-*~*~*", "*-*~*-*", "*:*:*:*", "*:*-*", "*-*:*", "*-*-*:*:*", "*:*~*",
		"1:2 3-4", "1:2 Mon", "3-4 Mon", "3-4 Mon 1:2", "Mon 1:2 3-4", "1:2 3:4", "1-2 3-4", "1-2 1:2 1:2", "Mon Mon", "Mon 1-2 1:2 3", "2026-1-1T1:2", "2026-1-1 T1:2", "2026-1-1 1:2:3Z", "2026/1/1", "2026.1.1", "1.2", "*-1-1\n1:2", "*-1-1\r1:2", "*-1-1\u00a01:2", "*-1 -1", "* -1-1", "1: 2", "1 :2", "- 1-1",
		"never", "@0", "2026-01-01 00:00:00+00:00", "-1-1", "+1-1", "1-+1", "1--1", "1:-1", "1:+1", "1:1e0", "0x1:0", "1_0:0", "\uff11:0", "1:0\x00", "\x00", "\xff", "\xff:0",
	} {
		isNone(t, text)
	}
}

// P9.4: several blanks in place of one, and blanks ahead and behind.
func TestParseBlanks(t *testing.T) {
	for _, gap := range []string{" ", "  ", "        ", "\t", " \t ", "\t\t"} {
		rows := []string{"Mon..Wed", "2026-1-2", "3:4:5", "UTC"}
		const want = "Mon..Wed 2026-01-02 03:04:05 UTC"
		told(t, strings.Join(rows, gap), want)
		told(t, gap+strings.Join(rows, " "), want)
		told(t, strings.Join(rows, " ")+gap, want)
		told(t, gap+strings.Join(rows, gap)+gap, want)
		told(t, gap+"daily"+gap, "*-*-* 00:00:00")
		told(t, gap+"daily"+gap+"UTC"+gap, "*-*-* 00:00:00 UTC")
		for i := range rows {
			row := rows[i]
			for at := 1; at < len(row); at++ {
				rows[i] = row[:at] + gap + row[at:]
				isNone(t, strings.Join(rows, " "))
			}
			rows[i] = row
		}
		for at := 1; at < len("daily"); at++ {
			isNone(t, "daily"[:at]+gap+"daily"[at:])
		}
	}
	isNone(t, "Mon..Wed2026-1-23:4:5")
	isNone(t, "Mon 2026-1-23:4:5")
}

// inField is a text that has that in one field.
func inField(k kind, text string) string {
	switch k.name {
	case "year":
		return text + "-*-* 0:0"
	case "month":
		return "*-" + text + "-* 0:0"
	case "day":
		return "*-*-" + text + " 0:0"
	case "hour":
		return text + ":0"
	case "minute":
		return "0:" + text
	}
	return "0:0:" + text
}

// P9.4: numbers of one to six digits, and of seven; of each field those at its bounds, and one beyond.
func TestParseNumbers(t *testing.T) {
	for _, k := range kinds() {
		low, high := k.low/k.unit, k.high/k.unit
		for n, ok := range map[int64]bool{low - 1: false, low: true, low + 1: true, high - 1: true, high: true, high + 1: false, high + 100: false, 999999: false} {
			for long := range 10 {
				digits := plainDigits(n, long)
				if digits == "" {
					continue
				}
				text := inField(k, digits)
				if ok && len(digits) <= 6 {
					parsedIs(t, text, with(k, one(n*k.unit)...))
				} else {
					isNone(t, text)
				}
			}
		}
		for _, text := range []string{"", "-1", "+1", "-0", " ", "a", "0x1", "1e1", "1_1", "1a", "a1", "\u0661", "\uff11", "1\x00", "0000000", "00000000000000000000000000000000000001", "18446744073709551617", "99999999999999999999"} {
			isNone(t, inField(k, text))
			isNone(t, inField(k, "*/"+text))
			isNone(t, inField(k, text+"/1"))
			isNone(t, inField(k, text+".."+plainDigits(high, 1)))
			isNone(t, inField(k, plainDigits(low, 1)+".."+text))
			isNone(t, inField(k, plainDigits(low, 1)+","+text))
		}
	}
}

// plainDigits are a number's with noughts ahead, so many in all; nothing, if that is too few, or it is below 0.
func plainDigits(n int64, long int) string {
	digits := ""
	for rest := n; rest > 0 || digits == ""; rest /= 10 {
		digits = string(rune('0'+rest%10)) + digits
	}
	if n < 0 || long == 0 || len(digits) > long && long > 1 {
		return ""
	}
	return strings.Repeat("0", max(long-len(digits), 0)) + digits
}

// P9.4: the digits behind a second's point, which no other field has.
func TestParseRests(t *testing.T) {
	for text, n := range map[string]int64{
		"0.0": 0, "0.5": 500000, "0.50": 500000, "0.500000": 500000, "0.000001": 1, "0.00001": 10, "0.100000": 100000, "59.999999": 59999999, "000059.999999": 59999999, "07.250": 7250000, "1.000000": 1000000, "59.0": 59000000, "0.0000": 0, "12.345678": 12345678,
	} {
		parsedIs(t, "0:0:"+text, with(kinds()[5], one(n)...))
		for _, k := range kinds()[:5] {
			for _, x := range []string{text, text + "/1", "*/" + text, text + "..12", "1.." + text} {
				isNone(t, inField(k, x))
			}
		}
	}
	for _, text := range []string{".", "0.", ".0", ".5", "1.5.", "1.5.5", "1..", "..1", "1...", "1...2", "0.0000000", "0.0000001", "0.5000000", "0.1234567", "1. 5", "1 .5", "1.-5", "1.+5", "1.a", "1,5.", "0000000.5", "1.5e1", "60.0", "59.9999999", "60.000000", "1:5", "1,.5", "1/.5", "1/5.", "1/5.0000000"} {
		isNone(t, "0:0:"+text)
	}
}

// P9.4: */ and a Step, a number / and a Step, .. without and with a Step, and parts in any order.
func TestParseParts(t *testing.T) {
	for _, k := range kinds() {
		u := k.unit
		a, b, c := k.low+u, k.low+4*u, k.high/u*u
		x, y, z := plainDigits(a/u, 1), plainDigits(b/u, 1), plainDigits(c/u, 1)
		for text, want := range map[string][]Part{
			"*/1":               {{k.low, k.high, u}},
			"*/2":               {{k.low, k.high, 2 * u}},
			"*/000002":          {{k.low, k.high, 2 * u}},
			"*/999999":          one(k.low),
			x + "/1":            {{a, k.high, u}},
			x + "/2":            {{a, k.high, 2 * u}},
			x + "/999999":       one(a),
			x + ".." + y:        {{a, b, u}},
			x + ".." + z:        {{a, c, u}},
			x + ".." + x:        one(a),
			x + ".." + y + "/1": {{a, b, u}},
			x + ".." + y + "/2": {{a, b, 2 * u}},
			x + ".." + y + "/3": {{a, b, 3 * u}},
			x + ".." + y + "/4": one(a),
			x + ".." + x + "/1": one(a),
			y + "," + x:         {{a, a, 0}, {b, b, 0}},
			y + "," + x + "," + y + "," + x + ".." + x: {{a, a, 0}, {b, b, 0}},
			y + "," + x + "/2,*/2," + x + ".." + y:     {{k.low, k.high, 2 * u}, {a, b, u}, {a, k.high, 2 * u}, {b, b, 0}},
			y + "/7,*/3":                               {{k.low, k.high, 3 * u}, {b, k.high, 7 * u}},
		} {
			n, err := Normal(with(k, want...))
			if err != api.OK {
				t.Fatal(err)
			}
			parsedIs(t, inField(k, text), n)
		}
		for _, text := range []string{
			y + ".." + x, z + ".." + x, y + ".." + x + "/1", "*/0", x + "/0", z + "/0", x + ".." + y + "/0", x + ".." + x + "/0", z + ".." + z + "/0", "*/000000", x + "/00",
			"*" + x, x + "*", "*..*", "*.." + x, x + "..*", "*.." + x + "/2", "*,*", "*," + x, x + ",*", "*/*", x + "/*", "*/", x + "/", "/2", "*//2", x + "//2", "*/2/2", x + "/2/2", x + "/2.." + y, x + "/" + x + "..2",
			x + "..", ".." + x, x + ".." + y + "..", x + ".." + y + ".." + z, x + "." + y + "a", x + "...." + y, x + ".." + y + "/", x + "../2", "../2", "..", "/", ",", x + ",", "," + x, x + ",," + y, x + ";" + y, x + "|" + y, x + "-", "~" + x, x + "~", "**", "**/2", "?", x + "/-1", x + "/+1", x + "..-1", "*/1000000", "*/0000001", x + "/1000000", x + " /2", x + "/ 2", x + " .." + y, x + ".. " + y, x + ", " + y,
		} {
			isNone(t, inField(k, text))
		}
	}
	parsedIs(t, "0:0:*", with(kinds()[5], Part{0, 59999999, 1000000}))
	told(t, "0:0:*/0.000001", "*-*-* 00:00:00/0.000001")
	told(t, "0:0:5..5.5", "*-*-* 00:00:05")
	told(t, "0:0:5..6.5", "*-*-* 00:00:05..06.5")
	told(t, "0:0:5.5..7", "*-*-* 00:00:05.5..07")
	told(t, "0:0:5.5..7.5/0.5", "*-*-* 00:00:05.5..07.5/0.5")
	told(t, "0:0:00..59.999999", "*-*-* 00:00:*")
	told(t, "0:0:*/1,*/1", "*-*-* 00:00:*")
	told(t, "0:0:59.999999/1", "*-*-* 00:00:59.999999")
	isNone(t, "0:0:59.999999/0")
	isNone(t, "0:0:59.999999/0.000000")
	isNone(t, "0:0:0/0.0")
	isNone(t, "0:0:5.5..5")
	isNone(t, "0:0:0..60")
	isNone(t, "0:0:0..59/0.0000001")
}

// P9.4: as many parts as a field may have, and one more, whether they are told once or not.
func TestParseManyParts(t *testing.T) {
	for _, k := range kinds() {
		first := plainDigits(k.low/k.unit, 1)
		row := slices.Repeat([]string{first}, 20)
		parsedIs(t, inField(k, strings.Join(row, ",")), with(k, one(k.low)...))
		isNone(t, inField(k, strings.Join(append(row, first), ",")))
		var parts []Part
		for i := range row {
			n := k.low + int64(i%10)*k.unit
			row[i], parts = plainDigits(n/k.unit, 1), append(parts, Part{n, n, 0})
			if i >= 10 {
				row[i] += "/1"
				parts[i] = Part{n, k.high, k.unit}
			}
		}
		want, err := Normal(with(k, parts...))
		if err != api.OK || len(*k.of(&want)) != 20 {
			t.Fatalf("%+v, %d", want, err)
		}
		parsedIs(t, inField(k, strings.Join(row, ",")), want)
		isNone(t, inField(k, strings.Join(append(row, "*/2"), ",")))
	}
	days := strings.Repeat("Mon,", 500)
	told(t, days+"tue", "Mon,Tue *-*-* 00:00:00")
}

// P9.4: as many bytes as a text may have, and one more.
func TestParseLength(t *testing.T) {
	for _, text := range []string{"daily", "Mon 2026-1-1 1:2:3 UTC", "0:0"} {
		want, err := Parse(text)
		if err != api.OK {
			t.Fatal(err)
		}
		gap := strings.Repeat(" ", 4000-len(text))
		parsedIs(t, gap+text, want)
		parsedIs(t, text+gap, want)
		parsedIs(t, gap[1:]+text+" ", want)
		isNone(t, gap+text+" ")
		isNone(t, " "+gap+text)
		isNone(t, text+gap+"\t")
		isNone(t, strings.Repeat(gap, 20)+text)
	}
	days := strings.Repeat("Mon,", 1000)
	told(t, days[:3999], "Mon *-*-* 00:00:00")
	isNone(t, days)
}

// P9.4: each word, in small and great letters, with UTC and without.
func TestParseWords(t *testing.T) {
	for word, want := range plainWords {
		for _, x := range []string{word, strings.ToUpper(word), strings.ToUpper(word[:1]) + word[1:], word[:2] + strings.ToUpper(word[2:])} {
			told(t, x, want)
			told(t, x+" UTC", want+" UTC")
			told(t, "  "+x+"   UTC  ", want+" UTC")
			for _, none := range []string{x + "UTC", "UTC " + x, x + " utc", x + " UTC UTC", "Mon " + x, x + " Mon", x + " 0:0", x + " *-*-*", "*-*-* " + x, "0:0 " + x, x + " " + x, x + ",", x + "," + x, x + "/2", x[1:], x[:len(x)-1], x + "s", x + "\x00", x + "\n", x + "-", x + ":", x + ".." + x} {
				isNone(t, none)
			}
		}
	}
	for _, text := range []string{"secondly", "semi-annually", "bi-annually", "biannually", "anually", "noon", "reboot", "mid night", "weeKly"[:3] + "\u212Aly", "quarterl\u00ff", "wee\u212Aly", "da\u0131ly", "mid\u0130ght"} {
		isNone(t, text)
	}
}

// P9.4: marks that are left out, told twice, and put in another's place.
func TestParseMarks(t *testing.T) {
	const text = "Mon..Wed,Fri 2026-01~02 03/4:05..06/7:08.9 UTC"
	marks := []string{"..", ",", " ", "-", "~", "/", ":", "."}
	for at := range len(text) {
		for _, mark := range marks {
			if !strings.HasPrefix(text[at:], mark) {
				continue
			}
			behind := text[at+len(mark):]
			for _, other := range append(marks, "", mark+mark, "*", "..*") {
				changed := text[:at] + other + behind
				if want, ok := plainParse(changed); ok {
					parsedIs(t, changed, want)
				} else {
					isNone(t, changed)
				}
			}
		}
	}
}

// P9.5: expressions that differ in one thing alone.
func TestSame(t *testing.T) {
	base := func() Spec {
		return Spec{Days: 3, Year: one(2000), Month: one(2), Day: one(3), Hour: one(4), Minute: one(5), Second: []Part{{6, 60, 2}, {7, 7, 0}}}
	}
	others := []Spec{{}, daily()}
	add := func(change func(s *Spec)) {
		s := base()
		change(&s)
		others = append(others, s)
	}
	add(func(s *Spec) { s.Days = 2 })
	add(func(s *Spec) { s.Days = 0 })
	add(func(s *Spec) { s.End = true })
	add(func(s *Spec) { s.UTC = true })
	add(func(s *Spec) { s.Second = s.Second[:1] })
	add(func(s *Spec) { s.Second = s.Second[1:] })
	add(func(s *Spec) { s.Second = []Part{s.Second[1], s.Second[0]} })
	for _, k := range kinds() {
		add(func(s *Spec) { *k.of(s) = nil })
		add(func(s *Spec) { *k.of(s) = append(*k.of(s), one(9)...) })
		add(func(s *Spec) { (*k.of(s))[0].From++ })
		add(func(s *Spec) { (*k.of(s))[0].To++ })
		add(func(s *Spec) { (*k.of(s))[0].Step++ })
	}
	add(func(s *Spec) { s.Month, s.Day = s.Day, s.Month })
	add(func(s *Spec) { s.Hour, s.Minute = s.Minute, s.Hour })
	for i, a := range append(others, base()) {
		for j, b := range append(others, base()) {
			if Same(a, b) != (i == j) {
				t.Errorf("%+v, %+v: %v", a, b, i != j)
			}
		}
	}
}

// P9.5: lists that are nil and empty ones are the same; and so are expressions that are not right.
func TestSameOfEmpty(t *testing.T) {
	empty := Spec{Year: []Part{}, Month: []Part{}, Day: []Part{}, Hour: []Part{}, Minute: []Part{}, Second: []Part{}}
	if !Same(empty, Spec{}) || !Same(Spec{}, empty) || !Same(empty, empty) {
		t.Error("nothing")
	}
	wrong := Spec{Days: 255, Hour: []Part{{math.MaxInt64, math.MinInt64, -1}}}
	again := wrong
	again.Hour = slices.Clone(wrong.Hour)
	if !Same(wrong, again) || Same(wrong, Spec{Days: 255}) {
		t.Error("of wrong ones")
	}
}

func at(year, month, day, hour, minute, second, usec int) civil.Clock {
	return civil.Clock{Date: civil.Date{Year: year, Month: month, Day: day}, Hour: hour, Minute: minute, Second: second, Usec: usec}
}

// put is a time with another number in one field.
func put(c civil.Clock, k kind, n int64) civil.Clock {
	switch k.name {
	case "year":
		c.Year = int(n)
	case "month":
		c.Month = int(n)
	case "day":
		c.Day = int(n)
	case "hour":
		c.Hour = int(n)
	case "minute":
		c.Minute = int(n)
	default:
		c.Second, c.Usec = int(n/1000000), int(n%1000000)
	}
	return c
}

// P9.6: each field at and beside From and To, and the numbers of its Step.
func TestMatchFields(t *testing.T) {
	for _, k := range kinds() {
		for _, p := range []Part{
			{k.low, k.low, 0}, {k.high, k.high, 0}, {k.low + 3, k.low + 3, 0}, {k.low + 3, k.low + 3, 2},
			{k.low + 2, k.low + 9, 1}, {k.low + 2, k.low + 9, 2}, {k.low + 2, k.low + 9, 3}, {k.low + 2, k.low + 9, 7}, {k.low + 2, k.low + 9, 8}, {k.low, k.high, 5}, {k.low, k.high, k.high - k.low}, {k.low, k.high, math.MaxInt64},
		} {
			s := Spec{Second: []Part{{0, 59999999, 1}}}
			*k.of(&s) = []Part{p}
			for _, from := range []int64{k.low, p.From, p.To, k.high} {
				for n := from - 12; n <= from+12; n++ {
					c := put(at(2024, 1, 1, 5, 5, 5, 5), k, n)
					want := p.From <= n && n <= p.To && (p.Step == 0 || (n-p.From)%p.Step == 0)
					_, isTime := libraryTime(c)
					matchIs(t, s, c, want && isTime)
				}
			}
		}
	}
}

// P9.6: fields with several parts, one of which is enough, in any order; all fields must have their number.
func TestMatchParts(t *testing.T) {
	s := Spec{Year: []Part{{2030, 2030, 0}, {2020, 2026, 3}}, Month: []Part{{12, 12, 0}, {3, 3, 0}}, Day: []Part{{10, 20, 5}, {11, 11, 0}}, Hour: []Part{{22, 23, 1}, {1, 1, 0}}, Minute: []Part{{7, 7, 0}, {0, 59, 30}}, Second: []Part{{2500000, 2500000, 0}, {0, 59999999, 20000000}}}
	for _, c := range []civil.Clock{at(2023, 3, 15, 1, 30, 20, 0), at(2030, 12, 11, 23, 7, 2, 500000), at(2020, 12, 10, 22, 0, 0, 0), at(2026, 3, 20, 1, 0, 40, 0)} {
		matchIs(t, s, c, true)
		for _, other := range []civil.Clock{put(c, kinds()[0], 2024), put(c, kinds()[1], 4), put(c, kinds()[2], 12), put(c, kinds()[3], 2), put(c, kinds()[4], 31), put(c, kinds()[5], 2500001), put(c, kinds()[5], 2000000), put(c, kinds()[5], 500000)} {
			matchIs(t, s, other, false)
		}
	}
}

// P9.6: each day of the week, by each set of them.
func TestMatchDays(t *testing.T) {
	for days := range 128 {
		s := Spec{Days: uint8(days), Second: one(0)}
		for day := range 14 {
			// The 1st of June 2026 was a Monday.
			matchIs(t, s, at(2026, 6, 1+day, 3, 4, 0, 0), days == 0 || days>>(day%7)&1 == 1)
		}
	}
	s := Spec{Days: 8, Second: one(0)}
	matchIs(t, s, at(1970, 1, 1, 0, 0, 0, 0), true)
	matchIs(t, s, at(1969, 12, 31, 0, 0, 0, 0), false)
}

// P9.6: days from the month's beginning and from its end, of months of each length.
func TestMatchDaysOfMonths(t *testing.T) {
	for _, year := range []int{1900, 2000, 2023, 2024, 2100} {
		for month := 1; month <= 12; month++ {
			long := time31(year, month)
			for day := 1; day <= 31; day++ {
				for n := int64(1); n <= 31; n++ {
					c := at(year, month, day, 0, 0, 0, 0)
					matchIs(t, Spec{Day: one(n), Second: one(0)}, c, day <= long && int(n) == day)
					matchIs(t, Spec{Day: one(n), End: true, Second: one(0)}, c, day <= long && int(n) == long+1-day)
				}
			}
		}
	}
	matchIs(t, Spec{Day: []Part{{2, 5, 2}}, End: true, Second: one(0)}, at(2024, 2, 28, 0, 0, 0, 0), true)
	matchIs(t, Spec{Day: []Part{{2, 5, 2}}, End: true, Second: one(0)}, at(2024, 2, 27, 0, 0, 0, 0), false)
	matchIs(t, Spec{Day: []Part{{2, 5, 2}}, End: true, Second: one(0)}, at(2024, 2, 26, 0, 0, 0, 0), true)
	// Without parts it is any day, counted from wherever.
	matchIs(t, Spec{End: true, Second: one(0)}, at(2024, 2, 26, 0, 0, 0, 0), true)
}

// time31 is how many of 31 days the library's month has.
func time31(year, month int) int {
	for day := 31; ; day-- {
		if _, ok := libraryTime(at(year, month, day, 0, 0, 0, 0)); ok {
			return day
		}
	}
}

// P9.6: times that are none, at each bound; years that no number tells, which an expression of any year has.
func TestMatchNoTime(t *testing.T) {
	s := Spec{Second: []Part{{0, 59999999, 1}}}
	for _, c := range []civil.Clock{at(1, 1, 1, 0, 0, 0, 0), at(9999, 12, 31, 23, 59, 59, 999999), at(1969, 12, 31, 23, 59, 59, 999999), at(2200, 1, 1, 0, 0, 0, 0), at(2024, 2, 29, 0, 0, 0, 0)} {
		matchIs(t, s, c, true)
		matchIs(t, Spec{Year: []Part{{1970, 2199, 1}}, Second: s.Second}, c, c.Year == 2024)
	}
	good := at(2024, 5, 5, 5, 5, 5, 5)
	for _, c := range []civil.Clock{
		{}, at(0, 1, 1, 0, 0, 0, 0), at(10000, 1, 1, 0, 0, 0, 0), at(2023, 2, 29, 0, 0, 0, 0), at(2024, 2, 30, 0, 0, 0, 0), at(2024, 0, 1, 0, 0, 0, 0), at(2024, 13, 1, 0, 0, 0, 0), at(2024, 4, 31, 0, 0, 0, 0), at(2024, 4, 0, 0, 0, 0, 0),
		at(2024, 4, 1, 24, 0, 0, 0), at(2024, 4, 1, -1, 0, 0, 0), at(2024, 4, 1, 0, 60, 0, 0), at(2024, 4, 1, 0, -1, 0, 0), at(2024, 4, 1, 0, 0, 60, 0), at(2024, 4, 1, 0, 0, -1, 0), at(2024, 4, 1, 0, 0, 0, 1000000), at(2024, 4, 1, 0, 0, 0, -1), at(2024, 4, 1, 0, 0, 5, -1), at(2024, 4, 1, 0, 0, -1, 1000000),
		at(math.MaxInt, math.MaxInt, math.MaxInt, math.MaxInt, math.MaxInt, math.MaxInt, math.MaxInt), at(math.MinInt, math.MinInt, math.MinInt, math.MinInt, math.MinInt, math.MinInt, math.MinInt), at(2024, 4, 1, 0, 0, math.MaxInt, 0), at(2024, 4, 1, 0, 0, 0, math.MinInt),
	} {
		for _, days := range []uint8{0, 1, 2, 4, 8, 16, 32, 64, 127} {
			for _, end := range []bool{false, true} {
				matchIs(t, Spec{Days: days, End: end, Second: s.Second}, c, false)
			}
		}
	}
	matchIs(t, s, good, true)
}

// P9.6: of an expression that is not right nothing matches.
func TestMatchOfWrong(t *testing.T) {
	c := at(2024, 5, 5, 5, 5, 5, 5)
	right := Spec{Second: []Part{{0, 59999999, 1}}}
	matchIs(t, right, c, true)
	wrong := []Spec{{}, {Days: 128, Second: right.Second}, {Days: 255, Second: right.Second}}
	for _, k := range kinds() {
		for _, p := range []Part{{k.low - 1, k.high, 1}, {k.low, k.high + 1, 1}, {k.low, k.high, 0}, {k.low, k.high, -1}, {k.low + 1, k.low, 1}, {math.MinInt64, math.MaxInt64, 1}, {math.MaxInt64, math.MinInt64, math.MinInt64}} {
			s := right
			*k.of(&s) = []Part{{k.low, k.high, 1}, p}
			wrong = append(wrong, s)
		}
		s := right
		*k.of(&s) = slices.Repeat([]Part{{k.low, k.high, 1}}, 20)
		matchIs(t, s, c, true)
		*k.of(&s) = slices.Repeat([]Part{{k.low, k.high, 1}}, 21)
		wrong = append(wrong, s)
	}
	for _, s := range wrong {
		matchIs(t, s, c, false)
	}
}

// roomy is an expression with something behind each of its lists' lengths.
func roomy() Spec {
	s := Spec{Days: 127, End: true, UTC: true}
	for _, k := range kinds() {
		*k.of(&s) = []Part{{k.high, k.high, 0}, {k.low, k.high, 1}, {k.low, k.low + 1, 3}, {k.low, k.low, 0}, {7, 8, 9}, {6, 5, 4}}[:4]
	}
	return s
}

// allOf is an expression with what stands behind its lists' lengths.
func allOf(s Spec) Spec {
	for _, k := range kinds() {
		parts := k.of(&s)
		*parts = (*parts)[:cap(*parts)]
	}
	return s
}

// P9.7: what is handed in is as it was, what lies behind its lists too.
func TestOnlyRead(t *testing.T) {
	s := roomy()
	if !Right(s) || !Same(s, s) {
		t.Error("not right, or not the same")
	}
	Normal(s)
	Text(s)
	Match(s, at(2199, 12, 1, 23, 59, 59, 999999))
	if !same(allOf(s), allOf(roomy())) {
		t.Errorf("%+v", allOf(s))
	}
	s.Second[0].Step = -1
	want := allOf(roomy())
	want.Second[0].Step = -1
	Normal(s)
	Text(s)
	if !same(allOf(s), want) {
		t.Errorf("%+v", allOf(s))
	}
}

// writeOver changes all that an answer has, up to all that it has room for.
func writeOver(s Spec) {
	s = allOf(s)
	for _, k := range kinds() {
		for i := range *k.of(&s) {
			(*k.of(&s))[i] = Part{-1, -2, -3}
		}
	}
}

// P9.7: an answer may be written over: what was handed in is as it was, and so is another answer.
func TestNewMemory(t *testing.T) {
	for _, s := range []Spec{roomy(), daily(), {Year: one(2000), Month: one(1), Day: one(1), Second: one(0)}} {
		was := s
		for _, k := range kinds() {
			*k.of(&was) = slices.Clone(*k.of(&s))
		}
		first, _ := Normal(s)
		second, _ := Normal(s)
		writeOver(first)
		third, _ := Normal(s)
		if !same(s, was) || !same(second, third) || !Right(third) {
			t.Errorf("%+v, then %+v and %+v", s, second, third)
		}
		again, _ := Normal(third)
		writeOver(again)
		if !same(second, third) {
			t.Errorf("%+v, then %+v", second, third)
		}
	}
	for _, text := range []string{"quarterly", "Mon 2026-1,2,3-4 5:6:*", "*:*:*", "0:0", "*-*-*", "2000,2001-1,2-3,4 5,6:7,8:9,10"} {
		first, _ := Parse(text)
		second, _ := Parse(text)
		writeOver(first)
		third, _ := Parse(text)
		if !same(second, third) || !Right(third) {
			t.Errorf("%q: %+v, then %+v", text, second, third)
		}
	}
}

// P9.7: no two lists of one answer share memory.
func TestNoSharedLists(t *testing.T) {
	for _, text := range []string{"2000-1-1 1:1:1", "2000,2001-1,2-1,2 1,2:1,2:1,2", "1999..2000/1,1997-*-1 *:1,1:*"} {
		for _, k := range kinds() {
			s, err := Parse(text)
			if err != api.OK {
				t.Fatal(err)
			}
			n, _ := Normal(s)
			for _, x := range []Spec{s, n} {
				was := x
				for _, other := range kinds() {
					if other.name != k.name {
						*other.of(&was) = slices.Clone(*other.of(&x))
					}
				}
				over := Spec{}
				*k.of(&over) = *k.of(&x)
				writeOver(over)
				if !same(was, x) {
					t.Errorf("%q: %+v, then %+v", text, was, x)
				}
			}
		}
	}
}

// P9.1 to P9.6: nothing panics, whatever it is given.
func TestWhatever(t *testing.T) {
	numbers := []int64{0, 1, -1, math.MaxInt64, math.MinInt64, math.MaxInt64 - 1, 59999999, 1 << 32}
	for _, k := range kinds() {
		for _, from := range numbers {
			for _, to := range numbers {
				for _, step := range numbers {
					s := with(k, Part{from, to, step})
					right := plainRight(s)
					rightIs(t, s, right)
					if !right {
						matchIs(t, s, at(2000, 1, 1, 0, 0, 0, 0), false)
						continue
					}
					normalIs(t, s, plainNormal(s))
				}
			}
		}
	}
	for _, text := range []string{strings.Repeat("*", 4000), strings.Repeat("1,", 2000), strings.Repeat(":", 4000), strings.Repeat("-", 4000), strings.Repeat("a ", 2000), strings.Repeat("Mon..", 800), strings.Repeat("\xff", 4000), strings.Repeat("/", 4000), "0:" + strings.Repeat("9", 3998), strings.Repeat("UTC ", 1000)} {
		isNone(t, text)
		isNone(t, strings.Repeat(text, 50))
	}
}

// P9.4, P9.6: the chapter's examples.
func TestExamples(t *testing.T) {
	told(t, "daily", "*-*-* 00:00:00")
	told(t, "Sat..Mon 10:00", "Mon,Sat,Sun *-*-* 10:00:00")
	isNone(t, "*-2~3..1")
	told(t, "12-24 */6:30", "*-12-24 00/6:30:00")
}
