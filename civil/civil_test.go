package civil

import (
	"math"
	"testing"
	"time"

	"clepsydra/api"
)

// The first and the last right day, and the first and the last microsecond of all.
const (
	dayOne     = -719162
	dayLast    = 2932896
	microOne   = -62135596800000000
	microLast  = 253402300799999999
	dayInMicro = 86400000000
)

func date(year, month, day int) Date {
	return Date{Year: year, Month: month, Day: day}
}

func clock(d Date, hour, minute, second, usec int) Clock {
	return Clock{Date: d, Hour: hour, Minute: minute, Second: second, Usec: usec}
}

// wrongDays are one past each bound, or far from it.
func wrongDays() []Date {
	return []Date{
		{},
		date(0, 1, 1),
		date(0, 12, 31),
		date(10000, 1, 1),
		date(-1, 1, 1),
		date(-4, 2, 29),
		date(-2000, 2, 29),
		date(math.MinInt, 1, 1),
		date(math.MaxInt, 12, 31),
		date(math.MaxInt-3, 2, 29),
		date(1970, 0, 1),
		date(1970, 13, 1),
		date(1970, -1, 1),
		date(1970, math.MinInt, 1),
		date(1970, math.MaxInt, 1),
		date(1970, 1, 0),
		date(1970, 1, -1),
		date(1970, 1, 32),
		date(1970, 4, 31),
		date(1970, 2, 29),
		date(1900, 2, 29),
		date(2000, 2, 30),
		date(2024, 2, 30),
		date(1970, 1, math.MinInt),
		date(1970, 1, math.MaxInt),
		date(1, 1, 0),
		date(9999, 12, 32),
		date(math.MinInt, math.MinInt, math.MinInt),
		date(math.MaxInt, math.MaxInt, math.MaxInt),
	}
}

// each goes over all right days, told by the library's calendar, with their numbers.
func each(check func(n int64, d Date, week int)) {
	for n := int64(dayOne); n <= dayLast; n++ {
		at := time.Unix(n*86400, 0).UTC()
		year, month, day := at.Date()
		// The library's Sunday is 0.
		check(n, date(year, int(month), day), (int(at.Weekday())+6)%7+1)
	}
}

// P3.1: years that 4 divides, that 100 divides, that 400 divides, and others.
func TestLong(t *testing.T) {
	for year, february := range map[int]int{
		1: 28, 2: 28, 3: 28, 4: 29, 100: 28, 200: 28, 300: 28, 400: 29, 800: 29,
		1600: 29, 1700: 28, 1800: 28, 1900: 28, 1970: 28, 1999: 28, 2000: 29, 2001: 28,
		2023: 28, 2024: 29, 2026: 28, 2100: 28, 2400: 29, 9600: 29, 9900: 28, 9996: 29, 9998: 28, 9999: 28,
	} {
		for i, want := range []int{0, 31, february, 31, 30, 31, 30, 31, 31, 30, 31, 30, 31, 0} {
			if got := Long(year, i); got != want {
				t.Errorf("Long(%d, %d) = %d, not %d", year, i, got, want)
			}
		}
	}
}

// P3.1
func TestLongOfNone(t *testing.T) {
	for _, year := range []int{math.MinInt, math.MinInt + 1, -2000, -4, -1, 0, 10000, 10004, 12000, math.MaxInt - 3, math.MaxInt} {
		for month := -1; month <= 14; month++ {
			if got := Long(year, month); got != 0 {
				t.Errorf("Long(%d, %d) = %d", year, month, got)
			}
		}
	}
	for _, month := range []int{math.MinInt, math.MinInt + 1, -12, -2, -1, 0, 13, 14, 24, 26, math.MaxInt - 1, math.MaxInt} {
		for _, year := range []int{1, 4, 100, 400, 1970, 2000, 2024, 9999} {
			if got := Long(year, month); got != 0 {
				t.Errorf("Long(%d, %d) = %d", year, month, got)
			}
		}
	}
}

// P3.1: the last day of each month and one past it.
func TestRight(t *testing.T) {
	for year, february := range map[int]int{1: 28, 4: 29, 100: 28, 400: 29, 1900: 28, 1970: 28, 2000: 29, 2023: 28, 2024: 29, 9996: 29, 9999: 28} {
		for i, last := range []int{31, february, 31, 30, 31, 30, 31, 31, 30, 31, 30, 31} {
			for day := -1; day <= 33; day++ {
				d := date(year, i+1, day)
				if got := Right(d); got != (day >= 1 && day <= last) {
					t.Errorf("Right(%v) = %v", d, got)
				}
			}
		}
	}
	for _, d := range wrongDays() {
		if Right(d) {
			t.Errorf("Right(%v)", d)
		}
	}
}

// P3.1: the library makes another day out of one that is not right.
func TestRightAndLongOfAllYears(t *testing.T) {
	for year := -2; year <= 10002; year++ {
		for month := -1; month <= 14; month++ {
			long := 0
			for day := 0; day <= 32; day++ {
				y, m, d := time.Date(year, time.Month(month), day, 0, 0, 0, 0, time.UTC).Date()
				want := y == year && int(m) == month && d == day && year >= 1 && year <= 9999
				if want {
					long++
				}
				if got := Right(date(year, month, day)); got != want {
					t.Fatalf("Right(%d-%d-%d) = %v", year, month, day, got)
				}
			}
			if got := Long(year, month); got != long {
				t.Fatalf("Long(%d, %d) = %d, not %d", year, month, got, long)
			}
		}
	}
}

// P3.2, P3.3
func TestDaysOfWeekday(t *testing.T) {
	for _, x := range []struct {
		d    Date
		n    int64
		week int
	}{
		{date(1970, 1, 1), 0, 4},
		{date(1970, 1, 2), 1, 5},
		{date(1969, 12, 31), -1, 3},
		{date(1970, 12, 31), 364, 4},
		{date(1971, 1, 1), 365, 5},
		{date(1972, 2, 28), 788, 1},
		{date(1972, 2, 29), 789, 2},
		{date(1972, 3, 1), 790, 3},
		{date(1900, 2, 28), -25509, 3},
		{date(1900, 3, 1), -25508, 4},
		{date(2000, 2, 29), 11016, 2},
		{date(2000, 3, 1), 11017, 3},
		{date(2000, 12, 31), 11322, 7},
		{date(2001, 1, 1), 11323, 1},
		{date(2026, 11, 18), 20775, 3},
		{date(1, 1, 1), dayOne, 1},
		{date(1, 1, 2), dayOne + 1, 2},
		{date(4, 12, 31), dayOne + 1460, 5},
		{date(100, 12, 31), dayOne + 36523, 5},
		{date(101, 1, 1), dayOne + 36524, 6},
		{date(400, 12, 31), dayOne + 146096, 7},
		{date(401, 1, 1), dayOne + 146097, 1},
		{date(9999, 12, 30), dayLast - 1, 4},
		{date(9999, 12, 31), dayLast, 5},
	} {
		if n, err := Days(x.d); n != x.n || err != api.OK {
			t.Errorf("Days(%v) = %d, %d, not %d", x.d, n, err, x.n)
		}
		if d, err := Of(x.n); d != x.d || err != api.OK {
			t.Errorf("Of(%d) = %v, %d, not %v", x.n, d, err, x.d)
		}
		if week := Weekday(x.d); week != x.week {
			t.Errorf("Weekday(%v) = %d, not %d", x.d, week, x.week)
		}
	}
}

// P3.2, P3.3
func TestDaysAndWeekdayOfWrongDays(t *testing.T) {
	for _, d := range wrongDays() {
		if n, err := Days(d); n != 0 || err != api.ErrDate {
			t.Errorf("Days(%v) = %d, %d", d, n, err)
		}
		if week := Weekday(d); week != 0 {
			t.Errorf("Weekday(%v) = %d", d, week)
		}
	}
}

// P3.2: numbers that would be right ones, if but 32 of their bits counted, too.
func TestOfOutOfRange(t *testing.T) {
	for _, n := range []int64{
		math.MinInt64, math.MinInt64 + 1, math.MinInt64 - dayOne, -1 << 32, 1<<32 + dayOne, -1<<32 + dayLast, -1 << 31,
		dayOne - 366, dayOne - 2, dayOne - 1,
		dayLast + 1, dayLast + 2, dayLast + 366, 1 << 31, 1 << 32, 1<<32 + 11016, math.MaxInt64 + dayOne, math.MaxInt64 - 1, math.MaxInt64,
	} {
		if d, err := Of(n); d != (Date{}) || err != api.ErrRange {
			t.Errorf("Of(%d) = %v, %d", n, d, err)
		}
	}
}

// P3.2, P3.3, P3.5: either way, all right days.
func TestAllDays(t *testing.T) {
	each(func(n int64, d Date, week int) {
		if got, err := Days(d); got != n || err != api.OK {
			t.Fatalf("Days(%v) = %d, %d, not %d", d, got, err, n)
		}
		if got, err := Of(n); got != d || err != api.OK {
			t.Fatalf("Of(%d) = %v, %d, not %v", n, got, err, d)
		}
		if got := Weekday(d); got != week {
			t.Fatalf("Weekday(%v) = %d, not %d", d, got, week)
		}
	})
}

// tomorrow is the next day, by the months' lengths alone.
func tomorrow(d Date) Date {
	if d.Day++; d.Day <= Long(d.Year, d.Month) {
		return d
	}
	if d.Month < 12 {
		return date(d.Year, d.Month+1, 1)
	}
	return date(d.Year+1, 1, 1)
}

// P3.5: the next day has one more, and is the next day of the week; none is left out.
func TestDayByDay(t *testing.T) {
	d := date(1, 1, 1)
	n, week, count := int64(dayOne), 1, 0
	for Right(d) {
		if got, err := Days(d); got != n || err != api.OK {
			t.Fatalf("Days(%v) = %d, %d, not %d", d, got, err, n)
		}
		if got := Weekday(d); got != week {
			t.Fatalf("Weekday(%v) = %d, not %d", d, got, week)
		}
		d, n, week, count = tomorrow(d), n+1, week%7+1, count+1
	}
	if count != dayLast-dayOne+1 || d != date(10000, 1, 1) {
		t.Errorf("%d days, up to %v", count, d)
	}
}

// P3.4
func TestMicroFromMicro(t *testing.T) {
	for _, x := range []struct {
		c Clock
		n int64
	}{
		{clock(date(1970, 1, 1), 0, 0, 0, 0), 0},
		{clock(date(1970, 1, 1), 0, 0, 0, 1), 1},
		{clock(date(1970, 1, 1), 0, 0, 0, 999999), 999999},
		{clock(date(1970, 1, 1), 0, 0, 1, 0), 1000000},
		{clock(date(1970, 1, 1), 0, 0, 59, 999999), 59999999},
		{clock(date(1970, 1, 1), 0, 1, 0, 0), 60000000},
		{clock(date(1970, 1, 1), 0, 59, 59, 999999), 3599999999},
		{clock(date(1970, 1, 1), 1, 0, 0, 0), 3600000000},
		{clock(date(1970, 1, 1), 23, 59, 59, 999999), dayInMicro - 1},
		{clock(date(1970, 1, 2), 0, 0, 0, 0), dayInMicro},
		{clock(date(1969, 12, 31), 23, 59, 59, 999999), -1},
		{clock(date(1969, 12, 31), 23, 59, 59, 0), -1000000},
		{clock(date(1969, 12, 31), 23, 59, 0, 0), -60000000},
		{clock(date(1969, 12, 31), 23, 0, 0, 0), -3600000000},
		{clock(date(1969, 12, 31), 0, 0, 0, 0), -dayInMicro},
		{clock(date(1969, 12, 30), 23, 59, 59, 999999), -dayInMicro - 1},
		{clock(date(2000, 2, 29), 12, 34, 56, 789012), 951827696789012},
		{clock(date(2001, 9, 9), 1, 46, 40, 0), 1000000000000000},
		{clock(date(2199, 12, 31), 23, 59, 59, 999999), api.MaxTime - 1},
		{clock(date(2200, 1, 1), 0, 0, 0, 0), api.MaxTime},
		{clock(date(1, 1, 1), 0, 0, 0, 0), microOne},
		{clock(date(1, 1, 1), 0, 0, 0, 1), microOne + 1},
		{clock(date(1, 1, 1), 23, 59, 59, 999999), microOne + dayInMicro - 1},
		{clock(date(9999, 12, 31), 0, 0, 0, 0), microLast - dayInMicro + 1},
		{clock(date(9999, 12, 31), 23, 59, 59, 999998), microLast - 1},
		{clock(date(9999, 12, 31), 23, 59, 59, 999999), microLast},
	} {
		if n, err := Micro(x.c); n != x.n || err != api.OK {
			t.Errorf("Micro(%v) = %d, %d, not %d", x.c, n, err, x.n)
		}
		if c, err := FromMicro(x.n); c != x.c || err != api.OK {
			t.Errorf("FromMicro(%d) = %v, %d, not %v", x.n, c, err, x.c)
		}
	}
}

// P3.4: each field one past its bounds and far from them, by itself, in days all over the calendar.
func TestMicroOfWrongClocks(t *testing.T) {
	wrong := func(c Clock) {
		t.Helper()
		if n, err := Micro(c); n != 0 || err != api.ErrDate {
			t.Errorf("Micro(%v) = %d, %d", c, n, err)
		}
	}
	for _, d := range []Date{date(1, 1, 1), date(1969, 12, 31), date(1970, 1, 1), date(2000, 2, 29), date(9999, 12, 31)} {
		for _, far := range []int{math.MinInt, -1, 1000000, math.MaxInt} {
			wrong(clock(d, far, 0, 0, 0))
			wrong(clock(d, 0, far, 0, 0))
			wrong(clock(d, 0, 0, far, 0))
			wrong(clock(d, 0, 0, 0, far))
			wrong(clock(d, far, far, far, far))
		}
		wrong(clock(d, 24, 0, 0, 0))
		wrong(clock(d, 0, 60, 0, 0))
		wrong(clock(d, 0, 0, 60, 0))
		wrong(clock(d, 23, 59, 60, 0))
		// A sum that would be right does not make it so.
		wrong(clock(d, 1, -1, 0, 0))
		wrong(clock(d, 0, 1, -1, 0))
		wrong(clock(d, 0, 0, 1, -1))
	}
	for _, d := range wrongDays() {
		wrong(clock(d, 0, 0, 0, 0))
		wrong(clock(d, 23, 59, 59, 999999))
		wrong(clock(d, 24, 60, 60, 1000000))
	}
}

// P3.4
func TestFromMicroOutOfRange(t *testing.T) {
	for _, n := range []int64{
		math.MinInt64, math.MinInt64 + 1, microOne - dayInMicro, microOne - 1000000, microOne - 1,
		microLast + 1, microLast + 1000000, microLast + dayInMicro, math.MaxInt64 - 1, math.MaxInt64, api.Infinity,
	} {
		if c, err := FromMicro(n); c != (Clock{}) || err != api.ErrRange {
			t.Errorf("FromMicro(%d) = %v, %d", n, c, err)
		}
	}
}

// P3.4, P3.5: every second of a day, its first and its last microsecond, either way.
func TestEverySecond(t *testing.T) {
	for _, d := range []Date{date(1, 1, 1), date(1969, 12, 31), date(1970, 1, 1), date(2024, 2, 29), date(9999, 12, 31)} {
		n, err := Micro(Clock{Date: d})
		if err != api.OK {
			t.Fatalf("Micro(%v): %d", d, err)
		}
		for hour := range 24 {
			for minute := range 60 {
				for second := range 60 {
					same(t, clock(d, hour, minute, second, 0), n)
					same(t, clock(d, hour, minute, second, 999999), n+999999)
					n += 1000000
				}
			}
		}
	}
}

// same fails unless both calls tell one of the other.
func same(t *testing.T, c Clock, n int64) {
	t.Helper()
	if got, err := Micro(c); got != n || err != api.OK {
		t.Fatalf("Micro(%v) = %d, %d, not %d", c, got, err, n)
	}
	if got, err := FromMicro(n); got != c || err != api.OK {
		t.Fatalf("FromMicro(%d) = %v, %d, not %v", n, got, err, c)
	}
}

// P3.4, P3.5: each day begins a microsecond behind the last one of the day ahead of it.
func TestDaysInMicro(t *testing.T) {
	each(func(n int64, d Date, week int) {
		same(t, Clock{Date: d}, n*dayInMicro)
		same(t, clock(d, 23, 59, 59, 999999), (n+1)*dayInMicro-1)
	})
}

// P3.4, P3.5: numbers all over the range, held against the library's calendar.
func TestMicroAllOver(t *testing.T) {
	state := uint64(1)
	for range 200000 {
		state = state*6364136223846793005 + 1442695040888963407
		n := int64(microOne) + int64(state>>1)%(microLast-microOne+1)
		at := time.UnixMicro(n).UTC()
		d := date(at.Year(), int(at.Month()), at.Day())
		same(t, clock(d, at.Hour(), at.Minute(), at.Second(), at.Nanosecond()/1000), n)
	}
}
