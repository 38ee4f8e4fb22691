package next

import (
	"math"
	"math/rand"
	"slices"
	"testing"
	"time"

	"clepsydra/api"
	"clepsydra/cal"
	"clepsydra/civil"
	"clepsydra/tzif"
	"clepsydra/zone"
)

// numbersOfParts are all numbers of a field, one by one, rising.
func numbersOfParts(parts []cal.Part, low, high int64) []int64 {
	var all []int64
	if len(parts) == 0 {
		parts = []cal.Part{{From: low, To: high, Step: 1}}
	}
	for _, p := range parts {
		for n := p.From; n <= p.To; n += max(p.Step, 1) {
			all = append(all, n)
		}
	}
	slices.Sort(all)
	return slices.Compact(all)
}

// plain is an expression whose numbers are told one by one. (Not for steps that are very fine, or very far.)
type plain struct {
	cal.Spec
	years, months, days, hours, minutes, seconds []int64
}

func plainOf(s cal.Spec) plain {
	return plain{
		Spec:    s,
		years:   numbersOfParts(s.Year, 1970, 2199),
		months:  numbersOfParts(s.Month, 1, 12),
		days:    numbersOfParts(s.Day, 1, 31),
		hours:   numbersOfParts(s.Hour, 0, 23),
		minutes: numbersOfParts(s.Minute, 0, 59),
		seconds: numbersOfParts(s.Second, 0, 59999999),
	}
}

// onDay: is it a day of the expression's, by the library's calendar?
func (p plain) onDay(d time.Time) bool {
	day := d.Day()
	if p.End {
		day = left(d)
	}
	week := uint8(1) << ((d.Weekday() + 6) % 7)
	return (p.Days == 0 || p.Days&week != 0) && slices.Contains(p.years, int64(d.Year())) &&
		slices.Contains(p.months, int64(d.Month())) && slices.Contains(p.days, int64(day))
}

// matches: is that local time one of the expression's?
func (p plain) matches(local int64) bool {
	at := time.UnixMicro(local).UTC()
	return slices.Contains(p.hours, int64(at.Hour())) && slices.Contains(p.minutes, int64(at.Minute())) &&
		slices.Contains(p.seconds, int64(at.Second())*1000000+int64(at.Nanosecond()/1000)) && p.onDay(at)
}

// local goes over all days, and over their hours, minutes and seconds.
func (p plain) local(from int64) (int64, bool) {
	from = max(from, 0)
	begin := from - from%aDay
	for d := time.UnixMicro(begin).UTC(); d.Year() < 2200; d = d.AddDate(0, 0, 1) {
		if !p.onDay(d) {
			continue
		}
		for _, hour := range p.hours {
			for _, minute := range p.minutes {
				at := d.UnixMicro() + hour*anHour + minute*aMinute
				if i, _ := slices.BinarySearch(p.seconds, from-at); i < len(p.seconds) {
					return at + p.seconds[i], true
				}
			}
		}
	}
	return 0, false
}

// elapses goes over instants, step by step, by the chapter's words.
func (p plain) elapses(z *zone.Zone, first, last, step int64) []int64 {
	var found []int64
	been := map[int64]bool{}
	for usec := first; usec <= last; usec += step {
		local := usec + int64(z.Offset(time.UnixMicro(usec).Unix()))*1000000
		if been[local] {
			continue
		}
		been[local] = true
		if 0 <= usec && usec < api.MaxTime && 0 <= local && local < api.MaxTime && p.matches(local) {
			found = append(found, usec)
		}
	}
	return found
}

// lot draws expressions and zones.
type lot struct{ *rand.Rand }

func newLot(seed int64) lot { return lot{rand.New(rand.NewSource(seed))} }

func (l lot) one(in int) bool { return l.Intn(in) == 0 }

// parts are some, of a field whose numbers are multiples of a grain; often none.
func (l lot) parts(low, high, grain int64) []cal.Part {
	if l.one(3) {
		return nil
	}
	return l.someParts(low, high, grain)
}

func (l lot) someParts(low, high, grain int64) []cal.Part {
	var parts []cal.Part
	count := (high-low)/grain + 1
	for range 1 + l.Intn(3) {
		p := cal.Part{From: low + l.Int63n(count)*grain}
		p.To = p.From
		if !l.one(3) {
			p.To = p.From + l.Int63n((high-p.From)/grain+1)*grain
			p.Step = (1 + l.Int63n(min(count, 9))) * grain
		}
		parts = append(parts, p)
	}
	return parts
}

// week is some days of it.
func (l lot) week() uint8 {
	if l.one(2) {
		return 0
	}
	return uint8(l.Intn(128))
}

// expression is one that is right, whatever.
func (l lot) expression() cal.Spec {
	s := cal.Spec{
		Days:   l.week(),
		Year:   l.parts(1970, 2199, 1),
		Month:  l.parts(1, 12, 1),
		Day:    l.parts(1, 31, 1),
		End:    l.one(2),
		Hour:   l.parts(0, 23, 1),
		Minute: l.parts(0, 59, 1),
		Second: l.someParts(0, 59999999, []int64{1000000, 500000, 77777, 29999999}[l.Intn(4)]),
		UTC:    l.one(5),
	}
	if l.one(4) {
		n := l.Int63n(59999000)
		s.Second = append(s.Second, cal.Part{From: n, To: n + l.Int63n(1000), Step: 1 + l.Int63n(3)})
	}
	return s
}

// P10.1: expressions drawn by lot against their numbers, one by one.
func TestLocalByLot(t *testing.T) {
	l := newLot(10)
	none := 0
	for range 1500 {
		s := l.expression()
		p := plainOf(s)
		from := l.Int63n(api.MaxTime+2*aDay) - aDay
		for range 4 {
			want, there := p.local(from)
			got, ok := Local(s, from)
			if got != want || ok != there {
				t.Fatalf("%+v: Local(%d): %d, %t, not %d, %t", s, from, got, ok, want, there)
			}
			if !ok {
				none++
				break
			}
			c, _ := civil.FromMicro(got)
			if !cal.Match(s, c) || got < from {
				t.Fatalf("%+v: Local(%d): %d does not match", s, from, got)
			}
			from = got + 1
			if l.one(2) {
				from = got + l.Int63n(aDay)
			}
		}
	}
	if none < 50 || none > 750 {
		t.Errorf("none of %d", none)
	}
}

// run is a row of instants, of which each may be asked, and what is drawn about it.
type run struct {
	lot
	base, step int64
	long       int
}

// grain is how many seconds all that is drawn is multiples of.
func (r run) grain() int64 { return max(r.step/1000000, 1) }

// off is some minutes, or up to a day.
func (r run) off() int { return (r.Intn(289) - 144) * int(r.grain()) }

// zone has some changes among the run's instants.
func (r run) zone(t *testing.T) *zone.Zone {
	f := tzif.Zone{}
	for range 1 + r.Intn(4) {
		f.Types = append(f.Types, tzif.Type{Off: r.off(), Abbr: "A"})
	}
	at := r.base / 1000000 / r.grain() * r.grain()
	for range r.Intn(9) {
		at += (1 + r.Int63n([]int64{3, int64(r.long) / 8, int64(r.long) / 2}[r.Intn(3)])) * r.grain()
		f.Times = append(f.Times, at)
		f.Index = append(f.Index, r.Intn(len(f.Types)))
	}
	if r.one(3) {
		f.Footer = []string{"AAA0", "CET-1CEST,M3.5.0,M10.5.0/3", "AAA5BBB,J60/0,J88/1", "AAA-5BBB-3,0/1,59/2", "<-03>3<+09>-9,M3.5.0/-9,M3.5.1"}[r.Intn(5)]
	}
	return made(t, f)
}

// expression matches some of the local times that the run's instants may have.
func (r run) expression() cal.Spec {
	at := time.UnixMicro(r.base + r.Int63n(int64(r.long))*r.step).UTC()
	s := cal.Spec{End: r.one(3), Second: []cal.Part{{}}, UTC: r.one(8)}
	if r.one(4) {
		s.Days = r.week()
	}
	if r.one(4) && 1970 <= at.Year() && at.Year() <= 2199 {
		s.Year = []cal.Part{{From: int64(at.Year()), To: int64(at.Year())}}
	}
	if r.one(4) {
		s.Month = []cal.Part{{From: int64(at.Month()), To: int64(at.Month())}}
	}
	if r.one(4) {
		s.Day = []cal.Part{{From: int64(at.Day()), To: int64(at.Day())}}
		if s.End {
			s.Day[0] = cal.Part{From: int64(left(at)), To: int64(left(at))}
		}
	}
	if r.grain() >= 60 {
		s.Hour = r.parts(0, 23, 1)
		s.Minute = r.someParts(0, 59, r.grain()/60)
		return s
	}
	s.Minute = r.parts(0, 59, 1)
	s.Second = r.someParts(0, 59999999, r.step)
	return s
}

// check holds First, After and Up against instants that were gone over.
func (r run) check(t *testing.T, s cal.Spec, z *zone.Zone) int {
	t.Helper()
	if s.UTC && z != nil {
		r.check(t, s, nil)
		s.UTC = false
	}
	end := r.base + int64(r.long)*r.step
	offs := z.Offsets()
	// By so much a local time that comes again may have been earlier.
	back := int64(slices.Max(offs)-slices.Min(offs)) * 1000000 / r.step * r.step
	want := plainOf(s).elapses(z, r.base-back-r.step, end, r.step)
	for usec := r.base; usec <= end; usec += r.step {
		_, there := slices.BinarySearch(want, usec)
		if got := First(s, z, usec); got != there {
			t.Fatalf("%+v: First(%d): %t", s, usec, got)
		}
	}
	want = slices.DeleteFunc(want, func(usec int64) bool { return usec <= r.base })
	if got := Up(s, z, r.base, end, math.MaxInt); !slices.Equal(got, want) {
		t.Fatalf("%+v, %+v: Up(%d, %d): %s, not %s", s, z, r.base, end, told(got), told(want))
	}
	for range 20 {
		from, most := r.base+r.Int63n(int64(r.long))*r.step, r.Intn(9)
		if len(want) > 0 && r.one(2) {
			from = want[r.Intn(len(want))]
		}
		from = max(from+r.Int63n(3)-1, r.base)
		i, there := slices.BinarySearch(want, from)
		if there {
			i++
		}
		rest := want[i:]
		got, ok := After(s, z, from)
		if len(rest) > 0 && got != rest[0] || len(rest) == 0 && ok && got <= end {
			t.Fatalf("%+v, %+v: After(%d): %d, %t, not %s", s, z, from, got, ok, told(rest))
		}
		if list := Up(s, z, from, end, most); !slices.Equal(list, rest[:min(len(rest), most)]) {
			t.Fatalf("%+v, %+v: Up(%d, %d, %d): %s, not of %s", s, z, from, end, most, told(list), told(rest))
		}
	}
	return len(want)
}

// P10.2 to P10.4: zones and expressions drawn by lot against all instants of some hours, or of some days, one by one.
func TestInstantsByLot(t *testing.T) {
	l := newLot(101)
	bases := []int64{-aDay, 0, midnight(2000, 2, 28), spring - 5*anHour, spring - 3*aDay, midnight(2099, 12, 31), api.MaxTime - 2*anHour, api.MaxTime - 3*aDay}
	found := 0
	for range 400 {
		r := run{lot: l, base: bases[l.Intn(len(bases))], long: 1200, step: []int64{500000, 1000000, 600000000}[l.Intn(3)]}
		if l.one(2) {
			// Somewhere beside the base, but a multiple of the step.
			r.base += l.Int63n(2000)*r.step - 1000*r.step
		}
		z := r.zone(t)
		for range 3 {
			found += r.check(t, r.expression(), z)
		}
	}
	if found < 50000 {
		t.Errorf("only %d instants", found)
	}
}
