package next

import (
	"iter"

	"clepsydra/api"
	"clepsydra/cal"
	"clepsydra/civil"
)

// The fields of an expression, in the order in which they are gone through.
const (
	year = iota
	month
	day
	hour
	minute
	secondAndRest
	count
)

// The years that there are.
const (
	firstYear = 1970
	lastYear  = 2199
)

// second is how many microseconds it has.
const second = 1000000

// numbers are a local time's, one for each field.
type numbers [count]int64

// field is one of an expression's: its least number, and its parts, of which there is one at least.
type field struct {
	low   int64
	parts []cal.Part
}

// locals tells, rising, the local times from one on that match. An expression that is not right has none.
func locals(s cal.Spec, from int64) iter.Seq[int64] {
	return func(yield func(int64) bool) {
		s, wrong := cal.Normal(s)
		begin, none := civil.FromMicro(max(from, 0))
		if wrong != api.OK || none != api.OK {
			return
		}
		fields, least := fieldsOf(s), numbersOf(begin)
		var chosen numbers
		// choose goes through a field's numbers, and, for each, through the fields behind it. Tied: all fields ahead have the least numbers that they may have, so this one is not to begin below its own.
		var choose func(at int, tied bool) bool
		choose = func(at int, tied bool) bool {
			if at == count {
				return yield(chosen.micro())
			}
			f := fields[at]
			if at == day && s.End {
				f = f.fromEnd(chosen)
			}
			low := f.low
			if tied {
				low = least[at]
			}
			for n := range f.from(low) {
				chosen[at] = n
				if at == day && !onDay(s.Days, chosen.date()) {
					continue
				}
				if !choose(at+1, tied && n == least[at]) {
					return false
				}
			}
			return true
		}
		choose(year, true)
	}
}

// fieldsOf are the fields of an expression that is right. One without parts has all numbers; the second's is not without.
func fieldsOf(s cal.Spec) [count]field {
	all := func(low, high int64, parts []cal.Part) field {
		if len(parts) == 0 {
			parts = []cal.Part{{From: low, To: high, Step: 1}}
		}
		return field{low: low, parts: parts}
	}
	return [count]field{
		all(firstYear, lastYear, s.Year),
		all(1, 12, s.Month),
		all(1, 31, s.Day),
		all(0, 23, s.Hour),
		all(0, 59, s.Minute),
		{low: 0, parts: s.Second},
	}
}

// from tells, rising, the field's numbers that are not below one.
func (f field) from(low int64) iter.Seq[int64] {
	return func(yield func(int64) bool) {
		n, ok := f.least(low)
		for ok && yield(n) {
			n, ok = f.least(n + 1)
		}
	}
}

// least is the field's least number that is not below one.
func (f field) least(low int64) (int64, bool) {
	found, ok := int64(0), false
	for _, p := range f.parts {
		n := leastOf(p, low)
		if n <= p.To && (!ok || n < found) {
			found, ok = n, true
		}
	}
	return found, ok
}

// leastOf is the least number, not below one, to which the part's steps lead, be it of the part or behind it.
func leastOf(p cal.Part, low int64) int64 {
	// A part without a Step has one number alone, from which any Step leads.
	step := max(p.Step, 1)
	steps := (low - p.From + step - 1) / step
	return p.From + max(steps, 0)*step
}

// fromEnd is the field of the days of a month, when its numbers count how many are left with one.
func (f field) fromEnd(n numbers) field {
	behind := int64(civil.Long(int(n[year]), int(n[month]))) + 1
	var parts []cal.Part
	for _, p := range f.parts {
		last := p.To - (p.To-p.From)%max(p.Step, 1)
		parts = append(parts, cal.Part{From: behind - last, To: behind - p.From, Step: p.Step})
	}
	return field{low: f.low, parts: parts}
}

// onDay: is there that day, and is it one of these days of the week? (None are all.)
func onDay(days uint8, d civil.Date) bool {
	return civil.Right(d) && (days == 0 || days&(1<<(civil.Weekday(d)-1)) != 0)
}

func numbersOf(c civil.Clock) numbers {
	return numbers{
		int64(c.Year), int64(c.Month), int64(c.Day),
		int64(c.Hour), int64(c.Minute), int64(c.Second)*second + int64(c.Usec),
	}
}

func (n numbers) date() civil.Date {
	return civil.Date{Year: int(n[year]), Month: int(n[month]), Day: int(n[day])}
}

// micro is the local time that has these numbers.
func (n numbers) micro() int64 {
	local, _ := civil.Micro(civil.Clock{
		Date:   n.date(),
		Hour:   int(n[hour]),
		Minute: int(n[minute]),
		Second: int(n[secondAndRest] / second),
		Usec:   int(n[secondAndRest] % second),
	})
	return local
}
