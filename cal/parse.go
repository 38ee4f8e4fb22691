package cal

import (
	"strconv"
	"strings"

	"clepsydra/api"
)

// What a text may have.
const (
	longestText = 4000
	mostDigits  = 6

	blanks  = " \t"
	digits  = "0123456789"
	letters = "ABCDEFGHIJKLMNOPQRSTUVWXYZabcdefghijklmnopqrstuvwxyz"
)

// What a text tells that has no date, no time, or no seconds.
const (
	anyDate  = "*-*-*"
	midnight = "00:00:00"
	nought   = "00"
)

// missing is told of a text that is no number, or no step: an expression that has it is not right.
const missing = -1

// pieces are what stands between a text's blanks, nothing for days of the week that are not told.
type pieces struct {
	days, date, time string
	utc              bool
}

// Parse is the normal form of the expression that a text tells.
func Parse(t string) (Spec, api.Errno) {
	told, ok := piecesOf(t)
	if !ok {
		return Spec{}, api.ErrCal
	}
	s, ok := told.spec()
	if !ok || !Right(s) {
		return Spec{}, api.ErrCal
	}
	return Normal(s)
}

// words tell a whole expression each; they stand in small letters here.
func words() map[string]pieces {
	return map[string]pieces{
		"minutely":     {date: anyDate, time: "*:*:00"},
		"hourly":       {date: anyDate, time: "*:00:00"},
		"daily":        {date: anyDate, time: midnight},
		"midnight":     {date: anyDate, time: midnight},
		"weekly":       {days: "Mon", date: anyDate, time: midnight},
		"monthly":      {date: "*-*-01", time: midnight},
		"quarterly":    {date: "*-01,04,07,10-01", time: midnight},
		"semiannually": {date: "*-01,07-01", time: midnight},
		"yearly":       {date: "*-01-01", time: midnight},
		"annually":     {date: "*-01-01", time: midnight},
	}
}

// piecesOf takes a text apart; false, if there is nothing, or something in another's place.
func piecesOf(t string) (pieces, bool) {
	if len(t) > longestText {
		return pieces{}, false
	}
	left := strings.FieldsFunc(t, func(r rune) bool { return strings.ContainsRune(blanks, r) })
	last := len(left) - 1
	utc := last >= 0 && left[last] == zoneName
	if utc {
		left = left[:last]
	}
	if len(left) == 0 {
		return pieces{}, false
	}
	told, isWord := words()[small(left[0])]
	if isWord {
		left = left[1:]
	} else {
		told, left = inTurn(left)
	}
	told.utc = utc
	return told, len(left) == 0
}

// inTurn are days, a date and a time, as far as they are told in this order, and what is left behind them.
func inTurn(left []string) (pieces, []string) {
	told := pieces{date: anyDate, time: midnight}
	for _, next := range []struct {
		piece *string
		marks string
	}{{&told.days, letters}, {&told.date, dash + fromEnd}, {&told.time, colon}} {
		if len(left) > 0 && strings.ContainsAny(left[0], next.marks) {
			*next.piece, left = left[0], left[1:]
		}
	}
	return told, left
}

// spec is the expression that the pieces tell, which need not be right; false, if its days are none.
func (p pieces) spec() (Spec, bool) {
	days, ok := daysOf(p.days)
	s := Spec{Days: days, UTC: p.utc}
	var texts [6]string
	texts[0], texts[1], texts[2], s.End = splitDate(p.date)
	texts[3], texts[4], texts[5] = splitTime(p.time)
	for i, f := range fieldsOf(&s) {
		*f.parts() = f.partsOf(texts[i])
	}
	return s, ok
}

// splitDate tells a date's fields apart, and whether its days count from the month's end. The year may be missing.
func splitDate(date string) (year, month, day string, end bool) {
	at := strings.LastIndexAny(date, dash+fromEnd)
	ahead, day := date[:at], date[at+1:]
	year, month, told := strings.Cut(ahead, dash)
	if !told {
		year, month = every, ahead
	}
	return year, month, day, date[at:at+1] == fromEnd
}

// splitTime tells a time's fields apart. The second may be missing.
func splitTime(time string) (hour, minute, second string) {
	hour, behind, _ := strings.Cut(time, colon)
	minute, second, told := strings.Cut(behind, colon)
	if !told {
		second = nought
	}
	return hour, minute, second
}

// daysOf are the days of the week that a text tells; false, if one is none.
func daysOf(text string) (uint8, bool) {
	if text == "" {
		return 0, true
	}
	var days uint8
	for _, row := range strings.Split(text, also) {
		from, to, isRange := strings.Cut(row, upTo)
		if !isRange {
			to = from
		}
		first, isDay := dayOf(from)
		last, areDays := dayOf(to)
		if !isDay || !areDays {
			return 0, false
		}
		// A range that goes round ends in the next week.
		for i := range (last-first+len(dayNames))%len(dayNames) + 1 {
			days |= 1 << ((first + i) % len(dayNames))
		}
	}
	return days, true
}

// dayOf tells which day of the week has that name, in small or great letters.
func dayOf(name string) (int, bool) {
	for day, long := range dayNames {
		long, name := small(long), small(name)
		if name == long || name == long[:shortDay] {
			return day, true
		}
	}
	return 0, false
}

// partsOf are the field's parts that a text tells.
func (f field) partsOf(text string) []Part {
	if text == every {
		return f.each()
	}
	var parts []Part
	for _, part := range strings.Split(text, also) {
		parts = append(parts, f.partOf(part))
	}
	return parts
}

func (f field) partOf(text string) Part {
	ahead, step, hasStep := strings.Cut(text, by)
	from, to, isRange := strings.Cut(ahead, upTo)
	p := Part{From: f.low, To: f.high, Step: f.unit}
	if ahead != every || !hasStep {
		p.From = f.numberOf(from)
	}
	if isRange {
		p.To = f.numberOf(to)
	}
	if hasStep {
		p.Step = f.stepOf(step)
	}
	if !isRange && !hasStep {
		p.To, p.Step = p.From, 0
	}
	return p
}

// stepOf is a text's number, but not 0, which tells no step.
func (f field) stepOf(text string) int64 {
	step := f.numberOf(text)
	if step == 0 {
		return missing
	}
	return step
}

// numberOf is the number that a text tells, in the field's unit; only one that is made of smaller ones has a point.
func (f field) numberOf(text string) int64 {
	whole, rest, pointed := strings.Cut(text, point)
	if !isNumber(whole) || pointed && (f.unit == 1 || !isNumber(rest)) {
		return missing
	}
	return number(whole)*f.unit + number(rest+strings.Repeat("0", mostDigits-len(rest)))
}

// isNumber: is it digits, and not too many?
func isNumber(text string) bool {
	return text != "" && len(text) <= mostDigits && strings.Trim(text, digits) == ""
}

func number(text string) int64 {
	n, _ := strconv.ParseInt(text, 10, 64)
	return n
}

// small is a text with small letters in place of great ones, of those alone that a day or a word may have.
func small(text string) string {
	b := []byte(text)
	for i := range b {
		if 'A' <= b[i] && b[i] <= 'Z' {
			b[i] += 'a' - 'A'
		}
	}
	return string(b)
}
