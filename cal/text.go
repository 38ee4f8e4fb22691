package cal

import (
	"slices"
	"strconv"
	"strings"

	"clepsydra/api"
)

// The marks of a text.
const (
	every    = "*"
	also     = ","
	upTo     = ".."
	by       = "/"
	point    = "."
	dash     = "-"
	fromEnd  = "~"
	colon    = ":"
	blank    = " "
	zoneName = "UTC"
)

const (
	// shortDay is how many letters a day's name has at least, and shortNumber how many digits a number has. (A year has more.)
	shortDay    = 3
	shortNumber = 2
	shortStep   = 1

	// shortestRow is of how many days the first and the last are told alone.
	shortestRow = 3
)

// dayNames are the days of the week, written out.
var dayNames = [7]string{"Monday", "Tuesday", "Wednesday", "Thursday", "Friday", "Saturday", "Sunday"}

// Text tells an expression's normal form.
func Text(s Spec) (string, api.Errno) {
	s, err := Normal(s)
	if err != api.OK {
		return "", err
	}
	var texts [6]string
	for i, f := range fieldsOf(&s) {
		texts[i] = f.text()
	}
	mark := dash
	if s.End {
		mark = fromEnd
	}
	text := texts[0] + dash + texts[1] + mark + texts[2] + blank + texts[3] + colon + texts[4] + colon + texts[5]
	if s.Days != 0 {
		text = daysText(s.Days) + blank + text
	}
	if s.UTC {
		text += blank + zoneName
	}
	return text, api.OK
}

// daysText tells days of the week.
func daysText(days uint8) string {
	var rows []string
	for first := 0; first < len(dayNames); first++ {
		// Shifting brings in noughts: so a row ends with the week at the latest.
		row := 0
		for days>>(first+row)&1 == 1 {
			row++
		}
		if row >= shortestRow {
			rows = append(rows, dayNames[first][:shortDay]+upTo+dayNames[first+row-1][:shortDay])
			first += row
		} else if row > 0 {
			rows = append(rows, dayNames[first][:shortDay])
		}
	}
	return strings.Join(rows, also)
}

// text tells the field's parts.
func (f field) text() string {
	parts := *f.parts()
	if slices.Equal(parts, f.each()) {
		return every
	}
	var texts []string
	for _, p := range parts {
		texts = append(texts, f.partText(p))
	}
	return strings.Join(texts, also)
}

func (f field) partText(p Part) string {
	text := f.numberText(p.From, shortNumber)
	if p.Step == 0 {
		return text
	}
	if p.Step == f.unit {
		return text + upTo + f.numberText(p.To, shortNumber)
	}
	if p.To != f.high {
		text += upTo + f.numberText(p.To, shortNumber)
	}
	return text + by + f.numberText(p.Step, shortStep)
}

// numberText tells a number in the field's unit, with so many digits at least, and what is left of it behind a point.
func (f field) numberText(n int64, width int) string {
	whole := strconv.FormatInt(n/f.unit, 10)
	text := strings.Repeat("0", max(width-len(whole), 0)) + whole
	if n%f.unit == 0 {
		return text
	}
	// A unit more keeps the noughts ahead of the rest.
	rest := strconv.FormatInt(f.unit+n%f.unit, 10)[1:]
	return text + point + strings.TrimRight(rest, "0")
}
