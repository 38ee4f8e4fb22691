package footer

import (
	"math/rand"
	"regexp"
	"sort"
	"strconv"
	"testing"
	"time"

	"clepsydra/api"
)

// The parts of a text, by the chapter's words: names, offsets, days and their times.
const (
	nameForm = `(?:([A-Za-z]{3,10})|<([A-Za-z0-9+-]{3,10})>)`
	restForm = `([0-9]{1,3})(?::([0-5][0-9]))?(?::([0-5][0-9]))?`
	dayForm  = `(?:J([0-9]{1,3})|([0-9]{1,3})|M([0-9]{1,3})\.([0-9])\.([0-9]{1,3}))(?:/(-?)` + restForm + `)?`
)

var (
	stdOnly  = regexp.MustCompile(`^` + nameForm + `([+-]?)` + restForm + `$`)
	withDst  = regexp.MustCompile(`^` + nameForm + `([+-]?)` + restForm + nameForm + `(?:([+-]?)` + restForm + `)?,(` + dayForm + `),(` + dayForm + `)$`)
	dayAlone = regexp.MustCompile(`^` + dayForm + `$`)
)

// numberOf is what digits tell, or 0 of none.
func numberOf(digits string) int {
	n, _ := strconv.Atoi(digits)
	return n
}

// timeOf is what a sign and three numbers tell; false: a sign ahead of 0.
func timeOf(p []string) (int, bool) {
	n := numberOf(p[1])*3600 + numberOf(p[2])*60 + numberOf(p[3])
	if p[0] == "-" {
		return -n, n != 0
	}
	return n, true
}

// dayOf is what a day's text tells.
func dayOf(text string) (Day, bool) {
	p := dayAlone.FindStringSubmatch(text)
	d := Day{Time: 7200}
	switch {
	case p[1] != "":
		d.Kind, d.Day = Julian, numberOf(p[1])
	case p[2] != "":
		d.Kind, d.Day = Zero, numberOf(p[2])
	default:
		d.Kind, d.Month, d.Week, d.Day = Month, numberOf(p[3]), numberOf(p[4]), numberOf(p[5])
	}
	ok := true
	if p[7] != "" {
		d.Time, ok = timeOf(p[6:10])
	}
	return d, ok
}

// plainParse is Parse, by patterns.
func plainParse(text string) (Rule, bool) {
	if p := stdOnly.FindStringSubmatch(text); p != nil {
		behind, ok := timeOf(p[3:7])
		r := Rule{Std: p[1] + p[2], Off: -behind}
		return r, ok && plainRight(r)
	}
	p := withDst.FindStringSubmatch(text)
	if p == nil {
		return Rule{}, false
	}
	behind, ok := timeOf(p[3:7])
	r := Rule{Std: p[1] + p[2], Dst: p[7] + p[8], Off: -behind, DstOff: 3600 - behind}
	if p[10] != "" {
		dstBehind, dstOK := timeOf(p[9:13])
		r.DstOff, ok = -dstBehind, ok && dstOK
	}
	start, startOK := dayOf(p[13])
	end, endOK := dayOf(p[23])
	r.Start, r.End = start, end
	return r, ok && startOK && endOK && plainRight(r)
}

var (
	aName  = regexp.MustCompile(`^[A-Za-z0-9+-]{3,10}$`)
	letter = regexp.MustCompile(`^[A-Za-z]*$`)
)

// plainDay: is it a day, by the chapter's words in their order?
func plainDay(d Day) bool {
	kind := map[uint8]bool{
		Julian: d.Day >= 1 && d.Day <= 365 && d.Month == 0 && d.Week == 0,
		Zero:   d.Day >= 0 && d.Day <= 365 && d.Month == 0 && d.Week == 0,
		Month:  d.Month >= 1 && d.Month <= 12 && d.Week >= 1 && d.Week <= 5 && d.Day >= 0 && d.Day <= 6,
	}
	return kind[d.Kind] && d.Time >= -604799 && d.Time <= 604799
}

// plainRight is Right, by the chapter's words in their order.
func plainRight(r Rule) bool {
	right := aName.MatchString(r.Std) && r.Off >= -89999 && r.Off <= 89999
	without := r.Dst == "" && r.DstOff == 0 && r.Start == Day{} && r.End == Day{}
	with := aName.MatchString(r.Dst) && r.DstOff >= -89999 && r.DstOff <= 89999 && plainDay(r.Start) && plainDay(r.End)
	return right && (without || with)
}

// dayOfYear is a day, without its time, of a year.
type dayOfYear struct {
	d    Day
	year int
}

// begins keeps what was told before, as days are told one by one.
var begins = map[dayOfYear]int64{}

// plainSwitch is a right day's Switch, by the library's calendar.
func plainSwitch(d Day, year int) int64 {
	x := dayOfYear{d, year}
	x.d.Time = 0
	if _, ok := begins[x]; !ok {
		begins[x] = plainBegin(x.d, year).Unix()
	}
	return begins[x] + int64(d.Time)
}

// plainBegin is when a day begins, told day by day.
func plainBegin(d Day, year int) time.Time {
	first := time.Date(year, 1, 1, 0, 0, 0, 0, time.UTC)
	var days []time.Time
	for at := first; len(days) < 366; at = at.AddDate(0, 0, 1) {
		leap := at.Month() == time.February && at.Day() == 29
		switch {
		case d.Kind == Julian && leap:
		case d.Kind == Month && (at.Year() != year || int(at.Month()) != d.Month || int(at.Weekday()) != d.Day):
			if at.Year() != year {
				return days[min(d.Week, len(days))-1]
			}
		default:
			days = append(days, at)
		}
	}
	if d.Kind == Julian {
		return days[d.Day-1]
	}
	return days[d.Day]
}

// instant is one at which a switch is.
type instant struct {
	at  int64
	end bool
}

// plainAt is At, by all instants in order.
func plainAt(r Rule, seconds int64) (int, bool) {
	if !plainRight(r) {
		return 0, false
	}
	if r.Dst == "" {
		return r.Off, false
	}
	if seconds < -10000000000 {
		seconds = -10000000000
	}
	if seconds > 100000000000 {
		seconds = 100000000000
	}
	year := time.Unix(seconds+int64(r.Off), 0).UTC().Year()
	var all []instant
	for _, y := range []int{year - 2, year - 1, year, year + 1} {
		all = append(all, instant{plainSwitch(r.Start, y) - int64(r.Off), false}, instant{plainSwitch(r.End, y) - int64(r.DstOff), true})
	}
	sort.Slice(all, func(i, j int) bool {
		if all[i].at != all[j].at {
			return all[i].at < all[j].at
		}
		return !all[i].end && all[j].end
	})
	off, dst := 0, false
	for _, x := range all {
		switch {
		case x.at > seconds:
		case x.end:
			off, dst = r.Off, false
		default:
			off, dst = r.DstOff, true
		}
	}
	return off, dst
}

// lot draws rules, and what is in them.
type lot struct{ *rand.Rand }

func newLot(seed int64) lot { return lot{rand.New(rand.NewSource(seed))} }

func (l lot) name() string {
	const all = "ABCXYZabcxyz0189+-"
	among := len(all)
	if l.Intn(2) == 0 {
		among = 12
	}
	b := make([]byte, 3+l.Intn(8))
	for i := range b {
		b[i] = all[l.Intn(among)]
	}
	return string(b)
}

// seconds are up to a bound, at times whole minutes or hours.
func (l lot) seconds(most int) int {
	unit := []int{1, 60, 3600}[l.Intn(3)]
	return (l.Intn(2*most+1) - most) / unit * unit
}

func (l lot) day() Day {
	d := Day{Kind: uint8(1 + l.Intn(3)), Time: 7200}
	switch d.Kind {
	case Julian:
		d.Day = 1 + l.Intn(365)
	case Zero:
		d.Day = l.Intn(366)
	default:
		d.Month, d.Week, d.Day = 1+l.Intn(12), 1+l.Intn(5), l.Intn(7)
	}
	if l.Intn(2) == 0 {
		d.Time = l.seconds(604799)
	}
	return d
}

func (l lot) rule() Rule {
	r := Rule{Std: l.name(), Off: l.seconds(89999)}
	if l.Intn(8) == 0 {
		return r
	}
	r.Dst, r.DstOff, r.Start, r.End = l.name(), l.seconds(89999), l.day(), l.day()
	if l.Intn(3) == 0 && r.Off <= 86399 {
		r.DstOff = r.Off + 3600
	}
	return r
}

// tells fails unless a text tells that rule.
func tells(t *testing.T, text string, want Rule) {
	t.Helper()
	r, err := Parse(text)
	if err != api.OK || r != want {
		t.Errorf("Parse(%q) = %+v, %d, not %+v", text, r, err, want)
	}
	if !Right(r) {
		t.Errorf("Parse(%q) = %+v is not right", text, r)
	}
}

// isNone fails unless a text is no rule's.
func isNone(t *testing.T, text string) {
	t.Helper()
	r, err := Parse(text)
	if err != api.ErrFooter || r != (Rule{}) {
		t.Errorf("Parse(%q) = %+v, %d", text, r, err)
	}
}

// asModel fails unless a text is told as by patterns.
func asModel(t *testing.T, text string) (told bool) {
	t.Helper()
	want, ok := plainParse(text)
	if ok {
		tells(t, text, want)
	} else {
		isNone(t, text)
	}
	return ok
}
