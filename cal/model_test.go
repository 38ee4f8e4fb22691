package cal

import (
	"fmt"
	"math/rand"
	"regexp"
	"slices"
	"strconv"
	"strings"
	"testing"
	"time"

	"clepsydra/api"
	"clepsydra/civil"
)

// kind is a field by the chapter's table.
type kind struct {
	name            string
	low, high, unit int64
	of              func(s *Spec) *[]Part
}

func kinds() []kind {
	return []kind{
		{"year", 1970, 2199, 1, func(s *Spec) *[]Part { return &s.Year }},
		{"month", 1, 12, 1, func(s *Spec) *[]Part { return &s.Month }},
		{"day", 1, 31, 1, func(s *Spec) *[]Part { return &s.Day }},
		{"hour", 0, 23, 1, func(s *Spec) *[]Part { return &s.Hour }},
		{"minute", 0, 59, 1, func(s *Spec) *[]Part { return &s.Minute }},
		{"second", 0, 59999999, 1000000, func(s *Spec) *[]Part { return &s.Second }},
	}
}

func plainRight(s Spec) bool {
	for _, k := range kinds() {
		for i, p := range *k.of(&s) {
			if i >= 20 || p.From < k.low || p.From > k.high || p.To < k.low || p.To > k.high || p.To < p.From || p.Step < 0 || p.Step == 0 && p.To != p.From {
				return false
			}
		}
	}
	return s.Days < 128 && len(s.Second) != 0
}

// plainNormal puts each part where it belongs, of a right expression.
func plainNormal(s Spec) Spec {
	for _, k := range kinds() {
		var row []Part
		for _, p := range *k.of(&s) {
			if p.Step > p.To-p.From {
				p.To, p.Step = p.From, 0
			}
			key := func(p Part) string { return fmt.Sprintf("%08d %08d %08d", p.From, p.To, p.Step) }
			at := 0
			for at < len(row) && key(row[at]) < key(p) {
				at++
			}
			if at == len(row) || row[at] != p {
				row = slices.Insert(row, at, p)
			}
		}
		*k.of(&s) = row
	}
	s.Days %= 127
	return s
}

const dayList = "Mon,Tue,Wed,Thu,Fri,Sat,Sun"

// plainText tells a normal expression.
func plainText(s Spec) string {
	var days []string
	for i, name := range strings.Split(dayList, ",") {
		if s.Days>>i&1 == 1 {
			days = append(days, name)
		}
	}
	text := strings.Join(days, ",")
	// The longest rows first: each is a piece of the list of all days.
	for long := 7; long >= 3; long-- {
		for first := 0; first+long <= 7; first++ {
			row := strings.Split(dayList, ",")[first : first+long]
			text = strings.ReplaceAll(text, strings.Join(row, ","), row[0]+".."+row[long-1])
		}
	}
	if text != "" {
		text += " "
	}
	for i, k := range kinds() {
		text += plainField(k, *k.of(&s))
		text += []string{"-", "-", " ", ":", ":", ""}[i]
		if i == 1 && s.End {
			text = strings.TrimSuffix(text, "-") + "~"
		}
	}
	if s.UTC {
		text += " UTC"
	}
	return text
}

func plainField(k kind, parts []Part) string {
	if len(parts) == 0 || k.name == "second" && len(parts) == 1 && parts[0] == (Part{0, 59999999, 1000000}) {
		return "*"
	}
	var texts []string
	for _, p := range parts {
		from, to, step := plainNumber(k, p.From), plainNumber(k, p.To), plainNumber(k, p.Step)
		if k.name == "year" {
			step = strconv.FormatInt(p.Step, 10)
		}
		if len(step) > 1 && step[0] == '0' {
			step = step[1:]
		}
		text := from
		switch {
		case p.Step == 0:
		case p.Step == k.unit:
			text = from + ".." + to
		case p.To == k.high:
			text = from + "/" + step
		default:
			text = from + ".." + to + "/" + step
		}
		texts = append(texts, text)
	}
	return strings.Join(texts, ",")
}

func plainNumber(k kind, n int64) string {
	if k.name == "year" {
		return fmt.Sprintf("%04d", n)
	}
	if k.name != "second" {
		return fmt.Sprintf("%02d", n)
	}
	text := strings.TrimRight(fmt.Sprintf("%02d.%06d", n/1000000, n%1000000), "0")
	return strings.TrimSuffix(text, ".")
}

// anyLetters is a pattern of a text in small or great letters.
func anyLetters(text string) string {
	var b strings.Builder
	for _, letter := range text {
		fmt.Fprintf(&b, "[%s%s]", strings.ToLower(string(letter)), strings.ToUpper(string(letter)))
	}
	return b.String()
}

var longDays = []string{"monday", "tuesday", "wednesday", "thursday", "friday", "saturday", "sunday"}

var plainWords = map[string]string{
	"minutely":     "*-*-* *:*:00",
	"hourly":       "*-*-* *:00:00",
	"daily":        "*-*-* 00:00:00",
	"midnight":     "*-*-* 00:00:00",
	"weekly":       "Mon *-*-* 00:00:00",
	"monthly":      "*-*-01 00:00:00",
	"quarterly":    "*-01,04,07,10-01 00:00:00",
	"semiannually": "*-01,07-01 00:00:00",
	"yearly":       "*-01-01 00:00:00",
	"annually":     "*-01-01 00:00:00",
}

// wordPattern is of the words.
var wordPattern = func() *regexp.Regexp {
	var words []string
	for word := range plainWords {
		words = append(words, anyLetters(word))
	}
	return regexp.MustCompile("^(" + strings.Join(words, "|") + `)((?:[ \t]+UTC)?)$`)
}()

// textPattern is of all texts but words, without blanks at their ends.
var textPattern = func() *regexp.Regexp {
	var names []string
	for _, name := range longDays {
		names = append(names, anyLetters(name), anyLetters(name[:3]))
	}
	day := "(?:" + strings.Join(names, "|") + ")"
	row := day + `(?:\.\.` + day + `)?`
	field := func(number string) string {
		part := strings.ReplaceAll(`(?:\*/N|N(?:\.\.N)?(?:/N)?)`, "N", number)
		return `(\*|` + part + `(?:,` + part + `)*)`
	}
	of, ofSecond := field(`[0-9]{1,6}`), field(`[0-9]{1,6}(?:\.[0-9]{1,6})?`)
	behind := `(?:[ \t]+|$)`
	return regexp.MustCompile(`^(?:(` + row + `(?:,` + row + `)*)` + behind + `)?` +
		`(?:(?:` + of + `-)?` + of + `([-~])` + of + behind + `)?` +
		`(?:` + of + `:` + of + `(?::` + ofSecond + `)?` + behind + `)?` +
		`(UTC)?$`)
}()

// plainParse is the normal form of what a text tells, by patterns; false: it tells nothing.
func plainParse(t string) (Spec, bool) {
	if len(t) > 4000 {
		return Spec{}, false
	}
	t = strings.Trim(t, " \t")
	if found := wordPattern.FindStringSubmatch(t); found != nil {
		return plainParse(plainWords[strings.ToLower(found[1])] + found[2])
	}
	found := textPattern.FindStringSubmatch(t)
	if found == nil || found[1]+found[3]+found[6] == "" {
		return Spec{}, false
	}
	s := Spec{Days: plainDays(found[1]), End: found[4] == "~", UTC: found[9] != ""}
	texts := []string{found[2], found[3], found[5], found[6], found[7], found[8]}
	for i, k := range kinds() {
		text := texts[i]
		if text == "" {
			text = []string{"*", "*", "*", "0", "0", "0"}[i]
		}
		parts, ok := plainParts(k, text)
		if !ok {
			return Spec{}, false
		}
		*k.of(&s) = parts
	}
	if !plainRight(s) {
		return Spec{}, false
	}
	return plainNormal(s), true
}

// plainDays goes from day to day.
func plainDays(text string) uint8 {
	var days uint8
	if text == "" {
		return 0
	}
	for _, row := range strings.Split(strings.ToLower(text), ",") {
		ends := strings.Split(row, "..")
		is := func(day int, name string) bool { return longDays[day%7][:3] == name[:3] }
		day := 0
		for !is(day, ends[0]) {
			day++
		}
		for days |= 1 << (day % 7); !is(day, ends[len(ends)-1]); days |= 1 << (day % 7) {
			day++
		}
	}
	return days
}

// plainParts is of a text that goes by the pattern; false: a step is 0.
func plainParts(k kind, text string) ([]Part, bool) {
	if text == "*" && k.name == "second" {
		return []Part{{0, 59999999, 1000000}}, true
	}
	if text == "*" {
		return nil, true
	}
	var parts []Part
	for _, part := range strings.Split(text, ",") {
		pieces := strings.Split(part, "/")
		ends := strings.Split(pieces[0], "..")
		p := Part{k.low, k.high, k.unit}
		if ends[0] != "*" {
			p.From = plainValue(k, ends[0])
		}
		if len(ends) == 2 {
			p.To = plainValue(k, ends[1])
		}
		if len(pieces) == 2 {
			p.Step = plainValue(k, pieces[1])
			if p.Step == 0 {
				return nil, false
			}
		}
		if len(ends) == 1 && len(pieces) == 1 {
			p = Part{p.From, p.From, 0}
		}
		parts = append(parts, p)
	}
	return parts, true
}

func plainValue(k kind, text string) int64 {
	pieces := strings.Split(text+".", ".")
	n, _ := strconv.ParseInt(pieces[0], 10, 64)
	if k.name != "second" {
		return n
	}
	rest, _ := strconv.ParseInt((pieces[1] + "000000")[:6], 10, 64)
	return n*1000000 + rest
}

// libraryTime is the library's; false: it has another day or time in place of it.
func libraryTime(c civil.Clock) (time.Time, bool) {
	at := time.Date(c.Year, time.Month(c.Month), c.Day, c.Hour, c.Minute, c.Second, c.Usec*1000, time.UTC)
	same := at.Year() == c.Year && int(at.Month()) == c.Month && at.Day() == c.Day &&
		at.Hour() == c.Hour && at.Minute() == c.Minute && at.Second() == c.Second && at.Nanosecond() == c.Usec*1000
	return at, same && c.Year >= 1 && c.Year <= 9999
}

// plainMatch is by the library's calendar.
func plainMatch(s Spec, c civil.Clock) bool {
	at, ok := libraryTime(c)
	if !ok || !plainRight(s) {
		return false
	}
	if s.Days != 0 && s.Days>>((int(at.Weekday())+6)%7)&1 == 0 {
		return false
	}
	day := c.Day
	if s.End {
		day = 1
		for at.AddDate(0, 0, day).Month() == at.Month() {
			day++
		}
	}
	numbers := []int{c.Year, c.Month, day, c.Hour, c.Minute, c.Second*1000000 + c.Usec}
	for i, k := range kinds() {
		parts := *k.of(&s)
		any := len(parts) == 0
		for _, p := range parts {
			any = any || plainHas(p, int64(numbers[i]))
		}
		if !any {
			return false
		}
	}
	return true
}

func plainHas(p Part, n int64) bool {
	if p.Step == 0 {
		return n == p.From
	}
	return p.From <= n && n <= p.To && n == p.From+(n-p.From)/p.Step*p.Step
}

// lot draws expressions, texts and times.
type lot struct{ *rand.Rand }

func newLot(seed int64) lot { return lot{rand.New(rand.NewSource(seed))} }

func (l lot) one(in int) bool { return l.Intn(in) == 0 }

// number is often at the ends of the field, or a whole number of its units.
func (l lot) number(k kind) int64 {
	switch l.Intn(6) {
	case 0:
		return k.low
	case 1:
		return k.high
	case 2:
		return k.low + l.Int63n(k.high-k.low+1)
	}
	return k.low + l.Int63n((k.high-k.low)/k.unit+1)*k.unit
}

func (l lot) part(k kind) Part {
	from, to := l.number(k), l.number(k)
	from, to = min(from, to), max(from, to)
	switch l.Intn(8) {
	case 0, 1, 2:
		return Part{from, from, 0}
	case 3:
		return Part{from, to, k.unit}
	case 4:
		return Part{from, to, max(to-from+l.Int63n(3)-1, 1)}
	case 5:
		return Part{from, k.high, k.unit * (1 + l.Int63n(9))}
	case 6:
		return Part{from, to, 1 + l.Int63n(k.high)}
	}
	return Part{from, to, k.unit * (1 + l.Int63n(9))}
}

func (l lot) parts(k kind) []Part {
	var parts []Part
	for range []int{0, 0, 1, 1, 1, 2, 3, 5, 20}[l.Intn(9)] {
		parts = append(parts, l.part(k))
	}
	if len(parts) > 1 && l.one(2) {
		parts[0] = parts[len(parts)-1]
	}
	return parts
}

// spec is a right expression.
func (l lot) spec() Spec {
	s := Spec{Days: uint8(l.Intn(128)), End: l.one(2), UTC: l.one(2)}
	if l.one(2) {
		s.Days = []uint8{0, 127, 1 << l.Intn(7)}[l.Intn(3)]
	}
	for _, k := range kinds() {
		*k.of(&s) = l.parts(k)
	}
	if len(s.Second) == 0 {
		s.Second = []Part{{0, 59999999, 1000000}}
	}
	return s
}

// spoilt is an expression that need not be right.
func (l lot) spoilt() Spec {
	s := l.spec()
	k := kinds()[l.Intn(6)]
	parts := *k.of(&s)
	switch {
	case l.one(8):
		s.Days = uint8(l.Intn(256))
	case len(parts) == 0 || l.one(8):
		*k.of(&s) = nil
	case l.one(8):
		*k.of(&s) = append(parts, parts...)
	default:
		p := &parts[l.Intn(len(parts))]
		at := []*int64{&p.From, &p.To, &p.Step}[l.Intn(3)]
		*at = []int64{0, -1, *at - 1, *at + 1, k.low - 1, k.high + 1, 1 << 62, -1 << 63}[l.Intn(8)]
	}
	return s
}

// clock is a time near the numbers of the expression, which there need not be.
func (l lot) clock(s Spec) civil.Clock {
	var numbers [6]int64
	for i, k := range kinds() {
		numbers[i] = l.number(k)
		if parts := *k.of(&s); len(parts) > 0 && !l.one(4) {
			p := parts[l.Intn(len(parts))]
			numbers[i] = []int64{p.From, p.To, p.From + p.Step, p.From + (p.To-p.From)/max(p.Step, 1)*p.Step}[l.Intn(4)]
			if l.one(6) {
				numbers[i] += l.Int63n(3) - 1
			}
		}
	}
	c := civil.Clock{
		Date:   civil.Date{Year: int(numbers[0]), Month: int(numbers[1]), Day: int(numbers[2])},
		Hour:   int(numbers[3]),
		Minute: int(numbers[4]),
		Second: int(numbers[5] / 1000000),
		Usec:   int(numbers[5] % 1000000),
	}
	if s.End {
		c.Day = civil.Long(c.Year, c.Month) - c.Day + 1
	}
	return c
}

func (l lot) of(texts ...string) string { return texts[l.Intn(len(texts))] }

// letters are those of a text, small or great ones.
func (l lot) letters(text string) string {
	switch l.Intn(4) {
	case 0:
		return strings.ToUpper(text)
	case 1:
		return text
	case 2:
		return strings.ToUpper(text[:1]) + text[1:]
	}
	b := []byte(text)
	for i := range b {
		b[i] = l.letters(text[i : i+1])[0]
	}
	return string(b)
}

func (l lot) dayName() string {
	name := longDays[l.Intn(7)]
	if l.one(2) {
		name = name[:3]
	}
	return l.letters(name)
}

func (l lot) dayText() string {
	var rows []string
	for range 1 + l.Intn(3) {
		row := l.dayName()
		if l.one(3) {
			row += ".." + l.dayName()
		}
		rows = append(rows, row)
	}
	return strings.Join(rows, ",")
}

func (l lot) numberText(k kind, n int64) string {
	text := strconv.FormatInt(n/k.unit, 10)
	if l.one(3) {
		text = strings.Repeat("0", l.Intn(7-min(len(text), 6))) + text
	}
	if k.unit > 1 && (n%k.unit > 0 || l.one(4)) {
		text += fmt.Sprintf(".%06d", n%k.unit)
		if l.one(2) {
			text = strings.TrimRight(text, "0")
			if strings.HasSuffix(text, ".") {
				text += "0"
			}
		}
	}
	return text
}

func (l lot) fieldText(k kind) string {
	if l.one(3) {
		return "*"
	}
	var texts []string
	for range 1 + l.Intn(3) {
		p := l.part(k)
		if !l.one(20) {
			p.Step = max(p.Step, 1)
		}
		text := l.numberText(k, p.From)
		switch l.Intn(5) {
		case 0:
			text = "*/" + l.numberText(k, p.Step)
		case 1:
			text += "/" + l.numberText(k, p.Step)
		case 2:
			text += ".." + l.numberText(k, p.To)
		case 3:
			text += ".." + l.numberText(k, p.To) + "/" + l.numberText(k, p.Step)
		}
		texts = append(texts, text)
	}
	return strings.Join(texts, ",")
}

// text is mostly one that tells an expression.
func (l lot) text() string {
	var rows []string
	k := kinds()
	if l.one(6) {
		rows = append(rows, l.letters(l.of("minutely", "hourly", "daily", "midnight", "weekly", "monthly", "quarterly", "semiannually", "yearly", "annually")))
	} else {
		if l.one(2) {
			rows = append(rows, l.dayText())
		}
		if !l.one(4) {
			date := l.fieldText(k[1]) + l.of("-", "~") + l.fieldText(k[2])
			if !l.one(3) {
				date = l.fieldText(k[0]) + "-" + date
			}
			rows = append(rows, date)
		}
		if !l.one(4) {
			time := l.fieldText(k[3]) + ":" + l.fieldText(k[4])
			if !l.one(3) {
				time += ":" + l.fieldText(k[5])
			}
			rows = append(rows, time)
		}
	}
	if l.one(3) {
		rows = append(rows, "UTC")
	}
	text := l.of("", "", " ", "\t ")
	for i, row := range rows {
		if i > 0 {
			text += l.of(" ", " ", "  ", "\t", " \t ")
		}
		text += row
	}
	return text + l.of("", "", "   ", "\t")
}

// spoiltText has a byte more, less, twice, another one, or two of them the other way round.
func (l lot) spoiltText() string {
	b := []byte(l.text())
	const marks = "*-~:,./ 0159MonUTC+T_\n"
	for range 1 + l.Intn(2) {
		if len(b) < 2 {
			break
		}
		at := l.Intn(len(b) - 1)
		switch l.Intn(5) {
		case 0:
			b = slices.Delete(b, at, at+1)
		case 1:
			b = slices.Insert(b, at, b[at])
		case 2:
			b = slices.Insert(b, at, marks[l.Intn(len(marks))])
		case 3:
			b[at] = marks[l.Intn(len(marks))]
		case 4:
			b[at], b[at+1] = b[at+1], b[at]
		}
	}
	return string(b)
}

// P9.1 to P9.3, P9.8: expressions drawn by lot, right ones and others.
func TestExpressionsByLot(t *testing.T) {
	l := newLot(9)
	right := 0
	for range 20000 {
		s := l.spec()
		if l.one(2) {
			s = l.spoilt()
		}
		if !plainRight(s) {
			isWrong(t, s)
			continue
		}
		right++
		want := plainNormal(s)
		normalIs(t, s, want)
		textIs(t, s, plainText(want))
	}
	if right < 12000 || right > 19000 {
		t.Error(right, "were right")
	}
}

// P9.4: texts drawn by lot, and others that were spoilt.
func TestTextsByLot(t *testing.T) {
	l := newLot(94)
	told := map[bool]int{}
	for range 30000 {
		text := l.text()
		spoilt := l.one(2)
		if spoilt {
			text = l.spoiltText()
		}
		want, ok := plainParse(text)
		told[ok]++
		if ok {
			parsedIs(t, text, want)
		} else {
			isNone(t, text)
		}
	}
	if told[true] < 10000 || told[false] < 10000 {
		t.Error(told)
	}
}

// P9.4: each text that is made of few bytes, as far as there is time.
func TestShortTexts(t *testing.T) {
	told := 0
	for _, x := range []struct {
		marks string
		long  int
	}{{"1*-:,./~ 0", 5}, {"1:/.*", 7}, {"2-~,*", 6}, {"0:. 9", 6}} {
		allTexts(x.marks, x.long, func(text string) {
			want, ok := plainParse(text)
			if got, err := Parse(text); ok != (err == api.OK) || !same(got, want) {
				t.Errorf("%q: %+v, %d", text, got, err)
			}
			if ok {
				told++
			}
		})
	}
	if told < 300 {
		t.Error("only", told)
	}
}

// allTexts are all of so many bytes, and of fewer, of these marks.
func allTexts(marks string, long int, check func(text string)) {
	rows := []string{""}
	for range long + 1 {
		var more []string
		for _, text := range rows {
			check(text)
			for i := range len(marks) {
				more = append(more, text+marks[i:i+1])
			}
		}
		rows = more
	}
}

// P9.4: every byte at every place of some texts.
func TestBytesOfTexts(t *testing.T) {
	for _, text := range []string{"Mon..Wed,Fri 2026-1..12/3~1 2,4/5:0:7.25 UTC", "Thursday *:*/2", "daily UTC", "semiannually", "2-29"} {
		for at := range len(text) {
			for n := range 256 {
				b := []byte(text)
				b[at] = byte(n)
				want, ok := plainParse(string(b))
				if got, err := Parse(string(b)); ok != (err == api.OK) || !same(got, want) {
					t.Errorf("%q: %+v, %d", b, got, err)
				}
			}
		}
	}
}

// P9.6, P9.8: expressions and times drawn by lot.
func TestMatchesByLot(t *testing.T) {
	l := newLot(96)
	matched := 0
	for range 30000 {
		s := l.spec()
		if l.one(4) {
			s = l.spoilt()
		}
		if l.one(2) {
			s.Days = 0
		}
		for range 4 {
			c := l.clock(s)
			want := plainMatch(s, c)
			matchIs(t, s, c, want)
			if want {
				matched++
			}
		}
	}
	if matched < 10000 {
		t.Error("only", matched)
	}
}
