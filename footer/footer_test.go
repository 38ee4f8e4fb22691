package footer

import (
	"math"
	"strconv"
	"strings"
	"testing"
	"time"
	"unsafe"

	"clepsydra/api"
	"clepsydra/tzif"
)

// The chapter's rule, its text, and others that tests begin with.
const (
	europeText = "CET-1CEST,M3.5.0,M10.5.0/3"
	southText  = "AEST-10AEDT,M10.1.0,M4.1.0/3"
)

func julian(day, time int) Day { return Day{Kind: Julian, Day: day, Time: time} }

func zero(day, time int) Day { return Day{Kind: Zero, Day: day, Time: time} }

func month(month, week, day, time int) Day {
	return Day{Kind: Month, Month: month, Week: week, Day: day, Time: time}
}

func europe() Rule {
	return Rule{Std: "CET", Dst: "CEST", Off: 3600, DstOff: 7200, Start: month(3, 5, 0, 7200), End: month(10, 5, 0, 10800)}
}

func south() Rule {
	return Rule{Std: "AEST", Dst: "AEDT", Off: 36000, DstOff: 39600, Start: month(10, 1, 0, 7200), End: month(4, 1, 0, 10800)}
}

// rightIs fails unless Right tells so, and Text, Parse and At go with it.
func rightIs(t *testing.T, r Rule, want bool) {
	t.Helper()
	if got := Right(r); got != want {
		t.Errorf("Right(%+v) = %v", r, got)
	}
	text, err := Text(r)
	if !want {
		if err != api.ErrArg || text != "" {
			t.Errorf("Text(%+v) = %q, %d", r, text, err)
		}
		if off, dst := At(r, 1<<30); off != 0 || dst {
			t.Errorf("At(%+v) = %d, %v", r, off, dst)
		}
		return
	}
	if err != api.OK {
		t.Errorf("Text(%+v) = %q, %d", r, text, err)
	}
	tells(t, text, r)
}

// named calls back with the chapter's rule, whose one or other name is that.
func named(name string, check func(r Rule)) {
	check(Rule{Std: name})
	r := europe()
	r.Std = name
	check(r)
	r = europe()
	r.Dst = name
	check(r)
}

// P7.1, P7.2: names by their lengths, of letters alone and with what else there may be.
func TestNameLengths(t *testing.T) {
	for n := range 20 {
		for _, letter := range []string{"A", "z", "0", "9", "+", "-"} {
			name := strings.Repeat(letter, n)
			rightIs(t, Rule{Std: name}, n >= 3 && n <= 10)
			r := europe()
			r.Std = name
			rightIs(t, r, n >= 3 && n <= 10)
			r = europe()
			r.Dst = name
			rightIs(t, r, n >= 3 && n <= 10)
		}
	}
	named(strings.Repeat("A", 70000), func(r Rule) { rightIs(t, r, false) })
}

// P7.1, P7.2: names with each byte at each place.
func TestNameBytes(t *testing.T) {
	for n := range 256 {
		for place := range 4 {
			b := []byte("Abcd")
			b[place] = byte(n)
			right := strings.IndexByte("ABCDEFGHIJKLMNOPQRSTUVWXYZabcdefghijklmnopqrstuvwxyz0123456789+-", byte(n)) >= 0
			named(string(b), func(r Rule) { rightIs(t, r, right) })
		}
	}
	for _, name := range []string{"ÄÖÜ", "ABÄ", "Ａbc", "A\u017Fs", "\u212Aab", "<AB>", "AB>", "A B", "ABC ", " ABC", "A_B", "A.B", "A,B", "\xff\xfe\xfd", "\uFFFDAB"} {
		named(name, func(r Rule) { rightIs(t, r, false) })
	}
}

// P7.1: offsets at their bounds and one beyond.
func TestOffsetBounds(t *testing.T) {
	for off, right := range map[int]bool{
		0: true, 1: true, -1: true, 89998: true, -89998: true, 89999: true, -89999: true,
		90000: false, -90000: false, 90001: false, -90001: false, 93599: false,
		math.MaxInt: false, math.MinInt: false, math.MinInt + 1: false, math.MaxInt - 3599: false,
	} {
		rightIs(t, Rule{Std: "ABC", Off: off}, right)
		r := europe()
		r.Off = off
		rightIs(t, r, right)
		r = europe()
		r.DstOff = off
		rightIs(t, r, right)
	}
}

// P7.1: with a Dst both are days; without one there is nothing of it.
func TestDstAndDays(t *testing.T) {
	rightIs(t, europe(), true)
	rightIs(t, Rule{Std: "ABC"}, true)
	rightIs(t, Rule{}, false)
	rightIs(t, Rule{Dst: "CEST", Start: zero(0, 0), End: zero(1, 0)}, false)
	for _, spoil := range []func(r *Rule){
		func(r *Rule) { r.Start = Day{} },
		func(r *Rule) { r.End = Day{} },
		func(r *Rule) { r.Start, r.End = Day{}, Day{} },
		func(r *Rule) { r.Start.Time = 604800 },
		func(r *Rule) { r.End.Time = 604800 },
		func(r *Rule) { r.Std = "" },
		func(r *Rule) { r.Dst = "" },
		func(r *Rule) { r.Dst, r.DstOff = "", 0 },
		func(r *Rule) { r.Dst, r.DstOff, r.Start = "", 0, Day{} },
		func(r *Rule) { r.Dst, r.DstOff, r.End = "", 0, Day{} },
		func(r *Rule) { r.Dst, r.Start, r.End = "", Day{}, Day{} },
	} {
		r := europe()
		spoil(&r)
		rightIs(t, r, false)
	}
	for _, d := range []Day{{Kind: 1}, {Kind: 2}, {Month: 1}, {Week: 1}, {Day: 1}, {Time: 1}, {Time: -1}, {Time: 7200}, zero(0, 0)} {
		rightIs(t, Rule{Std: "ABC", Start: d}, false)
		rightIs(t, Rule{Std: "ABC", End: d}, false)
	}
	rightIs(t, Rule{Std: "ABC", DstOff: 1}, false)
	rightIs(t, Rule{Std: "ABC", DstOff: 3600}, false)
	rightIs(t, Rule{Std: "ABC", Off: 3600, DstOff: 3600}, false)
}

// dayIs fails unless a day is one, or none, as Start, as End and for Switch.
func dayIs(t *testing.T, d Day, want bool) {
	t.Helper()
	r := europe()
	r.Start = d
	rightIs(t, r, want)
	r = europe()
	r.End = d
	rightIs(t, r, want)
	for _, year := range []int{math.MinInt, 1, 2, 2024, 9998, 9999, math.MaxInt} {
		n, err := Switch(d, year)
		switch {
		case !want:
			if n != 0 || err != api.ErrArg {
				t.Errorf("Switch(%+v, %d) = %d, %d", d, year, n, err)
			}
		case year < 2 || year > 9998:
			if n != 0 || err != api.ErrDate {
				t.Errorf("Switch(%+v, %d) = %d, %d", d, year, n, err)
			}
		case err != api.OK:
			t.Errorf("Switch(%+v, %d) = %d, %d", d, year, n, err)
		}
	}
}

// P7.1, P7.4: days of each kind at their bounds and one beyond.
func TestDayBounds(t *testing.T) {
	for _, n := range []int{math.MinInt, -365, -1, 0, 1, 2, 59, 60, 364, 365, 366, 367, 1 << 32, math.MaxInt} {
		dayIs(t, julian(n, 0), n >= 1 && n <= 365)
		dayIs(t, zero(n, 0), n >= 0 && n <= 365)
	}
	for _, n := range []int{math.MinInt, -1, 0, 1, 2, 4, 5, 6, 7, 8, 11, 12, 13, 14, 1 << 32, math.MaxInt} {
		dayIs(t, month(n, 1, 0, 0), n >= 1 && n <= 12)
		dayIs(t, month(1, n, 0, 0), n >= 1 && n <= 5)
		dayIs(t, month(1, 1, n, 0), n >= 0 && n <= 6)
	}
	for _, time := range []int{math.MinInt, -604801, -604800, -604799, -604798, -7200, -1, 0, 1, 7200, 604798, 604799, 604800, 604801, math.MaxInt} {
		for _, d := range []Day{julian(1, time), zero(0, time), month(1, 1, 0, time)} {
			dayIs(t, d, time >= -604799 && time <= 604799)
		}
	}
}

// P7.1, P7.4: what a kind has not, and kinds that there are not.
func TestDayKinds(t *testing.T) {
	for _, n := range []int{math.MinInt, -1, 1, 2, 5, 12} {
		dayIs(t, Day{Kind: Julian, Day: 1, Month: n}, false)
		dayIs(t, Day{Kind: Julian, Day: 1, Week: n}, false)
		dayIs(t, Day{Kind: Zero, Day: 1, Month: n}, false)
		dayIs(t, Day{Kind: Zero, Day: 1, Week: n}, false)
	}
	dayIs(t, Day{Kind: Julian, Month: 3, Week: 5}, false)
	dayIs(t, Day{Kind: Zero, Month: 3, Week: 5}, false)
	for kind := range 256 {
		k := uint8(kind)
		dayIs(t, Day{Kind: k, Day: 1}, k == Julian || k == Zero)
		dayIs(t, Day{Kind: k}, k == Zero)
		dayIs(t, Day{Kind: k, Month: 1, Week: 1, Day: 1}, k == Month)
	}
}

// P7.2, P7.3: texts and their rules, either way.
func TestTexts(t *testing.T) {
	day := month(3, 5, 0, 7200)
	dst := func(off, dstOff int, start, end Day) Rule {
		return Rule{Std: "AAA", Dst: "BBB", Off: off, DstOff: dstOff, Start: start, End: end}
	}
	for text, r := range map[string]Rule{
		"UTC0":                                  {Std: "UTC"},
		"<-03>3":                                {Std: "-03", Off: -10800},
		"<+0545>-5:45":                          {Std: "+0545", Off: 20700},
		"<A1b>0":                                {Std: "A1b"},
		"<123>0":                                {Std: "123"},
		"<+-+>0":                                {Std: "+-+"},
		"ABCDEFGHIJ0":                           {Std: "ABCDEFGHIJ"},
		"<ABCDEFGHI0>0":                         {Std: "ABCDEFGHI0"},
		"AZaz0":                                 {Std: "AZaz"},
		europeText:                              europe(),
		southText:                               south(),
		"ABC-1":                                 {Std: "ABC", Off: 3600},
		"ABC1":                                  {Std: "ABC", Off: -3600},
		"ABC-0:30":                              {Std: "ABC", Off: 1800},
		"ABC0:30":                               {Std: "ABC", Off: -1800},
		"ABC-0:01":                              {Std: "ABC", Off: 60},
		"ABC0:00:01":                            {Std: "ABC", Off: -1},
		"ABC-0:00:01":                           {Std: "ABC", Off: 1},
		"ABC-0:00:59":                           {Std: "ABC", Off: 59},
		"ABC-10:00:10":                          {Std: "ABC", Off: 36010},
		"ABC-9:59:59":                           {Std: "ABC", Off: 35999},
		"ABC12:34:56":                           {Std: "ABC", Off: -45296},
		"ABC24":                                 {Std: "ABC", Off: -86400},
		"ABC-24":                                {Std: "ABC", Off: 86400},
		"ABC24:59:59":                           {Std: "ABC", Off: -89999},
		"ABC-24:59:59":                          {Std: "ABC", Off: 89999},
		"AAA3BBB1,0,365":                        dst(-10800, -3600, zero(0, 7200), zero(365, 7200)),
		"AAA0BBB,M3.5.0,M3.5.0":                 dst(0, 3600, day, day),
		"AAA0BBB0,M3.5.0,M3.5.0":                dst(0, 0, day, day),
		"AAA0BBB1,M3.5.0,M3.5.0":                dst(0, -3600, day, day),
		"AAA-1BBB-1,M3.5.0,M3.5.0":              dst(3600, 3600, day, day),
		"AAA-1BBB0,M3.5.0,M3.5.0":               dst(3600, 0, day, day),
		"AAA-1BBB-2:00:01,M3.5.0,M3.5.0":        dst(3600, 7201, day, day),
		"AAA-1BBB-1:59:59,M3.5.0,M3.5.0":        dst(3600, 7199, day, day),
		"AAA0:30BBB,M3.5.0,M3.5.0":              dst(-1800, 1800, day, day),
		"AAA1BBB,M3.5.0,M3.5.0":                 dst(-3600, 0, day, day),
		"AAA-23:59:59BBB,M3.5.0,M3.5.0":         dst(86399, 89999, day, day),
		"AAA24:59:59BBB,M3.5.0,M3.5.0":          dst(-89999, -86399, day, day),
		"AAA-24:59:59BBB24:59:59,M3.5.0,M3.5.0": dst(89999, -89999, day, day),
		"AAA0BBB,J1,J365":                       dst(0, 3600, julian(1, 7200), julian(365, 7200)),
		"AAA0BBB,J59/0,J60/1":                   dst(0, 3600, julian(59, 0), julian(60, 3600)),
		"AAA0BBB,0/2:30,10/-2":                  dst(0, 3600, zero(0, 9000), zero(10, -7200)),
		"AAA0BBB,J100/2:00:01,J200/1:59:59":     dst(0, 3600, julian(100, 7201), julian(200, 7199)),
		"AAA0BBB,M1.1.0/24,M12.5.6/25":          dst(0, 3600, month(1, 1, 0, 86400), month(12, 5, 6, 90000)),
		"AAA0BBB,M2.4.1/-0:00:01,M11.2.3/-0:30": dst(0, 3600, month(2, 4, 1, -1), month(11, 2, 3, -1800)),
		"AAA0BBB,J9/167:59:59,99/-167:59:59":    dst(0, 3600, julian(9, 604799), zero(99, -604799)),
		"AAA0BBB,J9/167,99/-167":                dst(0, 3600, julian(9, 601200), zero(99, -601200)),
		"<+0330>-3:30<+0430>,J79/24,J263/-1:00:30":                                      {Std: "+0330", Dst: "+0430", Off: 12600, DstOff: 16200, Start: julian(79, 86400), End: julian(263, -3630)},
		"<ABC-EFGHI>-24:59:59<DEF+EFGHI>24:59:59,M12.5.6/-167:59:59,M12.5.6/-167:59:58": {Std: "ABC-EFGHI", Dst: "DEF+EFGHI", Off: 89999, DstOff: -89999, Start: month(12, 5, 6, -604799), End: month(12, 5, 6, -604798)},
	} {
		tells(t, text, r)
		if got, err := Text(r); err != api.OK || got != text {
			t.Errorf("Text(%+v) = %q, %d, not %q", r, got, err, text)
		}
	}
}

// P7.3: what a text may also be.
func TestAlsoTexts(t *testing.T) {
	for text, want := range map[string]string{
		"ABC+1":          "ABC1",
		"ABC+0":          "ABC0",
		"ABC+0:00:01":    "ABC0:00:01",
		"ABC01":          "ABC1",
		"ABC001":         "ABC1",
		"ABC00":          "ABC0",
		"ABC000":         "ABC0",
		"ABC-001":        "ABC-1",
		"ABC+001":        "ABC1",
		"ABC+024:59:59":  "ABC24:59:59",
		"ABC1:00":        "ABC1",
		"ABC1:00:00":     "ABC1",
		"ABC-1:00:00":    "ABC-1",
		"ABC-1:30:00":    "ABC-1:30",
		"ABC0:00":        "ABC0",
		"ABC+000:00:00":  "ABC0",
		"ABC-000:00:01":  "ABC-0:00:01",
		"<ABC>0":         "ABC0",
		"<abcdefghij>-1": "abcdefghij-1",

		"AAA0BBB-1,M3.5.0,M10.5.0":            "AAA0BBB,M3.5.0,M10.5.0",
		"AAA0BBB-01:00,M3.5.0,M10.5.0":        "AAA0BBB,M3.5.0,M10.5.0",
		"AAA+5BBB+4,M3.5.0,M10.5.0":           "AAA5BBB,M3.5.0,M10.5.0",
		"AAA1BBB0,M3.5.0,M10.5.0":             "AAA1BBB,M3.5.0,M10.5.0",
		"AAA1BBB+0,M3.5.0,M10.5.0":            "AAA1BBB,M3.5.0,M10.5.0",
		"<AAA>0<BBB>,M3.5.0,M10.5.0":          "AAA0BBB,M3.5.0,M10.5.0",
		"AAA0BBB,M3.5.0/2,M10.5.0/2":          "AAA0BBB,M3.5.0,M10.5.0",
		"AAA0BBB,M3.5.0/02,M10.5.0/002":       "AAA0BBB,M3.5.0,M10.5.0",
		"AAA0BBB,M3.5.0/2:00,M10.5.0/2:00:00": "AAA0BBB,M3.5.0,M10.5.0",
		"AAA0BBB,J1/002:00:00,2/2":            "AAA0BBB,J1,2",
		"AAA0BBB,M03.5.0,M010.5.0":            "AAA0BBB,M3.5.0,M10.5.0",
		"AAA0BBB,M003.5.00,M10.5.006":         "AAA0BBB,M3.5.0,M10.5.6",
		"AAA0BBB,J01,J001":                    "AAA0BBB,J1,J1",
		"AAA0BBB,J099,J060":                   "AAA0BBB,J99,J60",
		"AAA0BBB,00,000":                      "AAA0BBB,0,0",
		"AAA0BBB,05,005":                      "AAA0BBB,5,5",
		"AAA0BBB,5/00,5/000:00:00":            "AAA0BBB,5/0,5/0",
		"AAA0BBB,5/-01,5/-001:00":             "AAA0BBB,5/-1,5/-1",
		"AAA0BBB,5/3:30:00,5/-3:30:00":        "AAA0BBB,5/3:30,5/-3:30",
		"<AAAAAAAAAA>-024:59:59<BBBBBBBBBB>-024:59:59,M012.5.006/-167:59:59,M012.5.006/-167:59:59": "AAAAAAAAAA-24:59:59BBBBBBBBBB-24:59:59,M12.5.6/-167:59:59,M12.5.6/-167:59:59",
	} {
		r, err := Parse(text)
		if got, _ := Text(r); err != api.OK || got != want {
			t.Errorf("Parse(%q) = %+v, %d, so %q, not %q", text, r, err, got, want)
		}
		tells(t, want, r)
		if !asModel(t, text) || !asModel(t, want) {
			t.Errorf("%q: none by patterns", text)
		}
	}
}

// P7.3: what is no rule's text.
func TestNoTexts(t *testing.T) {
	for _, text := range []string{
		"", " ", "0", "-1", "<", ">", "<>", ",", "\x00", "\xff",
		"UTC", "UTC ", "UTC0 ", " UTC0", "UTC 0", "UTC0\n", "UTC0\x00", "UTC-", "UTC+", "UTC:", "UTC0:", "UTC0:0", "UTC0:000", "UTC0:00:", "UTC0:00:0", "UTC0:00:000", "UTC0:00:00:", "UTC0:00:00:00", "UTC::00", "UTC:00",
		"U0", "UT0", "<U>0", "<UT>0", "<>0", "ABCDEFGHIJK0", "<ABCDEFGHIJK>0", "<0123456789+>0",
		"<UTC0", "<UTC", "UTC>0", "<UTC>>0", "<<UTC>0", "<UTC>", "<a_b>0", "<a b>0", "<a>b>0", "A1B0", "A+B0", "ÄÖÜ0", "<ÄÖÜ>0", "UT\xff0",
		"UTC25", "UTC-25", "UTC24:60", "UTC25:00", "UTC99", "UTC024:59:60", "UTC0024", "UTC0000", "UTC0001", "UTC100", "UTC999", "UTC1234567890123456789012345678901234567890",
		"UTC0:60", "UTC0:99", "UTC0:00:60", "UTC1:5", "UTC1:05:5", "UTC1:005", "UTC1:-5", "UTC1:+5", "UTC1:05:-5", "UTC1.5", "UTC1:3O",
		"UTC--1", "UTC++1", "UTC+-1", "UTC-+1", "UTC- 1", "UTC-0", "UTC-00", "UTC-0:00", "UTC-0:00:00", "UTC+-0",
		"UTC0CET", "UTC0CET-1", "UTC0CET,", "UTC0CET,M3.5.0", "UTC0CET,M3.5.0,", "UTC0CET,,", "UTC0CET,0", "UTC0CET,0,", "UTC0CET,,0", "UTC0CET-1,0", "EST5EDT",
		"UTC0,0,1", "UTC0-1,0,1", "UTC0<>,0,1", "UTC0<>-1,0,1", "UTC0CE,0,1", "UTC0ABCDEFGHIJK,0,1", "UTC0<CET,0,1", "UTC0CET>,0,1", "UTC0C1T,0,1",
		"UTC0CET,0,1,", "UTC0CET,0,1 ", "UTC0CET, 0,1", "UTC0CET,0 ,1", "UTC0CET,0,1,2", "UTC0 CET,0,1", "UTC0CET;0,1", "UTC0CET0;0,1", "UTC0CET,0;1", "UTC0CET0/0,1",
		"UTC0CET25,0,1", "UTC0CET-25,0,1", "UTC0CET-0,0,1", "UTC0CET0:60,0,1", "UTC0CET-,0,1", "UTC0CET+,0,1", "UTC0CET0001,0,1",
		// The hour ahead is beyond the bound.
		"UTC-24CET,0,1", "UTC-24:00:00CET,0,1", "UTC-24:59:59CET,0,1",
		"UTC0CET,J0,J1", "UTC0CET,J1,J0", "UTC0CET,J000,J1", "UTC0CET,J366,J1", "UTC0CET,J1,J366", "UTC0CET,J,J1", "UTC0CET,J-1,J1", "UTC0CET,J+1,J1", "UTC0CET,J0001,J1", "UTC0CET,j1,J1", "UTC0CET,J 1,J1", "UTC0CET,J1.1,J1", "UTC0CET,JJ1,J1", "UTC0CET,J999,J1",
		"UTC0CET,366,1", "UTC0CET,1,366", "UTC0CET,-1,1", "UTC0CET,+1,1", "UTC0CET,0001,1", "UTC0CET,0000,1", "UTC0CET,1.1,1", "UTC0CET,999,1",
		"UTC0CET,M0.1.0,0", "UTC0CET,M13.1.0,0", "UTC0CET,M1.0.0,0", "UTC0CET,M1.6.0,0", "UTC0CET,M1.1.7,0", "UTC0CET,M1.1.8,0", "UTC0CET,M000.1.0,0",
		"UTC0CET,0,M0.1.0", "UTC0CET,0,M13.1.1", "UTC0CET,0,M1.0.0", "UTC0CET,0,M1.6.0", "UTC0CET,0,M1.1.7",
		"UTC0CET,M,0", "UTC0CET,M1,0", "UTC0CET,M1.,0", "UTC0CET,M1.1,0", "UTC0CET,M1.1.,0", "UTC0CET,M1..0,0", "UTC0CET,M.1.0,0", "UTC0CET,M1.1.0.0,0", "UTC0CET,m1.1.0,0", "UTC0CET,M1:1:0,0", "UTC0CET,M1/1/0,0", "UTC0CET,M1.10,0", "UTC0CET,M11.0,0", "UTC0CET,MJ1,0",
		"UTC0CET,M0001.1.0,0", "UTC0CET,M1.01.0,0", "UTC0CET,M1.001.0,0", "UTC0CET,M1.1.0000,0", "UTC0CET,M1.10.0,0", "UTC0CET,M-1.1.0,0", "UTC0CET,M1.-1.0,0", "UTC0CET,M1.1.-0,0", "UTC0CET,M1.1.+0,0",
		"UTC0CET,0/,1", "UTC0CET,0,1/", "UTC0CET,0/168,1", "UTC0CET,0/-168,1", "UTC0CET,0,1/168", "UTC0CET,0,1/-168", "UTC0CET,0/168:00,1", "UTC0CET,0/0001,1", "UTC0CET,0/999,1",
		"UTC0CET,0/1:60,1", "UTC0CET,0/1:00:60,1", "UTC0CET,0/1:5,1", "UTC0CET,0/1:005,1", "UTC0CET,0/1:00:5,1", "UTC0CET,0/1:00:005,1", "UTC0CET,0/1:,1", "UTC0CET,0/1:00:,1", "UTC0CET,0/1:00:00:00,1", "UTC0CET,0/:00,1",
		"UTC0CET,0/-0,1", "UTC0CET,0/-0:00:00,1", "UTC0CET,0/+1,1", "UTC0CET,0/+0,1", "UTC0CET,0/--1,1", "UTC0CET,0/- 1,1", "UTC0CET,0/-,1", "UTC0CET,0/1/1,1", "UTC0CET,0//1,1", "UTC0CET,/1,1",
		europeText + europeText, europeText + "\n", ":" + europeText, ":UTC0", "UTC0\nUTC0",
	} {
		isNone(t, text)
		if asModel(t, text) {
			t.Errorf("%q: one by patterns", text)
		}
	}
}

// someTexts are those that are spoilt in tests.
func someTexts() []string {
	return []string{
		"UTC0", "<-03>3", "ABC-12:34:56", europeText, southText, "AAA3BBB1,0,365",
		"<+0330>-3:30<+0430>,J79/24,J263/-1:00:30",
		"<+0330>+03:30:00<+0430>-4:30:00,J079/024:00,263/-001:00:30",
		"AAA-0:00:01BBB0:01,M12.5.6/167:59:59,M01.1.00/-167:59:59",
	}
}

// P7.3: texts cut short at each byte, with a byte behind them, with each byte at each place, and without one.
func TestSpoiltTexts(t *testing.T) {
	told := 0
	check := func(text string) {
		if asModel(t, text) {
			told++
		}
	}
	for _, text := range someTexts() {
		for i := range len(text) + 1 {
			check(text[:i])
			check(text[i:])
			for n := range 256 {
				check(text[:i] + string([]byte{byte(n)}) + text[i:])
				if i < len(text) {
					check(text[:i] + string([]byte{byte(n)}) + text[i+1:])
				}
			}
			if i < len(text) {
				check(text[:i] + text[i+1:])
			}
		}
	}
	if told < 1000 {
		t.Errorf("%d texts were told", told)
	}
}

// P7.3: all short runs of digits as hours, days, months, weeks, minutes and seconds.
func TestNumbersOfTexts(t *testing.T) {
	var all []string
	for n := range 1000 {
		all = append(all, strconv.Itoa(n))
		if n < 100 {
			all = append(all, strconv.Itoa(n + 100)[1:], strconv.Itoa(n + 1000)[1:], strconv.Itoa(n + 10000)[1:])
		}
	}
	for _, digits := range append(all, "", "1000", "10000", "00000") {
		for _, around := range []string{
			"UTC?", "UTC-?", "UTC+?", "UTC1:?", "UTC-1:?", "UTC1:30:?", "UTC24:?", "UTC24:59:?", "UTC0CET?,0,1", "UTC0CET-1:?,0,1",
			"UTC0CET,?,1", "UTC0CET,1,?", "UTC0CET,J?,1", "UTC0CET,1,J?", "UTC0CET,M?.1.1,1", "UTC0CET,M1.?.1,1", "UTC0CET,M1.1.?,1", "UTC0CET,1,M?.1.1", "UTC0CET,1,M1.?.1", "UTC0CET,1,M1.1.?",
			"UTC0CET,0/?,1", "UTC0CET,0/-?,1", "UTC0CET,0,1/?", "UTC0CET,0,J1/-?", "UTC0CET,0/1:?,1", "UTC0CET,0,M1.1.1/1:30:?", "UTC0CET,0/167:?,1", "UTC0CET,0/-167:59:?,1",
		} {
			asModel(t, strings.Replace(around, "?", digits, 1))
		}
	}
}

// P7.3: texts of 100 bytes and 101, and far longer ones, of which none is a rule's: the longest rule's text is shorter.
func TestLongTexts(t *testing.T) {
	for _, n := range []int{99, 100, 101, 102, 1000, 70000} {
		for _, text := range []string{"UTC" + strings.Repeat("0", n-3), strings.Repeat("A", n-1) + "0", "<" + strings.Repeat("A", n-3) + ">0", europeText + strings.Repeat(" ", n-len(europeText)), "AAA0BBB,0/" + strings.Repeat("0", n-12) + ",1", strings.Repeat("<", n)} {
			isNone(t, text)
		}
	}
}

// P7.6: what is told shares no memory with what was handed in.
func TestNewMemory(t *testing.T) {
	text := strings.Clone("ABC0DEF,1,2")
	r, err := Parse(text)
	if err != api.OK {
		t.Fatal(err)
	}
	first := uintptr(unsafe.Pointer(unsafe.StringData(text)))
	for _, name := range []string{r.Std, r.Dst} {
		at := uintptr(unsafe.Pointer(unsafe.StringData(name)))
		if at >= first && at < first+uintptr(len(text)) {
			t.Errorf("%q stands in the text", name)
		}
	}
	if text != "ABC0DEF,1,2" {
		t.Errorf("the text is %q", text)
	}
}

// P7.7: rules drawn by lot are told and parsed back.
func TestRulesByLot(t *testing.T) {
	l := newLot(1)
	for range 20000 {
		r := l.rule()
		rightIs(t, r, true)
		text, _ := Text(r)
		if want, ok := plainParse(text); !ok || want != r {
			t.Errorf("%q tells %+v by patterns, not %+v", text, want, r)
		}
		if got, err := Text(r); err != api.OK || got != text {
			t.Errorf("%q, then %q, %d", text, got, err)
		}
	}
}

// P7.7, P7.3: texts put together by lot; what is parsed is right.
func TestTextsByLot(t *testing.T) {
	l := newLot(2)
	const bytes = "ABCxyz0123456789+-<>:,./JM"
	told := 0
	for range 40000 {
		text, _ := Text(l.rule())
		b := []byte(text)
		for range 1 + l.Intn(3) {
			at := l.Intn(len(b))
			switch l.Intn(3) {
			case 0:
				b[at] = bytes[l.Intn(len(bytes))]
			case 1:
				b = append(b[:at], b[min(len(b), at+1+l.Intn(3)):]...)
			default:
				b = append(b[:at], append([]byte{bytes[l.Intn(len(bytes))]}, b[at:]...)...)
			}
			if len(b) == 0 {
				b = []byte("A")
			}
		}
		if asModel(t, string(b)) {
			told++
		}
	}
	if told < 1000 {
		t.Errorf("%d texts were told", told)
	}
}

// P7.4: days of years, by their dates.
func TestSwitch(t *testing.T) {
	for _, x := range []struct {
		d    Day
		year int
		want string
	}{
		{julian(1, 0), 2023, "2023-01-01 00:00:00"},
		{julian(1, 0), 2024, "2024-01-01 00:00:00"},
		{julian(59, 0), 2023, "2023-02-28 00:00:00"},
		{julian(59, 0), 2024, "2024-02-28 00:00:00"},
		{julian(60, 0), 2023, "2023-03-01 00:00:00"},
		{julian(60, 0), 2024, "2024-03-01 00:00:00"},
		{julian(60, 0), 1900, "1900-03-01 00:00:00"},
		{julian(60, 0), 2000, "2000-03-01 00:00:00"},
		{julian(61, 0), 2024, "2024-03-02 00:00:00"},
		{julian(365, 0), 2023, "2023-12-31 00:00:00"},
		{julian(365, 0), 2024, "2024-12-31 00:00:00"},
		{zero(0, 0), 2023, "2023-01-01 00:00:00"},
		{zero(58, 0), 2024, "2024-02-28 00:00:00"},
		{zero(59, 0), 2023, "2023-03-01 00:00:00"},
		{zero(59, 0), 2024, "2024-02-29 00:00:00"},
		{zero(60, 0), 2024, "2024-03-01 00:00:00"},
		{zero(364, 0), 2023, "2023-12-31 00:00:00"},
		{zero(364, 0), 2024, "2024-12-30 00:00:00"},
		{zero(365, 0), 2023, "2024-01-01 00:00:00"},
		{zero(365, 0), 2024, "2024-12-31 00:00:00"},
		{zero(365, 0), 9998, "9999-01-01 00:00:00"},
		{zero(365, 0), 1900, "1901-01-01 00:00:00"},
		{month(3, 5, 0, 7200), 2026, "2026-03-29 02:00:00"},
		{month(10, 5, 0, 10800), 2026, "2026-10-25 03:00:00"},
		{month(2, 5, 4, 60), 2024, "2024-02-29 00:01:00"},
		{month(2, 5, 4, 0), 2023, "2023-02-23 00:00:00"},
		{month(2, 4, 4, 0), 2024, "2024-02-22 00:00:00"},
		{month(2, 5, 0, 0), 2026, "2026-02-22 00:00:00"},
		{month(2, 5, 6, 0), 2026, "2026-02-28 00:00:00"},
		{month(2, 1, 0, 0), 2026, "2026-02-01 00:00:00"},
		{month(2, 1, 6, 0), 2026, "2026-02-07 00:00:00"},
		{month(11, 1, 0, 0), 2026, "2026-11-01 00:00:00"},
		{month(11, 5, 0, 0), 2026, "2026-11-29 00:00:00"},
		{month(11, 5, 1, 0), 2026, "2026-11-30 00:00:00"},
		{month(11, 5, 2, 0), 2026, "2026-11-24 00:00:00"},
		{month(12, 5, 4, 0), 2026, "2026-12-31 00:00:00"},
		{month(12, 5, 5, 0), 2026, "2026-12-25 00:00:00"},
		{month(1, 1, 4, 0), 2026, "2026-01-01 00:00:00"},
		{month(1, 1, 3, 0), 2026, "2026-01-07 00:00:00"},
		{julian(1, 604799), 2026, "2026-01-07 23:59:59"},
		{julian(1, -604799), 2026, "2025-12-25 00:00:01"},
		{zero(365, 604799), 2026, "2027-01-07 23:59:59"},
		{julian(1, -1), 1970, "1969-12-31 23:59:59"},
		{zero(0, 0), 1970, "1970-01-01 00:00:00"},
		{zero(0, 0), 2, "0002-01-01 00:00:00"},
		{zero(0, -604799), 2, "0001-12-25 00:00:01"},
		{month(12, 5, 4, 604799), 9998, "9999-01-06 23:59:59"},
	} {
		want, err := time.Parse(time.DateTime, x.want)
		if err != nil {
			t.Fatal(err)
		}
		if got, errno := Switch(x.d, x.year); errno != api.OK || got != want.Unix() {
			t.Errorf("Switch(%+v, %d) = %s, %d, not %s", x.d, x.year, time.Unix(got, 0).UTC(), errno, want)
		}
	}
}

// P7.4: which years there may be, and that a day that is none is told first.
func TestSwitchYears(t *testing.T) {
	for year, right := range map[int]bool{
		math.MinInt: false, -2024: false, -1: false, 0: false, 1: false, 2: true, 3: true, 1969: true, 1970: true,
		9997: true, 9998: true, 9999: false, 10000: false, math.MaxInt: false,
	} {
		for _, d := range []Day{julian(60, 0), zero(365, 604799), month(2, 5, 0, -604799)} {
			got, err := Switch(d, year)
			if right && (err != api.OK || got != plainSwitch(d, year)) || !right && (err != api.ErrDate || got != 0) {
				t.Errorf("Switch(%+v, %d) = %d, %d", d, year, got, err)
			}
		}
		for _, d := range []Day{{}, julian(0, 0), zero(366, 0), month(0, 1, 1, 0), month(2, 5, 0, 604800), {Kind: 4, Day: 1}} {
			if got, err := Switch(d, year); err != api.ErrArg || got != 0 {
				t.Errorf("Switch(%+v, %d) = %d, %d", d, year, got, err)
			}
		}
	}
}

// P7.4: all days of years of each length and beginning, against the library's calendar.
func TestSwitchOfAllDays(t *testing.T) {
	for _, year := range []int{2, 3, 4, 100, 400, 1900, 1970, 1999, 2000, 2001, 2002, 2003, 2004, 2005, 2006, 2007, 2008, 2010, 2012, 2016, 2020, 2024, 2100, 9996, 9998} {
		var all []Day
		for n := range 366 {
			all = append(all, zero(n, 0))
			if n > 0 {
				all = append(all, julian(n, n))
			}
		}
		for m := 1; m <= 12; m++ {
			for week := 1; week <= 5; week++ {
				for day := range 7 {
					all = append(all, month(m, week, day, -m))
				}
			}
		}
		for _, d := range all {
			if got, err := Switch(d, year); err != api.OK || got != plainSwitch(d, year) {
				t.Fatalf("Switch(%+v, %d) = %d, %d, not %d", d, year, got, err, plainSwitch(d, year))
			}
		}
	}
}

// seconds of a time, in UTC.
func at(t *testing.T, text string) int64 {
	t.Helper()
	want, err := time.Parse(time.DateTime, text)
	if err != nil {
		t.Fatal(err)
	}
	return want.Unix()
}

// holds fails unless that offset holds.
func holds(t *testing.T, r Rule, seconds int64, off int, dst bool) {
	t.Helper()
	if gotOff, gotDst := At(r, seconds); gotOff != off || gotDst != dst {
		t.Errorf("At(%+v, %d) = %d, %v, not %d, %v", r, seconds, gotOff, gotDst, off, dst)
	}
}

// P7.5: just below, at and above each switch, north and south.
func TestAtSwitches(t *testing.T) {
	type turn struct {
		at  string
		dst bool
	}
	america := Rule{Std: "EST", Dst: "EDT", Off: -18000, DstOff: -14400, Start: month(3, 2, 0, 7200), End: month(11, 1, 0, 7200)}
	// Of Dublin it is told that winter's is Dst, an hour behind.
	ireland := Rule{Std: "IST", Dst: "GMT", Off: 3600, DstOff: 0, Start: month(10, 5, 0, 7200), End: month(3, 5, 0, 3600)}
	for _, x := range []struct {
		r     Rule
		turns []turn
	}{
		{europe(), []turn{{"2026-03-29 01:00:00", true}, {"2026-10-25 01:00:00", false}, {"2027-03-28 01:00:00", true}, {"1900-03-25 01:00:00", true}, {"2026-10-25 01:00:00", false}}},
		{south(), []turn{{"2026-04-04 16:00:00", false}, {"2026-10-03 16:00:00", true}, {"2027-04-03 16:00:00", false}}},
		{america, []turn{{"2026-03-08 07:00:00", true}, {"2026-11-01 06:00:00", false}}},
		{ireland, []turn{{"2026-03-29 01:00:00", false}, {"2026-10-25 01:00:00", true}}},
	} {
		for _, turn := range x.turns {
			offs := map[bool]int{false: x.r.Off, true: x.r.DstOff}
			seconds := at(t, turn.at)
			for _, beside := range []int64{1, 2, 3600, 86400, 86400 * 100} {
				holds(t, x.r, seconds-beside, offs[!turn.dst], !turn.dst)
				holds(t, x.r, seconds+beside, offs[turn.dst], turn.dst)
			}
			holds(t, x.r, seconds, offs[turn.dst], turn.dst)
		}
	}
}

// P7.5: rules that are not right, and rules without a Dst.
func TestAtWithout(t *testing.T) {
	for _, seconds := range []int64{math.MinInt64, -10000000001, -10000000000, -1, 0, 1, 1 << 40, 100000000000, 100000000001, math.MaxInt64} {
		for _, off := range []int{-89999, -1, 0, 1, 89999} {
			holds(t, Rule{Std: "ABC", Off: off}, seconds, off, false)
		}
		holds(t, Rule{}, seconds, 0, false)
		holds(t, Rule{Std: "AB", Off: 5}, seconds, 0, false)
		holds(t, Rule{Std: "ABC", Off: 90000}, seconds, 0, false)
		holds(t, Rule{Std: "ABC", Off: math.MinInt, Dst: "DEF", DstOff: math.MaxInt, Start: zero(0, 0), End: zero(1, 0)}, seconds, 0, false)
		r := europe()
		r.DstOff = -90000
		holds(t, r, seconds, 0, false)
		r = europe()
		r.End.Week = 6
		holds(t, r, seconds, 0, false)
		r = europe()
		r.Dst = ""
		holds(t, r, seconds, 0, false)
	}
}

// P7.5: of a beginning and an end at one instant the end holds.
func TestAtOneInstant(t *testing.T) {
	both := Rule{Std: "ABC", Dst: "DEF", DstOff: 3600, Start: julian(100, 7200), End: julian(100, 10800)}
	// By their words Dst all the year: each one's end is at the instant at which the next one begins.
	all := Rule{Std: "EST", Dst: "EDT", Off: -18000, DstOff: -14400, Start: zero(0, 0), End: julian(365, 90000)}
	// The other way round, an hour behind.
	behind := Rule{Std: "ABC", Dst: "DEF", Off: 3600, DstOff: 0, Start: zero(365, 3600), End: julian(1, 0)}
	// At one instant in years of 365 days, a day later in others.
	some := Rule{Std: "ABC", Dst: "DEF", Start: julian(100, 0), End: zero(99, 0)}
	for _, year := range []int{2023, 2024, 2025, 2026} {
		for _, r := range []Rule{both, all, behind, some} {
			for _, d := range []Day{r.Start, r.End} {
				for _, off := range []int{r.Off, r.DstOff} {
					n, _ := Switch(d, year)
					for beside := int64(-2); beside <= 2; beside++ {
						seconds := n - int64(off) + beside
						want, dst := plainAt(r, seconds)
						holds(t, r, seconds, want, dst)
					}
				}
			}
		}
	}
	for seconds := at(t, "2023-01-01 00:00:00"); seconds < at(t, "2027-01-01 00:00:00"); seconds += 900 {
		holds(t, both, seconds, 0, false)
		holds(t, all, seconds, -18000, false)
	}
	// In a year of 366 days it ends a day ahead of its beginning, and holds up to the next year's end.
	for text, dst := range map[string]bool{
		"2023-04-10 00:00:00": false, "2024-04-09 00:00:00": false, "2024-04-09 23:59:59": false,
		"2024-04-10 00:00:00": true, "2024-12-31 00:00:00": true, "2025-01-01 00:00:00": true, "2025-04-09 23:59:59": true,
		"2025-04-10 00:00:00": false, "2025-12-31 00:00:00": false, "2026-04-10 00:00:00": false,
	} {
		holds(t, some, at(t, text), 0, dst)
	}
}

// P7.5: the last days of a year and the first ones.
func TestAtTurnOfYear(t *testing.T) {
	var all []Rule
	for _, off := range []int{-89999, -3600, 0, 3600, 89999} {
		for _, dstOff := range []int{-89999, 0, 7200, 89999} {
			for _, start := range []Day{julian(1, -604799), zero(0, 0), zero(365, 604799), month(12, 5, 0, 604799), month(7, 1, 0, 0)} {
				for _, end := range []Day{julian(1, -604799), zero(0, 1), zero(365, 604799), month(1, 1, 0, -604799), month(2, 5, 0, 0)} {
					all = append(all, Rule{Std: "ABC", Dst: "DEF", Off: off, DstOff: dstOff, Start: start, End: end})
				}
			}
		}
	}
	for _, r := range all {
		for year := 2023; year <= 2026; year++ {
			n, _ := Switch(zero(0, 0), year)
			beside := []int64{-89999, -1, 0, 1, 89999}
			start, _ := Switch(r.Start, year)
			end, _ := Switch(r.End, year)
			for _, by := range beside {
				for _, seconds := range []int64{n + by, n - int64(r.Off) + by, start - int64(r.Off) + by, end - int64(r.DstOff) + by, n + 9*by} {
					off, dst := plainAt(r, seconds)
					holds(t, r, seconds, off, dst)
				}
			}
		}
	}
}

// P7.5: seconds beyond what they are brought into, with a switch just at the bounds and just beyond them.
func TestAtBounds(t *testing.T) {
	const first, last = -10000000000, 100000000000
	// switchAt is a rule of which Dst begins, or ends, at that second, in that year alone near it.
	switchAt := func(seconds int64, end bool) Rule {
		day := time.Unix(seconds, 0).UTC()
		d := zero(day.YearDay()-1, int(seconds-day.Truncate(24*time.Hour).Unix()))
		other := zero((day.YearDay()+180)%365, 0)
		if end {
			return Rule{Std: "ABC", Dst: "DEF", Start: other, End: d}
		}
		return Rule{Std: "ABC", Dst: "DEF", Start: d, End: other}
	}
	for _, end := range []bool{false, true} {
		for _, bound := range []int64{first, last} {
			for by := int64(-2); by <= 2; by++ {
				r := switchAt(bound+by, end)
				for _, seconds := range []int64{bound - 86400*60, bound - 2, bound - 1, bound, bound + 1, bound + 2, bound + 86400*60} {
					brought := max(first, min(seconds, last))
					begun := brought >= bound+by
					holds(t, r, seconds, 0, begun != end)
				}
			}
			r := switchAt(bound, end)
			for _, seconds := range []int64{math.MinInt64, math.MinInt64 + 1, first - 86400*200, last + 86400*200, math.MaxInt64 - 89999, math.MaxInt64} {
				off, dst := plainAt(r, seconds)
				holds(t, r, seconds, off, dst)
			}
		}
	}
}

// P7.5: rules and seconds drawn by lot, at their switches and anywhere.
func TestAtByLot(t *testing.T) {
	l := newLot(3)
	for range 3000 {
		r := l.rule()
		year := 1653 + l.Intn(3485)
		n, _ := Switch(zero(0, 0), year)
		all := []int64{n + l.Int63n(366*86400), l.Int63n(110000000001) - 10000000000, l.Int63() - l.Int63()}
		if r.Dst != "" {
			start, _ := Switch(r.Start, year)
			end, _ := Switch(r.End, year)
			all = append(all, start-int64(r.Off), end-int64(r.DstOff))
		}
		for _, seconds := range all {
			for by := int64(-1); by <= 1; by++ {
				off, dst := plainAt(r, seconds+by)
				holds(t, r, seconds+by, off, dst)
			}
		}
	}
}

// P7.3, P7.5: rules of places, against the library's reading of the same texts, each three hours of some years.
func TestAtAsTheLibrary(t *testing.T) {
	for _, text := range []string{
		europeText, southText, "EST5EDT,M3.2.0,M11.1.0", "<+1030>-10:30<+11>-11,M10.1.0,M4.1.0", "NZST-12NZDT,M9.5.0,M4.1.0/3",
		"<-03>3<-02>,M3.5.0/-1,M10.5.0/0", "IST-1GMT0,M10.5.0,M3.5.0/1", "EET-2EEST,M4.5.5/0,M10.5.4/24", "<+0330>-3:30<+0430>,J79/24,J263/24",
		"<-02>2<-01>,M3.5.0/-1,M10.5.0/0", "AAA0BBB,100/3:30:30,J200/1:59:59", "MSK-3", "<-0330>3:30",
	} {
		r, err := Parse(text)
		if err != api.OK {
			t.Fatal(text, err)
		}
		file, err := tzif.Put(tzif.Zone{Types: []tzif.Type{{Abbr: "LMT"}}, Times: []int64{-1 << 40}, Index: []int{0}, Footer: text})
		if err != api.OK {
			t.Fatal(text, err)
		}
		place, fault := time.LoadLocationFromTZData(text, file)
		if fault != nil {
			t.Fatal(fault)
		}
		for seconds := at(t, "2022-01-01 00:00:00"); seconds < at(t, "2030-01-01 00:00:00"); seconds += 1800 {
			local := time.Unix(seconds, 0).In(place)
			_, off := local.Zone()
			holds(t, r, seconds, off, local.IsDST())
		}
	}
}
