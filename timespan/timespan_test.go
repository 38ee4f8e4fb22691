package timespan

import (
	"math"
	"math/big"
	"regexp"
	"slices"
	"strconv"
	"strings"
	"testing"

	"clepsydra/api"
)

// sizes are the names of all units, as the chapter's table has them.
func sizes() map[string]int64 {
	return map[string]int64{
		"us": 1, "usec": 1,
		"ms": 1000, "msec": 1000,
		"s": 1000000, "sec": 1000000, "second": 1000000, "seconds": 1000000,
		"m": 60000000, "min": 60000000, "minute": 60000000, "minutes": 60000000,
		"h": 3600000000, "hr": 3600000000, "hour": 3600000000, "hours": 3600000000,
		"d": 86400000000, "day": 86400000000, "days": 86400000000,
		"w": 604800000000, "week": 604800000000, "weeks": 604800000000,
		"M": 2629800000000, "month": 2629800000000, "months": 2629800000000,
		"y": 31557600000000, "year": 31557600000000, "years": 31557600000000,
	}
}

type row struct {
	text string
	want int64
	err  api.Errno
}

func parses(t *testing.T, rows []row) {
	t.Helper()
	for _, x := range rows {
		if got, err := Parse(x.text); got != x.want || err != x.err {
			t.Errorf("Parse(%q) = %d, %d, not %d, %d", x.text, got, err, x.want, x.err)
		}
	}
}

// P2.1
func TestParse(t *testing.T) {
	parses(t, []row{
		{"1h 30min", 5400000000, api.OK},
		{"5", 5000000, api.OK},
		{"1.5s", 1500000, api.OK},
		{"2weeks", 1209600000000, api.OK},
		{"0", 0, api.OK},
		{"0us", 0, api.OK},
		{"007", 7000000, api.OK},
		{"0000000000000000000000000000000000000001us", 1, api.OK},
		{"0.000000y", 0, api.OK},
		{"1m", 60000000, api.OK},
		{"1M", 2629800000000, api.OK},
		{"1min1us", 60000001, api.OK},
		{"1us1min", 60000001, api.OK},
		{"1h30", 3630000000, api.OK},
		{"30 1h", 3630000000, api.OK},
		{"1 2 3", 6000000, api.OK},
		{"1s1s1s", 3000000, api.OK},
		{"1.5 0.5", 2000000, api.OK},
		{"1.5h0.5min", 5430000000, api.OK},
		{"1y 1M 1w 1d 1h 1m 1s 1ms 1us", 34882261001001, api.OK},
	})
}

// P2.1: every name, with a number and a fraction, with and without blanks; none of them in other letters.
func TestUnits(t *testing.T) {
	for name, size := range sizes() {
		half := size / 2
		parses(t, []row{
			{"1" + name, size, api.OK},
			{"3 " + name, 3 * size, api.OK},
			{"3\t \t" + name + "\t2" + name, 5 * size, api.OK},
			{"0" + name, 0, api.OK},
			{"0.5" + name, half, api.OK},
			{"2.5 " + name, 2*size + half, api.OK},
			{"1" + name + "1", size + 1000000, api.OK},
			{"1" + name + "x", 0, api.ErrSpan},
			{"1" + name + "-", 0, api.ErrSpan},
			{"1" + name + " " + name, 0, api.ErrSpan},
			{name, 0, api.ErrSpan},
			{name + "1", 0, api.ErrSpan},
		})
		for _, other := range []string{strings.ToUpper(name), strings.ToLower(name), strings.ToUpper(name[:1]) + name[1:], name + "s", name[:len(name)-1]} {
			want, there := sizes()[other]
			err := api.OK
			if other == "" {
				want, there = 1000000, true
			}
			if !there {
				err = api.ErrSpan
			}
			parses(t, []row{{"1" + other, want, err}})
		}
	}
}

// P2.1: without a unit it is seconds, whatever stands behind.
func TestNoUnit(t *testing.T) {
	parses(t, []row{
		{"90", 90000000, api.OK},
		{"90 ", 90000000, api.OK},
		{"1.25", 1250000, api.OK},
		{"1.000001", 1000001, api.OK},
		{"1 1us", 1000001, api.OK},
		{"1us 1", 1000001, api.OK},
		{"1.5 1us", 1500001, api.OK},
	})
}

// P2.1
func TestFraction(t *testing.T) {
	parses(t, []row{
		{"0.1", 100000, api.OK},
		{"0.12", 120000, api.OK},
		{"0.123", 123000, api.OK},
		{"0.1234", 123400, api.OK},
		{"0.12345", 123450, api.OK},
		{"0.123456", 123456, api.OK},
		{"0.000001", 1, api.OK},
		{"0.010000", 10000, api.OK},
		{"0.999999us", 0, api.OK},
		{"1.999999us", 1, api.OK},
		{"1.9us 1.9us", 2, api.OK}, // each part is rounded, not the sum
		{"0.0009ms", 0, api.OK},
		{"0.001ms", 1, api.OK},
		{"0.0019ms", 1, api.OK},
		{"1.999999ms", 1999, api.OK},
		{"0.000001min", 60, api.OK},
		{"0.999999y", 31557568442400, api.OK}, // its product with the digits is above 2^63
		{"0.333333y", 10519189480800, api.OK},
		{"0.999999M", 2629797370200, api.OK},
		{"12345678.123456s", 12345678123456, api.OK},
		// seven digits are not one to six, also where the seventh is 0 or a part could begin with it
		{"0.1234567", 0, api.ErrSpan},
		{"0.1234567s", 0, api.ErrSpan},
		{"0.1234560s", 0, api.ErrSpan},
		{"0.0000000", 0, api.ErrSpan},
		{"1.12345678901234567890", 0, api.ErrSpan},
		{"1.123456 7s", 8123456, api.OK},
		{"1.", 0, api.ErrSpan},
		{"1.s", 0, api.ErrSpan},
		{"1. 5s", 0, api.ErrSpan},
		{"1 .5s", 0, api.ErrSpan},
		{"1..5s", 0, api.ErrSpan},
		{"1.5.s", 0, api.ErrSpan},
		{"1.5.5s", 0, api.ErrSpan},
		{".5", 0, api.ErrSpan},
		{".5s", 0, api.ErrSpan},
		{".", 0, api.ErrSpan},
		{"1s.5", 0, api.ErrSpan},
		{"1,5s", 0, api.ErrSpan},
	})
}

// P2.1
func TestBlanks(t *testing.T) {
	parses(t, []row{
		{" 1h", 3600000000, api.OK},
		{"\t1h", 3600000000, api.OK},
		{"1h ", 3600000000, api.OK},
		{"1h\t", 3600000000, api.OK},
		{" \t\t 1 \t h\t \t30\t\tmin \t", 5400000000, api.OK},
		{"1h30min", 5400000000, api.OK},
		{"1h\t30min", 5400000000, api.OK},
		{"1\th", 3600000000, api.OK},
		{" 5 ", 5000000, api.OK},
		{"\t5\t6\t", 11000000, api.OK},
		{"", 0, api.ErrSpan},
		{" ", 0, api.ErrSpan},
		{"\t", 0, api.ErrSpan},
		{" \t \t ", 0, api.ErrSpan},
		{"1 m in", 0, api.ErrSpan},
		{"1h\n", 0, api.ErrSpan},
		{"\n1h", 0, api.ErrSpan},
		{"1\nh", 0, api.ErrSpan},
		{"1h\r", 0, api.ErrSpan},
		{"1h\v", 0, api.ErrSpan},
		{"1h\f", 0, api.ErrSpan},
		{"1h\x00", 0, api.ErrSpan},
		{"1h\u00a0", 0, api.ErrSpan},
		{"\u20031h", 0, api.ErrSpan},
	})
}

// P2.1
func TestInfinity(t *testing.T) {
	parses(t, []row{
		{"infinity", api.Infinity, api.OK},
		{" infinity", api.Infinity, api.OK},
		{"infinity ", api.Infinity, api.OK},
		{"\t \tinfinity\t \t", api.Infinity, api.OK},
		{"Infinity", 0, api.ErrSpan},
		{"INFINITY", 0, api.ErrSpan},
		{"infinit", 0, api.ErrSpan},
		{"infinitys", 0, api.ErrSpan},
		{"infinity s", 0, api.ErrSpan},
		{"infinity infinity", 0, api.ErrSpan},
		{"infinity 1s", 0, api.ErrSpan},
		{"1s infinity", 0, api.ErrSpan},
		{"1infinity", 0, api.ErrSpan},
		{"1 infinity", 0, api.ErrSpan},
		{"in finity", 0, api.ErrSpan},
		{"infinity\n", 0, api.ErrSpan},
		{"infinity.", 0, api.ErrSpan},
		{"-infinity", 0, api.ErrSpan},
	})
}

// P2.1
func TestTooGreat(t *testing.T) {
	const most = api.Infinity - 1
	parses(t, []row{
		{"9223372036854775806us", most, api.OK},
		{"9223372036854775807us", 0, api.ErrRange},
		{"9223372036854775808us", 0, api.ErrRange},
		{"9223372036854775806.999999us", most, api.OK},
		{"9223372036854.775806s", most, api.OK},
		{"9223372036854.775807s", 0, api.ErrRange},
		{"9223372036854.775808", 0, api.ErrRange},
		{"9223372036854.8", 0, api.ErrRange},
		{"9223372036854775.806999ms", most, api.OK},
		{"9223372036854775.807ms", 0, api.ErrRange},
		{"4611686018427387903us 4611686018427387903us", most, api.OK},
		{"4611686018427387904us 4611686018427387903us", 0, api.ErrRange},
		{"9223372036854775805us 1us", most, api.OK},
		{"9223372036854775805us 2us", 0, api.ErrRange},
		{"9223372036854775806us 0us", most, api.OK},
		{"0s 9223372036854775806us", most, api.OK},
		{"9223372036854775806us 1us", 0, api.ErrRange},
		{"1us 9223372036854775806us", 0, api.ErrRange},
		{"9223372036854775806us 9223372036854775806us", 0, api.ErrRange},
		{"9223372036854775806us 9223372036854775806us 9223372036854775806us", 0, api.ErrRange},
		{"9223372036854775807us 0", 0, api.ErrRange},
		{"9223372036854775808us 0", 0, api.ErrRange},
		{"0.9us 9223372036854775806.9us", most, api.OK}, // each rounded ahead of the sum
		{"106751991d 4h 54.775806s", most, api.OK},
		{"106751991d 4h 54.775807s", 0, api.ErrRange},
		{"106751992d", 0, api.ErrRange},
		{"292271y", 292271 * 31557600000000, api.OK},
		{"292272y", 0, api.ErrRange},
		{"292271.023045y", 9223372036844892000, api.OK},
		{"292271.023046y", 0, api.ErrRange},
		{"300000y", 0, api.ErrRange},
		{"18446744073709551616us", 0, api.ErrRange}, // 2^64, which would go round to 0
		{"18446744073709551617us", 0, api.ErrRange},
		{"184467440737095516160000", 0, api.ErrRange},
		{strings.Repeat("9", 1000) + "us", 0, api.ErrRange},
		{strings.Repeat("0", 1000) + "9us", 9, api.OK},
		{"1" + strings.Repeat("0", 1000), 0, api.ErrRange},
		{strings.Repeat("1y ", 300000), 0, api.ErrRange},
	})
}

// P2.1: ErrSpan goes first, wherever it stands.
func TestErrSpanFirst(t *testing.T) {
	for _, great := range []string{"9223372036854775807us", "300000y", strings.Repeat("9", 100), "200000y 200000y", "9223372036854775806us 1us"} {
		parses(t, []row{{great, 0, api.ErrRange}, {"\t" + great + " 1s ", 0, api.ErrRange}})
		for _, wrong := range []string{"x", "1x", "s s", "1.", "1.s", "0.1234567", ".5", "-1", "infinity", "\n", "\x00", "1s x"} {
			parses(t, []row{
				{great + " " + wrong, 0, api.ErrSpan},
				{wrong + " " + great, 0, api.ErrSpan},
				{great + " 1s " + wrong, 0, api.ErrSpan},
				{great + " " + wrong + " " + great, 0, api.ErrSpan},
			})
		}
	}
	parses(t, []row{{"300000fortnights", 0, api.ErrSpan}, {strings.Repeat("9", 30) + ".1234567y", 0, api.ErrSpan}})
}

// P2.1
func TestWrong(t *testing.T) {
	for _, text := range []string{
		"s", "h 1", "x", "1x", "1 fortnight", "1ss", "1hmin", "1 s s", "-1", "-1s", "+1", "1s -1s", "1-2",
		"1e3", "0x10", "1_000", "1'000", "1s, 1s", "1s;", "(1s)", "\"1s\"", "1:30", "1/2h", "1h=", "=1h",
		"1\u00b5s", "1\u03bcs", "\u0661s", "\uff11s", "1\u017f", "1\xff", "\xff", "\x80\x80", "1s\x80", "1h \xc3",
		"1h\x00", "\x001h", "1{", "1@", "1[", "1`", "1/", "1:", "1h!", "1h\x08", "1h\n30min",
	} {
		parses(t, []row{{text, 0, api.ErrSpan}})
	}
}

// P2.1: no byte but blanks, digits, points and letters ever stands in a text.
func TestEveryByte(t *testing.T) {
	for b := range 256 {
		c := string([]byte{byte(b)})
		if mayStand.MatchString(c) {
			continue
		}
		for _, text := range []string{c, "1" + c, c + "1", "1" + c + "s", "1s" + c, "1s" + c + "1s", "1 " + c, "1s " + c + " 1s", "1." + c + "5", "infinity" + c, c + "infinity"} {
			parses(t, []row{{text, 0, api.ErrSpan}})
		}
	}
}

var (
	mayStand = regexp.MustCompile(`^[ \t.0-9A-Za-z]$`)
	infinite = regexp.MustCompile(`^[ \t]*infinity[ \t]*$`)
	onePart  = regexp.MustCompile(`^([0-9]+)(\.[0-9]+)?[ \t]*([a-zA-Z]*)[ \t]*`)
)

// exactly is Parse by other means: patterns, and numbers of any size.
func exactly(text string) (int64, api.Errno) {
	if infinite.MatchString(text) {
		return api.Infinity, api.OK
	}
	left := strings.TrimLeft(text, " \t")
	sum := new(big.Int)
	for first := true; first || left != ""; first = false {
		found := onePart.FindStringSubmatch(left)
		if found == nil || len(found[2]) > 7 {
			return 0, api.ErrSpan
		}
		size, ok := sizes()[found[3]]
		if found[3] == "" {
			size, ok = 1000000, true
		}
		if !ok {
			return 0, api.ErrSpan
		}
		number, _ := new(big.Rat).SetString(found[1] + found[2])
		number.Mul(number, new(big.Rat).SetInt64(size))
		sum.Add(sum, new(big.Int).Quo(number.Num(), number.Denom()))
		left = left[len(found[0]):]
	}
	if sum.Cmp(big.NewInt(api.Infinity-1)) > 0 {
		return 0, api.ErrRange
	}
	return sum.Int64(), api.OK
}

func same(t *testing.T, text string) {
	t.Helper()
	got, gotErr := Parse(text)
	if want, err := exactly(text); got != want || gotErr != err {
		t.Fatalf("Parse(%q) = %d, %d, not %d, %d", text, got, gotErr, want, err)
	}
}

// P2.1: all short texts of these bytes.
func TestShortTextsExactly(t *testing.T) {
	texts := []string{""}
	for range 5 {
		var longer []string
		for _, text := range texts {
			same(t, text)
			for _, c := range "07. \tsmu-" {
				longer = append(longer, text+string(c))
			}
		}
		texts = longer
	}
}

// dice are numbers that look like chance, but are the same in every run.
type dice uint64

func (d *dice) roll(below int) int {
	*d = *d*6364136223846793005 + 1442695040888963407
	return int(uint64(*d) >> 33 % uint64(below))
}

func (d *dice) pick(list ...string) string {
	return list[d.roll(len(list))]
}

func (d *dice) digits(most int) string {
	var digits []byte
	for range 1 + d.roll(most) {
		digits = append(digits, byte('0'+d.roll(10)))
	}
	return string(digits)
}

func (d *dice) part(names []string) string {
	text := d.digits(d.roll(22) + 1)
	if d.roll(2) == 0 {
		text += "." + d.digits(6)
	}
	return text + d.pick("", " ", "\t ") + d.pick(names...)
}

func names() []string {
	list := []string{}
	for name := range sizes() {
		list = append(list, name)
	}
	slices.Sort(list)
	return list
}

// P2.1
func TestLongTextsExactly(t *testing.T) {
	chance := dice(1)
	units := append(names(), "", "", "x", "secs")
	for range 20000 {
		text := chance.pick("", " ", "\t")
		for range 1 + chance.roll(4) {
			text += chance.part(units) + chance.pick("", " ", " \t")
		}
		same(t, text)
		at := chance.roll(len(text))
		same(t, text[:at]+chance.pick(".", "0", "s", " ", "\n")+text[at:])
		same(t, text[:at]+text[at+1:])
	}
}

// P2.2
func TestText(t *testing.T) {
	for _, x := range []struct {
		n    int64
		want string
	}{
		{0, "0"},
		{-1, ""},
		{-5, ""},
		{-86400000000, ""},
		{math.MinInt64, ""},
		{math.MinInt64 + 1, ""},
		{api.Infinity, "infinity"},
		{api.Infinity - 1, "106751991d 4h 54s 775ms 806us"},
		{5400000001, "1h 30min 1us"},
		{1, "1us"},
		{999, "999us"},
		{1000, "1ms"},
		{1001, "1ms 1us"},
		{999999, "999ms 999us"},
		{1000000, "1s"},
		{1000001, "1s 1us"},
		{1001001, "1s 1ms 1us"},
		{59999999, "59s 999ms 999us"},
		{60000000, "1min"},
		{61000000, "1min 1s"},
		{3599999999, "59min 59s 999ms 999us"},
		{3600000000, "1h"},
		{3600001000, "1h 1ms"},
		{5400000000, "1h 30min"},
		{86399999999, "23h 59min 59s 999ms 999us"},
		{86400000000, "1d"},
		{86400000001, "1d 1us"},
		{90061001001, "1d 1h 1min 1s 1ms 1us"},
		{604800000000, "7d"}, // no weeks, months and years
		{2629800000000, "30d 10h 30min"},
		{31557600000000, "365d 6h"},
		{api.MaxTime, "84006d"},
	} {
		if got := Text(x.n); got != x.want {
			t.Errorf("Text(%d) = %q, not %q", x.n, got, x.want)
		}
	}
}

// P2.2: each unit there or not, at its least and its greatest.
func TestTextOfAllUnits(t *testing.T) {
	units := []struct {
		name string
		size int64
		most int64
	}{{"d", 86400000000, 106751990}, {"h", 3600000000, 23}, {"min", 60000000, 59}, {"s", 1000000, 59}, {"ms", 1000, 999}, {"us", 1, 999}}
	for which := 1; which < 729; which++ {
		n, want := int64(0), []string{}
		left := which
		for _, unit := range units {
			count := []int64{0, 1, unit.most}[left%3]
			left /= 3
			if count > 0 {
				n += count * unit.size
				want = append(want, strconv.FormatInt(count, 10)+unit.name)
			}
		}
		if got := Text(n); got != strings.Join(want, " ") {
			t.Fatalf("Text(%d) = %q, not %q", n, got, strings.Join(want, " "))
		}
	}
}

// P2.3
func TestToldIsParsed(t *testing.T) {
	check := func(n int64) {
		if got, err := Parse(Text(n)); got != n || err != api.OK {
			t.Fatalf("%d is told as %q, and parsed as %d, %d", n, Text(n), got, err)
		}
	}
	for _, n := range []int64{0, 1, 999, 1000, 86400000000, 90061001001, api.MaxTime, api.Infinity - 2, api.Infinity - 1, api.Infinity} {
		check(n)
	}
	state := uint64(7)
	for shift := range 63 {
		for range 100 {
			state = state*6364136223846793005 + 1442695040888963407
			check(int64(state >> 1 >> shift))
		}
	}
	// What is told of a number below 0 is no text of a span.
	if got, err := Parse(Text(-1)); got != 0 || err != api.ErrSpan {
		t.Errorf("nothing is parsed as %d, %d", got, err)
	}
}

// P2.3
func TestOrderAndEnds(t *testing.T) {
	chance := dice(2)
	units := names()
	for range 2000 {
		var parts []string
		for range 1 + chance.roll(5) {
			parts = append(parts, chance.part(units))
		}
		text := strings.Join(parts, " ")
		want, wantErr := Parse(text)
		for range len(parts) {
			parts = append(parts[1:], parts[0])
			i := chance.roll(len(parts))
			parts[0], parts[i] = parts[i], parts[0]
			other := chance.pick("", " ", "\t", " \t ") + strings.Join(parts, chance.pick("", " ", "\t\t")) + chance.pick("", " ", "\t", "\t \t")
			if got, err := Parse(other); got != want || err != wantErr {
				t.Fatalf("Parse(%q) = %d, %d, but of %q it is %d, %d", other, got, err, text, want, wantErr)
			}
		}
	}
}
