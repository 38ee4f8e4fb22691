package words

import (
	"slices"
	"strconv"
	"strings"
	"testing"
	"time"

	"clepsydra/api"
)

// short is a text that a failed test may tell.
func short(text string) string {
	if len(text) > 200 {
		return strconv.Quote(text[:100]) + ".." + strconv.Quote(text[len(text)-60:]) + " (" + strconv.Itoa(len(text)) + " bytes)"
	}
	return strconv.Quote(text)
}

func shortList(l []string) string {
	var all []string
	for _, word := range l[:min(len(l), 20)] {
		all = append(all, short(word))
	}
	return strconv.Itoa(len(l)) + " words: " + strings.Join(all, " ")
}

// answers fails unless Split answers just that of a value.
func answers(t *testing.T, s string, want []string, err api.Errno) {
	t.Helper()
	l, e := Split(s)
	if e != err || !slices.Equal(l, want) {
		t.Errorf("Split(%s):\n%s, %d, but should be\n%s, %d", short(s), shortList(l), e, shortList(want), err)
	}
}

// says fails unless a value's words are these.
func says(t *testing.T, s string, want ...string) {
	t.Helper()
	answers(t, s, want, api.OK)
}

// isWrong fails unless a value has a fault.
func isWrong(t *testing.T, s string) {
	t.Helper()
	answers(t, s, nil, api.ErrQuote)
}

// joins fails unless words are told so.
func joins(t *testing.T, want string, l ...string) {
	t.Helper()
	if s := Join(l...); s != want {
		t.Errorf("Join of %s:\n%s, but should be\n%s", shortList(l), short(s), short(want))
	}
}

// P12.1, P12.2: the chapter's examples.
func TestExamples(t *testing.T) {
	says(t, `a "b c" 'd\n' e\x41`, "a", "b c", `d\n`, "eA")
	isWrong(t, `"a`)
	joins(t, `"a b" ""`, "a b", "")
	says(t, `""`, "")
}

// P12.1: nothing, and blanks alone.
func TestNothing(t *testing.T) {
	for _, s := range []string{"", " ", "\t", "  ", "\t\t", " \t", "\t ", " \t \t\t  ", strings.Repeat(" ", 1000), strings.Repeat("\t", 1000)} {
		says(t, s)
	}
}

// P12.1: blanks of both kinds, ahead, between, behind, and within words.
func TestBlanks(t *testing.T) {
	for _, blank := range []string{" ", "\t", "  ", "\t\t", " \t", "\t ", " \t \t ", strings.Repeat(" ", 70)} {
		says(t, "a", "a")
		says(t, blank+"a", "a")
		says(t, "a"+blank, "a")
		says(t, blank+"a"+blank, "a")
		says(t, "a"+blank+"b", "a", "b")
		says(t, blank+"a"+blank+"bc"+blank+"d"+blank, "a", "bc", "d")
		says(t, `""`+blank+`''`, "", "")
		says(t, blank+`""`+blank, "")
		says(t, `\n`+blank+`\x41`+blank+`\\`, "\n", "A", `\`)
		says(t, `"a`+blank+`b"`, "a"+blank+"b")
		says(t, `'a`+blank+`b'`, "a"+blank+"b")
		says(t, `"`+blank+`"`, blank)
		says(t, `'`+blank+`'`, blank)
		says(t, `a"`+blank+`"'`+blank+`'b`+blank+"c", "a"+blank+blank+"b", "c")
	}
	says(t, "a  b\t", "a", "b")
	says(t, "b a b", "b", "a", "b")
}

// P12.1: bytes that look like blanks are none.
func TestNoBlanks(t *testing.T) {
	for _, none := range []string{
		"\n", "\v", "\f", "\r", "\x00", "\x1c", "\x7f", "\x80", "\x85", "\xa0", "\xff", "\u00a0", "\u2003", "\u3000", "\ufeff", "é", "日本", "#", ";", "=", ",", "%", "$", "`", "/", "x", "n", "41",
	} {
		says(t, none, none)
		says(t, "a"+none+"b", "a"+none+"b")
		says(t, none+" "+none+"\t"+none, none, none, none)
		says(t, none+none, none+none)
		says(t, `"`+none+`"`, none)
		says(t, `'`+none+`'`, none)
	}
}

// P12.1: quotes at a word's begin, in its middle, at its end, side by side, and empty.
func TestQuotes(t *testing.T) {
	for _, q := range []string{`"`, `'`} {
		says(t, q+"a b"+q, "a b")
		says(t, q+"a b"+q+"c", "a bc")
		says(t, "a"+q+"b c"+q+"d", "ab cd")
		says(t, "a"+q+"b c"+q, "ab c")
		says(t, q+"a"+q+q+"b"+q, "ab")
		says(t, q+"a "+q+"b"+q+" c"+q, "a b c")
		says(t, q+"a"+q+" "+q+"b"+q, "a", "b")
		says(t, q+q, "")
		says(t, q+q+q+q, "")
		says(t, q+q+" "+q+q, "", "")
		says(t, "a"+q+q, "a")
		says(t, q+q+"a", "a")
		says(t, "a"+q+q+"b", "ab")
		says(t, "a "+q+q+" b", "a", "", "b")
		says(t, q+" "+q+q+" "+q, "  ")
		says(t, q+strings.Repeat("a b ", 1000)+q, strings.Repeat("a b ", 1000))
	}
	says(t, `'a b'"c"d e`, "a bcd", "e")
	says(t, `"a"'b'`, "ab")
	says(t, `""''`, "")
	says(t, `''"" ""''`, "", "")
	says(t, `"" ''`, "", "")
}

// P12.1: within quotes the other kind's byte is as any other one.
func TestOtherQuotes(t *testing.T) {
	says(t, `"'"`, "'")
	says(t, `'"'`, `"`)
	says(t, `"a'b"`, "a'b")
	says(t, `'a"b'`, `a"b`)
	says(t, `"''" '""'`, "''", `""`)
	says(t, `"'a b'" '"a b"'`, "'a b'", `"a b"`)
	says(t, `"'"'"'`, `'"`)
	says(t, `'"'"'"`, `"'`)
	says(t, `"it's" 'it"s'`, "it's", `it"s`)
	isWrong(t, `"''`)
	isWrong(t, `'""`)
	isWrong(t, `"'"'`)
	isWrong(t, `'"'"`)
}

// P12.1: quotes that are not closed.
func TestOpenQuotes(t *testing.T) {
	for _, q := range []string{`"`, `'`} {
		for _, s := range []string{q, q + " ", q + "a", "a" + q, "a " + q, q + "a b c", q + q + q, q + "a" + q + q, "a" + q + "b", "a b " + q + "c d e", q + "a" + q + " " + q + "b", q + "\t", "'a'" + q, `"a"` + q, q + "\n", q + "\x00"} {
			isWrong(t, s)
			isWrong(t, "a "+s)
			isWrong(t, " "+s+" ")
			isWrong(t, s+" b")
		}
	}
	// A quote that is told is none.
	isWrong(t, `"\"`)
	isWrong(t, `"a\"`)
	isWrong(t, `"\x22`)
	isWrong(t, `'\'\'\`+`''`)
	says(t, `\"`, `"`)
	says(t, `\'`, `'`)
	says(t, `\"a b\"`, `"a`, `b"`)
	says(t, `\'a b\'`, `'a`, `b'`)
	says(t, `\x22 \x27`, `"`, `'`)
	says(t, `"\x22" "\x27"`, `"`, `'`)
	says(t, `"\"" "\'"`, `"`, `'`)
}

// standsFor are the bytes that a backslash may tell by one byte.
func standsFor() map[byte]string {
	return map[byte]string{'n': "\x0a", 't': "\x09", 's': "\x20", '\\': "\x5c", '"': "\x22", '\'': "\x27"}
}

// P12.1: a backslash ahead of each byte there is, outside of quotes and within " ones.
func TestBackslash(t *testing.T) {
	told := standsFor()
	for i := range 256 {
		c := string([]byte{byte(i)})
		if stands, ok := told[byte(i)]; ok {
			says(t, `\`+c, stands)
			says(t, `a\`+c+`b`, "a"+stands+"b")
			says(t, `\`+c+` \`+c, stands, stands)
			says(t, `"\`+c+`"`, stands)
			says(t, `"a\`+c+`b\`+c+`"`, "a"+stands+"b"+stands)
			says(t, `"a"\`+c+`'b'`, "a"+stands+"b")
			isWrong(t, `"\`+c)
			continue
		}
		// An x is wrong as well, as no digits stand behind it.
		for _, s := range []string{`\` + c, `a\` + c, `\` + c + `n`, `\` + c + ` b`, `\` + c + `"`, `\` + c + `'`, `""\` + c, `"\` + c, `"\` + c + `"`, `"a\` + c + `no"`, `"\` + c + ` " b`} {
			isWrong(t, s)
			isWrong(t, "a "+s)
		}
	}
}

// P12.1: within ' quotes a backslash is as any other byte, ahead of the closing one too.
func TestBackslashIsAByte(t *testing.T) {
	for i := range 256 {
		if c := string([]byte{byte(i)}); c != "'" {
			says(t, `'\`+c+`'`, `\`+c)
			says(t, `'a\`+c+`b' c`, `a\`+c+"b", "c")
		}
	}
	says(t, `'\'`, `\`)
	says(t, `'a\' b`, `a\`, "b")
	says(t, `'\\'`, `\\`)
	says(t, `'\\n\x41\'`, `\\n\x41\`)
	isWrong(t, `'\''`)
}

// P12.1: a backslash with nothing behind it, or a closing quote.
func TestBackslashAtTheEnd(t *testing.T) {
	for _, s := range []string{`\`, `a\`, `a b\`, `a b \`, `\\\`, `\n\`, `""\`, `''\`, `"\`, `"a\`, `"a" \`, `a\ `, `\ a`, "\\\t", `"\"`, `"a\"`, `"\\\"`, `"a" "b\"`} {
		isWrong(t, s)
	}
	says(t, `\\`, `\`)
	says(t, `\\\\`, `\\`)
	says(t, `\\n`, `\n`)
	says(t, `"\\"`, `\`)
	says(t, `"a\\" b`, `a\`, "b")
	says(t, `\\ \\`, `\`, `\`)
	says(t, `\\"a b"`, `\a b`)
	says(t, `\x5cn`, `\n`)
	says(t, `\x5c\x5c`, `\\`)
}

// P12.1: x and two digits: all of them, capital and small ones.
func TestDigits(t *testing.T) {
	const small, great = "0123456789abcdef", "0123456789ABCDEF"
	for i := range 256 {
		want := string([]byte{byte(i)})
		for _, high := range []byte{small[i/16], great[i/16]} {
			for _, low := range []byte{small[i%16], great[i%16]} {
				s := `\x` + string([]byte{high, low})
				says(t, s, want)
				says(t, "a"+s+"b", "a"+want+"b")
				says(t, s+"0"+s+"f", want+"0"+want+"f")
				says(t, `"`+s+`"`, want)
				says(t, `'`+s+`'`, s)
				says(t, s+" "+s, want, want)
			}
		}
	}
	says(t, `\x00 \x7f \x80 \xff \xFf`, "\x00", "\x7f", "\x80", "\xff", "\xff")
	says(t, `\xc3\xa9`, "é")
	says(t, `\x411`, "A1")
	says(t, `\x41\x42"\x43"`, "ABC")
}

// P12.1: x without its two digits.
func TestNoDigits(t *testing.T) {
	for _, s := range []string{`\x`, `\x4`, `a\x`, `a\xf`, `\x4 1`, `\x 41`, `\x 4`, `\x4"1"`, `\x"41"`, `\x\x41`, `\x4\x41`, `\X41`, `\u0041`, `\041`, `"\x"`, `"\x4"`, `"\x`, `"\x4`, `"\x41`, `"\x4 1"`, `\x-1`, `\x+1`, `\x 1`, `\x0x`, `\xx41`, `\x4_1`} {
		isWrong(t, s)
		isWrong(t, "a "+s)
		isWrong(t, s+" b")
	}
	for i := range 256 {
		c := string([]byte{byte(i)})
		if strings.Contains("0123456789abcdefABCDEF", c) {
			isWrong(t, `\x`+c)
			isWrong(t, `"\x`+c+`"`)
			continue
		}
		for _, s := range []string{`\x` + c, `\x` + c + c, `\x4` + c, `\xf` + c + "4", `\x` + c + "4", `\x` + c + "41"} {
			isWrong(t, s)
			isWrong(t, `"`+s+`"`)
		}
	}
}

// P12.1: blanks that are told end no word, and those of a quote that is told end one.
func TestBlanksTold(t *testing.T) {
	says(t, `a\sb`, "a b")
	says(t, `a\tb`, "a\tb")
	says(t, `a\x20b '\x20'`, "a b", `\x20`)
	says(t, `a\x09b`, "a\tb")
	says(t, `\s`, " ")
	says(t, `\s\s \t`, "  ", "\t")
	says(t, `"a\sb\tc"`, "a b\tc")
	says(t, `\sa\s b`, " a ", "b")
	says(t, `\"a b`, `"a`, "b")
	says(t, `a\nb`, "a\nb")
}

// many are words, one blank between.
func many(word string, n int) string { return strings.TrimSuffix(strings.Repeat(word+" ", n), " ") }

// P12.1: 64 words, one less, and more.
func TestMaxList(t *testing.T) {
	for told, word := range map[string]string{"a": "a", `""`: "", "''": "", `"a b"`: "a b", `\s`: " ", `\x20`: " ", "'a'\"b\"": "ab", "\n": "\n"} {
		for _, n := range []int{1, 2, 63, 64} {
			want := slices.Repeat([]string{word}, n)
			says(t, many(told, n), want...)
			says(t, " \t"+many(told, n)+"\t ", want...)
			says(t, strings.Repeat(told+"\t ", n), want...)
		}
		for _, n := range []int{65, 66, 100, 128, 1000, 65536} {
			answers(t, many(told, n), nil, api.ErrLimit)
			answers(t, " \t"+many(told, n)+"\t ", nil, api.ErrLimit)
		}
	}
	// Blanks and quotes are no words.
	says(t, strings.Repeat(" ", 1000)+many("a", 64)+strings.Repeat("\t", 1000), slices.Repeat([]string{"a"}, 64)...)
	says(t, strings.Repeat(`"a b"'c d'`, 100), strings.Repeat("a bc d", 100))
	says(t, `"`+many("a", 1000)+`"`, many("a", 1000))
	answers(t, many("a", 64)+` ""`, nil, api.ErrLimit)
	answers(t, many("a", 64)+" ", slices.Repeat([]string{"a"}, 64), api.OK)
}

// P12.1: what is wrong counts more than too many words, wherever it stands.
func TestWrongAndTooMany(t *testing.T) {
	for _, wrong := range []string{`"`, `'`, `"a`, `\`, `\z`, `\x4`, `\xg0`, `"\z"`, `"\`, `a\ b`} {
		for _, n := range []int{0, 1, 62, 63, 64, 65, 66, 200, 5000} {
			isWrong(t, many("a", n)+" "+wrong)
			isWrong(t, many(`""`, n)+" "+wrong)
			if n > 0 {
				isWrong(t, many("a", n)+wrong)
			}
			isWrong(t, wrong+" "+many("a", n))
			isWrong(t, many("a", n)+" "+wrong+" "+many("a", n))
		}
	}
}

// P12.2: no words, one, some, and more than Split takes.
func TestJoin(t *testing.T) {
	joins(t, "")
	if s := Join([]string{}...); s != "" {
		t.Errorf("Join of an empty list: %q", s)
	}
	joins(t, `""`, "")
	joins(t, "a", "a")
	joins(t, "a b", "a", "b")
	joins(t, `"" ""`, "", "")
	joins(t, `a "" b`, "a", "", "b")
	joins(t, `"" a ""`, "", "a", "")
	joins(t, `a "b c" "" "d\"e" "\x01"`, "a", "b c", "", `d"e`, "\x01")
	joins(t, `" "`, " ")
	joins(t, `"  "`, "  ")
	joins(t, `"\t"`, "\t")
	joins(t, `" \t "`, " \t ")
	joins(t, `"\n"`, "\n")
	joins(t, `"'"`, "'")
	joins(t, `"\""`, `"`)
	joins(t, `"\\"`, `\`)
	joins(t, `"\\n"`, `\n`)
	joins(t, `"\"'\\ \n\t\x00\x1f\x7f"`, "\"'\\ \n\t\x00\x1f\x7f")
	joins(t, `"it's"`, "it's")
	joins(t, "b a b", "b", "a", "b")
	for _, n := range []int{63, 64, 65, 1000} {
		joins(t, many("a", n), slices.Repeat([]string{"a"}, n)...)
		joins(t, many(`""`, n), slices.Repeat([]string{""}, n)...)
		joins(t, many(`"a b"`, n), slices.Repeat([]string{"a b"}, n)...)
	}
}

// joined is how a word of the byte i, and of others that are told as they are, is told, ahead and behind.
func joined(i int) (ahead, told, behind string) {
	c := string([]byte{byte(i)})
	const small = "0123456789abcdef"
	switch {
	case i == 9:
		return `"`, `\t`, `"`
	case i == 10:
		return `"`, `\n`, `"`
	case i < 32 || i == 127:
		return `"`, `\x` + small[i/16:i/16+1] + small[i%16:i%16+1], `"`
	case i == 32 || i == 39:
		return `"`, c, `"`
	case i == 34 || i == 92:
		return `"`, `\` + c, `"`
	}
	return "", c, ""
}

// P12.2: words with each byte there is in them.
func TestJoinEveryByte(t *testing.T) {
	for i := range 256 {
		c := string([]byte{byte(i)})
		ahead, told, behind := joined(i)
		joins(t, ahead+told+behind, c)
		joins(t, ahead+told+told+behind, c+c)
		joins(t, ahead+"a"+told+behind, "a"+c)
		joins(t, ahead+told+"a"+behind, c+"a")
		joins(t, ahead+"a"+told+"b"+behind, "a"+c+"b")
		joins(t, "a "+ahead+told+behind+" b", "a", c, "b")
		joins(t, `"`+told+` "`, c+" ")
		says(t, ahead+told+behind, c)
	}
	for _, plain := range []string{"é", "日本語", "\u00a0", "\u2003", "\u3000", "\ufeff", "\xff\xfe", "\x80", "!#$%&()*+,-./:;<=>?@[]^_`{|}~", "a=b", "x41", "n"} {
		joins(t, plain, plain)
		joins(t, `"`+plain+` "`, plain+" ")
	}
	joins(t, `"\x1b[1m"`, "\x1b[1m")
	joins(t, `"\x00\x01\x02\x03\x04\x05\x06\x07\x08\t\n\x0b\x0c\x0d\x0e\x0f"`, "\x00\x01\x02\x03\x04\x05\x06\x07\x08\t\n\v\f\r\x0e\x0f")
	joins(t, `"\x10\x11\x12\x13\x14\x15\x16\x17\x18\x19\x1a\x1b\x1c\x1d\x1e\x1f"`, "\x10\x11\x12\x13\x14\x15\x16\x17\x18\x19\x1a\x1b\x1c\x1d\x1e\x1f")
}

// P12.3: words handed in are only read, those behind the list's length too.
func TestOnlyRead(t *testing.T) {
	memory := []string{"a", "", "b c", `"`, "\x01", "behind", "b c"}
	want := slices.Clone(memory)
	for n := range len(memory) + 1 {
		s := Join(memory[:n]...)
		if !slices.Equal(memory, want) {
			t.Fatalf("Join has changed %s to %s", shortList(want), shortList(memory))
		}
		says(t, s, memory[:n]...)
	}
}

// P12.3: what is answered stays as it is, when what was handed in is written over.
func TestNotKept(t *testing.T) {
	l := []string{"a", "b c", ""}
	s := Join(l...)
	for i := range l {
		l[i] = "?"
	}
	if s != `a "b c" ""` {
		t.Errorf("Join: %q", s)
	}
	joins(t, `a "b c" ""`, "a", "b c", "")
}

// P12.3: what is answered is new memory, behind its length too.
func TestNewMemory(t *testing.T) {
	for _, s := range []string{"", "a", `a "b c" ''`, many("a", 64), many(`'a b'`, 63)} {
		l1, _ := Split(s)
		l2, _ := Split(s)
		want := slices.Clone(l2)
		for i := range l1[:cap(l1)] {
			l1[:cap(l1)][i] = "?"
		}
		if !slices.Equal(l2, want) {
			t.Errorf("Split(%s): another answer is changed: %s", short(s), shortList(l2))
		}
		says(t, s, want...)
	}
}

// What is answered hangs on what was handed in alone.
func TestAgain(t *testing.T) {
	for range 3 {
		says(t, `a "b c" \x41`, "a", "b c", "A")
		isWrong(t, `a "b`)
		isWrong(t, `\z`)
		answers(t, many("a", 65), nil, api.ErrLimit)
		joins(t, `a "b c"`, "a", "b c")
		says(t, "")
	}
}

// Every call ends soon, however much it is given.
func TestTime(t *testing.T) {
	begin := time.Now()
	const size = 1 << 20
	for _, part := range []string{"a", " ", "a ", `"`, `'`, `""`, `"" `, `\n`, `\n `, `\x41`, `\x41 `, `\\`, `"\"" `, "\x00", "\xff", `"'`, `'"`, `a"b c"`} {
		text := strings.Repeat(part, size/len(part))
		Split(text)
		Split(`"` + text)
		Split(text + `\`)
		l := []string{text, "", text}
		if again, e := Split(Join(l...)); e != api.OK || !slices.Equal(again, l) {
			t.Errorf("%d bytes of %q: %d, %s", size, part, e, shortList(again))
		}
	}
	joins(t, many("a", size/2), slices.Repeat([]string{"a"}, size/2)...)
	if took := time.Since(begin); took > 5*time.Second {
		t.Errorf("it took %v", took)
	}
}
