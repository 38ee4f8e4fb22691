package lines

import (
	"slices"
	"strconv"
	"strings"
	"testing"
	"time"

	"clepsydra/api"
)

// short is a text that a failed test may tell.
func short(text string) string {
	if len(text) > 200 {
		return strconv.Quote(text[:100]) + ".." + strconv.Quote(text[len(text)-60:]) + " (" + strconv.Itoa(len(text)) + " bytes)"
	}
	return strconv.Quote(text)
}

func shortLines(found []Line) string {
	var all []string
	for _, l := range found[:min(len(found), 20)] {
		all = append(all, strconv.Itoa(l.N)+" "+short(l.Section)+" "+short(l.Key)+" "+short(l.Value))
	}
	return strconv.Itoa(len(found)) + " lines: " + strings.Join(all, "; ")
}

func shortDiags(wrong []Diag) string {
	var all []string
	for _, d := range wrong[:min(len(wrong), 20)] {
		all = append(all, strconv.Itoa(d.N)+" "+strconv.Itoa(int(d.Err)))
	}
	return strconv.Itoa(len(wrong)) + " wrong: " + strings.Join(all, "; ")
}

// parses fails unless Parse tells just that of a file.
func parses(t *testing.T, file string, found []Line, wrong []Diag) {
	t.Helper()
	l, d := Parse([]byte(file))
	if !slices.Equal(l, found) {
		t.Errorf("Parse(%s):\n%s, but should be\n%s", short(file), shortLines(l), shortLines(found))
	}
	if !slices.Equal(d, wrong) {
		t.Errorf("Parse(%s):\n%s, but should be\n%s", short(file), shortDiags(d), shortDiags(wrong))
	}
}

// The line that tests put behind others: it is told, if a section is in force.
const lastLine = "last=1"

// of puts lines under a section A, which begin in line 2, and the last line behind them.
func of(text string) string { return "[A]\n" + text + "\n" + lastLine }

// numberOfLast is the last line's number, in a file that of has made.
func numberOfLast(text string) int { return 3 + strings.Count(text, "\n") }

// says fails unless lines are one assignment, which begins in the first of them.
func says(t *testing.T, text, key, value string) {
	t.Helper()
	parses(t, of(text), []Line{{2, "A", key, value}, {numberOfLast(text), "A", "last", "1"}}, nil)
}

// saysNothing fails unless lines are passed over.
func saysNothing(t *testing.T, text string) {
	t.Helper()
	parses(t, of(text), []Line{{numberOfLast(text), "A", "last", "1"}}, nil)
}

// opens fails unless lines are a section's.
func opens(t *testing.T, text, section string) {
	t.Helper()
	parses(t, of(text), []Line{{numberOfLast(text), section, "last", "1"}}, nil)
}

// isWrong fails unless lines are one whole line that is wrong, and the section stays.
func isWrong(t *testing.T, text string) {
	t.Helper()
	parses(t, of(text), []Line{{numberOfLast(text), "A", "last", "1"}}, []Diag{{2, api.ErrLine}})
}

// opensNone fails unless lines are one whole line that is wrong, and behind which no section is in force.
func opensNone(t *testing.T, text string) {
	t.Helper()
	parses(t, of(text), nil, []Diag{{2, api.ErrLine}, {numberOfLast(text), api.ErrLine}})
}

// P11.1: the chapter's examples, and an ordinary file.
func TestExamples(t *testing.T) {
	parses(t, "[A]\nk=v\\\n# no\nw", []Line{{2, "A", "k", "v w"}}, nil)
	parses(t, "[A]\nk=v\\\n# no\nw\n", []Line{{2, "A", "k", "v w"}}, nil)
	parses(t, "k=1", nil, []Diag{{1, api.ErrLine}})
	parses(t, "# a timer\n\n[Unit]\nDescription=it rings\nAfter = a.service \\\n; not now\n b.service\n\n[Timer]\nOnBootSec=1min 30s\nOnCalendar=\nno\n",
		[]Line{
			{4, "Unit", "Description", "it rings"},
			{5, "Unit", "After", "a.service   b.service"},
			{10, "Timer", "OnBootSec", "1min 30s"},
			{11, "Timer", "OnCalendar", ""},
		},
		[]Diag{{12, api.ErrLine}})
}

// P11.1: files that say nothing.
func TestNothing(t *testing.T) {
	for _, b := range [][]byte{nil, {}, {10}, {13}, {13, 10}, {32}, {9}, []byte("\n\n\n"), []byte("#"), []byte(";"), []byte("[A]"), []byte("\n[A]\r\n")} {
		if l, d := Parse(b); len(l) != 0 || len(d) != 0 {
			t.Errorf("Parse(%q): %v, %v", b, l, d)
		}
	}
}

// P11.1: bytes 10 at the end, and none; at the beginning.
func TestEnds(t *testing.T) {
	for ahead := range 4 {
		for behind := range 4 {
			file := strings.Repeat("\n", ahead) + "[A]\nk=v" + strings.Repeat("\n", behind)
			parses(t, file, []Line{{ahead + 2, "A", "k", "v"}}, nil)
		}
	}
}

// P11.1: one byte 13 at a line's end does not count; another one does, and one inside.
func TestReturns(t *testing.T) {
	parses(t, "[A]\r\nk=v\r\n\r\nl=w\r\n", []Line{{2, "A", "k", "v"}, {4, "A", "l", "w"}}, nil)
	parses(t, "[A]\r\nk=v\r", []Line{{2, "A", "k", "v"}}, nil)
	says(t, "k=v\r\r", "k", "v\r")
	says(t, "k=v\r\r\r", "k", "v\r\r")
	says(t, "k=v \r", "k", "v")
	says(t, "k=v \r\r", "k", "v \r")
	says(t, "k=v\r ", "k", "v\r")
	says(t, "k=v\r \r", "k", "v\r")
	says(t, "k=\rv", "k", "\rv")
	says(t, "k=v\rw", "k", "v\rw")
	says(t, "k=\r", "k", "")
	says(t, "k=\r\r", "k", "\r")
	says(t, "k=\\\r\r", "k", "\\\r")
	isWrong(t, "k\r=v")
	isWrong(t, "k\r")
	isWrong(t, "\rk=v")
	isWrong(t, "\r\r")
	isWrong(t, "\r ")
	isWrong(t, "\r# no")
	isWrong(t, "\r[B]")
	opens(t, "[B]\r", "B")
	opens(t, "[\r]\r", "\r")
	opens(t, "[B\rC]", "B\rC")
	opens(t, "[B\r]", "B\r")
	opensNone(t, "[B]\r\r")
	opensNone(t, "[B\r")
	saysNothing(t, "\r")
	saysNothing(t, " \r")
	saysNothing(t, "# no\r\r")
	// A file's last line has its byte 13 taken away as well.
	parses(t, "[A]\nk=v\r\r", []Line{{2, "A", "k", "v\r"}}, nil)
}

// P11.1: both blanks, at the ends of lines, around =, and around a section's brackets.
func TestBlanks(t *testing.T) {
	for _, blank := range []string{" ", "\t", "  ", "\t\t", " \t", "\t ", " \t \t "} {
		says(t, blank+"k=v", "k", "v")
		says(t, "k=v"+blank, "k", "v")
		says(t, "k"+blank+"=v", "k", "v")
		says(t, "k="+blank+"v", "k", "v")
		says(t, "k=v"+blank+"w", "k", "v"+blank+"w")
		says(t, "k="+blank, "k", "")
		says(t, blank+"k"+blank+"="+blank+"v"+blank+"w"+blank, "k", "v"+blank+"w")
		says(t, "k=="+blank+"v", "k", "="+blank+"v")
		says(t, "k="+blank+"="+blank+"v", "k", "="+blank+"v")
		opens(t, blank+"[B]", "B")
		opens(t, "[B]"+blank, "B")
		opens(t, blank+"[B]"+blank, "B")
		opens(t, "["+blank+"B]", blank+"B")
		opens(t, "[B"+blank+"]", "B"+blank)
		opens(t, "["+blank+"B"+blank+"C"+blank+"]", blank+"B"+blank+"C"+blank)
		opens(t, "["+blank+"]", blank)
		isWrong(t, "k"+blank+"l=v")
		isWrong(t, "k"+blank+"v")
		isWrong(t, blank+"=v")
		isWrong(t, blank+"k")
		opensNone(t, blank+"[B]"+blank+"x")
		opensNone(t, blank+"["+blank)
		saysNothing(t, blank)
	}
}

// P11.1: bytes that look like blanks are none.
func TestNoBlanks(t *testing.T) {
	for _, none := range []string{"\v", "\f", "\x00", "\x1c", "\x7f", "\x85", "\xa0", "\u00a0", "\u2003", "\u3000", "\ufeff"} {
		says(t, "k=v"+none, "k", "v"+none)
		says(t, "k="+none+"v", "k", none+"v")
		says(t, "k="+none, "k", none)
		says(t, "k="+none+" ", "k", none)
		says(t, "k= "+none, "k", none)
		isWrong(t, none)
		isWrong(t, " "+none+" ")
		isWrong(t, none+"k=v")
		isWrong(t, "k"+none+"=v")
		isWrong(t, none+"[B]")
		isWrong(t, none+"# no")
		isWrong(t, none+"; no")
		opens(t, "["+none+"]", none)
		opensNone(t, "[B]"+none)
	}
}

// P11.1: lines that are passed over, and marks that are not a line's first.
func TestPassedOver(t *testing.T) {
	for _, text := range []string{
		"", " ", "\t", " \t ", "\n", "\n\n \n\t", "#", ";", "##", "#;", ";#", "# k=v", "; k=v", "#k=v", ";k=v", "#[B]", ";[B]", "#[", " # k=v", "\t;k=v", " \t #",
		"# no\n; no\n\n # no", "#\\", "; k=v\\", "# k=v\\\n", "#\\\\", "#\xff", "#\r", ";\r",
		"#" + strings.Repeat("x", 5000), ";" + strings.Repeat(" ", 5000), strings.Repeat(" ", 5000), strings.Repeat("\t", 5000) + "#",
	} {
		saysNothing(t, text)
		saysNothing(t, text+"\n"+text)
	}
	says(t, "k=#", "k", "#")
	says(t, "k=;", "k", ";")
	says(t, "k= # no", "k", "# no")
	says(t, "k=v # no", "k", "v # no")
	says(t, "k=v ; no", "k", "v ; no")
	says(t, "k=v;no", "k", "v;no")
	isWrong(t, "k#=v")
	isWrong(t, "k;")
	opens(t, "[#]", "#")
	opens(t, "[;B]", ";B")
	opensNone(t, "[B] # no")
	opensNone(t, "[B];")
}

// P11.1: a remark that ends in a backslash does not go on.
func TestRemarkDoesNotGoOn(t *testing.T) {
	for _, remark := range []string{"#\\", "; no\\", " # no\\", "\t;\\\\", "#\\\r"} {
		parses(t, "[A]\n"+remark+"\nk=v\n", []Line{{3, "A", "k", "v"}}, nil)
		parses(t, remark+"\n[A]\nk=v\n", []Line{{3, "A", "k", "v"}}, nil)
	}
}

// P11.1: lines that go on.
func TestGoesOn(t *testing.T) {
	says(t, "k=v\\\nw", "k", "v w")
	says(t, "k=v\\\nw\\\nx", "k", "v w x")
	says(t, "k=v \\\n w", "k", "v   w")
	says(t, "k=v\\\n\tw\t", "k", "v \tw")
	says(t, "k=\\\nv", "k", "v")
	says(t, "k\\\n=v", "k", "v")
	says(t, "k\\\n\\\n=\\\n\\\nv", "k", "v")
	says(t, "k=v\\\nl=w", "k", "v l=w")
	says(t, "k=v\\\n[B]", "k", "v [B]")
	says(t, "k=v\\w", "k", "v\\w")
	says(t, "k=v\\w\\\nx", "k", "v\\w x")
	says(t, "k=1\\"+strings.Repeat("\n2\\", 500)+"\n3", "k", "1"+strings.Repeat(" 2", 500)+" 3")
	isWrong(t, "k\\\nl=v")
	isWrong(t, "k\\\nv")
	opens(t, "[B\\\nC]", "B C")
	opens(t, "[B]\\\n", "B")
	opens(t, "[\\\nB]", " B")
	opens(t, "[\\\n]", " ")
	opensNone(t, "[B]\\\nx")
	opensNone(t, "[B]\\\n[C]")
	opensNone(t, "[B\\\n")
}

// P11.1: lines of # and ; are left out of those that go on, whatever they end in; the marks behind others are none.
func TestGoesOnOverRemarks(t *testing.T) {
	says(t, "k=v\\\n# no\nw", "k", "v w")
	says(t, "k=v\\\n; no\nw", "k", "v w")
	says(t, "k=v\\\n#\n;\n # no\n\t;no\nw", "k", "v w")
	says(t, "k=v\\\n# no\\\nw", "k", "v w")
	says(t, "k=v\\\n# no\\\n; no\\\nw", "k", "v w")
	says(t, "k=v\\\n# no\nw\\\n; no\nx", "k", "v w x")
	says(t, "k=v\\\nw # no", "k", "v w # no")
	for _, end := range []string{"# no", "# no\n", "# no\\", "# no\n; no", "# no\n; no\\\n"} {
		parses(t, "[A]\nk=v\\\n"+end, []Line{{2, "A", "k", "v"}}, nil)
	}
	parses(t, "[A]\nk=v\\\n# no\nl=w\nm=x", []Line{{2, "A", "k", "v l=w"}, {5, "A", "m", "x"}}, nil)
}

// P11.1: a line of blanks is not left out: it ends what goes on.
func TestGoesOnToBlanks(t *testing.T) {
	for _, blank := range []string{"", " ", "\t", " \t ", "\r", " \r"} {
		says(t, "k=v\\\n"+blank, "k", "v")
		says(t, "k=v\\\n# no\n"+blank, "k", "v")
		parses(t, "[A]\nk=v\\\n"+blank+"\nl=w", []Line{{2, "A", "k", "v"}, {4, "A", "l", "w"}}, nil)
		parses(t, "[A]\nk=v\\\n"+blank, []Line{{2, "A", "k", "v"}}, nil)
		isWrong(t, "\\\n"+blank)
		isWrong(t, "k\\\n"+blank)
	}
	says(t, "k=v\\\n  \\\nw", "k", "v    w")
	says(t, "k=v\\\n\\\nw", "k", "v  w")
	says(t, "k=v\\\n\\\n", "k", "v")
}

// P11.1: behind the last line nothing stands.
func TestGoesOnAtTheEnd(t *testing.T) {
	parses(t, "[A]\nk=v\\", []Line{{2, "A", "k", "v"}}, nil)
	parses(t, "[A]\nk=v\\\n", []Line{{2, "A", "k", "v"}}, nil)
	parses(t, "[A]\nk=v\\\nw\\", []Line{{2, "A", "k", "v w"}}, nil)
	parses(t, "[A]\nk=v\\\r", []Line{{2, "A", "k", "v"}}, nil)
	parses(t, "[A]\nk=v\\\\", []Line{{2, "A", "k", "v\\"}}, nil)
	parses(t, "[A]\nk=\\", []Line{{2, "A", "k", ""}}, nil)
	parses(t, "[A]\nk\\", nil, []Diag{{2, api.ErrLine}})
	parses(t, "[A]\\", nil, nil)
	parses(t, "[A\\", nil, []Diag{{1, api.ErrLine}})
	parses(t, "\\", nil, []Diag{{1, api.ErrLine}})
	parses(t, "\\\\", nil, []Diag{{1, api.ErrLine}})
	parses(t, "\\\n", nil, []Diag{{1, api.ErrLine}})
	parses(t, "\\\n\\\n\\", nil, []Diag{{1, api.ErrLine}})
	parses(t, "\\\n# no", nil, []Diag{{1, api.ErrLine}})
}

// P11.1: a byte 13 behind the backslash does not count; a second one and blanks do.
func TestBehindTheBackslash(t *testing.T) {
	says(t, "k=v\\\r\nw", "k", "v w")
	says(t, "k=v\\\r\nw\\\r\n# no\r\nx\r", "k", "v w x")
	says(t, "k=v\r\\\nw", "k", "v\r w")
	says(t, "k=v\\\nw\r\r", "k", "v w\r")
	says(t, "k=v\\\r\r", "k", "v\\\r")
	for _, blank := range []string{" ", "\t", " \t"} {
		says(t, "k=v\\"+blank, "k", "v\\")
		says(t, "k=v\\"+blank+"\r", "k", "v\\")
		says(t, "k=v\\\nw\\"+blank, "k", "v w\\")
		isWrong(t, "\\"+blank)
		opensNone(t, "[B]\\"+blank)
	}
}

// P11.1: of two backslashes at the end one is left.
func TestTwoBackslashes(t *testing.T) {
	says(t, "k=v\\\\\nw", "k", "v\\ w")
	says(t, "k=v\\\\\\\nw", "k", "v\\\\ w")
	says(t, "k=v\\\\\n", "k", "v\\")
	says(t, "k=\\\\\n", "k", "\\")
	says(t, "k=v\\\\\n# no\nw", "k", "v\\ w")
	says(t, "k=\\v", "k", "\\v")
	isWrong(t, "\\k=v")
	isWrong(t, "k\\=v")
	opens(t, "[\\]", "\\")
	opens(t, "[B\\\\\n]", "B\\ ")
}

// P11.1: lines whose only byte is a backslash.
func TestBackslashAlone(t *testing.T) {
	says(t, "\\\nk=v", "k", "v")
	says(t, " \\\n k=v", "k", "v")
	says(t, "\\\r\nk=v", "k", "v")
	says(t, "\\\n\\\n\\\nk=v", "k", "v")
	says(t, "\\\n# no\n\\\n; no\nk=v", "k", "v")
	opens(t, "\\\n[B]", "B")
	opens(t, "\\\n\\\n[B]\\\n", "B")
	isWrong(t, "\\\n")
	isWrong(t, "\\\n\\\n")
	isWrong(t, "\\\nk")
	opensNone(t, "\\\n[B")
}

// P11.1: what is a section's line, and what is none.
func TestSections(t *testing.T) {
	for _, name := range []string{
		"B", "b", "1", "-", "=", "k=v", "#", ";", "\\B", " ", "\t", "B C", " B ", "\"", "\x00", "\x7f", "\x80", "\xff\xfe", "é", "Ü", "日本", "\r", "\v", "Install", "X-Own",
		"(){}<>", "B/C.d", strings.Repeat("b", 1000),
	} {
		opens(t, "["+name+"]", name)
		opens(t, "  ["+name+"]\t\r", name)
		opensNone(t, "["+name)
		opensNone(t, "[["+name+"]")
		opensNone(t, "["+name+"]]")
		opensNone(t, "["+name+"]["+name+"]")
		opensNone(t, "["+name+"]"+name+"]")
		opensNone(t, "["+name+"["+name+"]")
		opensNone(t, "["+name+"]x")
		opensNone(t, "["+name+"] x")
		opensNone(t, "["+name+"] k=v")
		opensNone(t, "["+name+"]=v")
		isWrong(t, "x["+name+"]")
		isWrong(t, "x ["+name+"]")
	}
	for _, none := range []string{"[", "[]", "[[", "[[]", "[]]", "[][]", "[[]]", "[=", "[]=v", "[]x", "[B]x]", "[B[]", "[]B]", "[k=v", "[\\ ", "[k=v\\\n"} {
		opensNone(t, none)
	}
	for _, none := range []string{"]", "]B[", "B]", "{B}", "B"} {
		isWrong(t, none)
	}
}

// P11.1: which section is in force.
func TestWhichSection(t *testing.T) {
	parses(t, "[A]\nk=1\n[B]\nk=2\nl=3\n[A]\nk=4",
		[]Line{{2, "A", "k", "1"}, {4, "B", "k", "2"}, {5, "B", "l", "3"}, {7, "A", "k", "4"}}, nil)
	parses(t, "[A]\n[B]\nk=1", []Line{{3, "B", "k", "1"}}, nil)
	parses(t, "[A]\n[A]\nk=1\nk=1", []Line{{3, "A", "k", "1"}, {4, "A", "k", "1"}}, nil)
	// Ahead of all of them there is none.
	parses(t, "k=1\nl=2\n[A]\nk=3", []Line{{4, "A", "k", "3"}}, []Diag{{1, api.ErrLine}, {2, api.ErrLine}})
	parses(t, "k\n[A]\nk=3", []Line{{3, "A", "k", "3"}}, []Diag{{1, api.ErrLine}})
	// Nor behind one that is none, up to the next one.
	parses(t, "[A]\nk=1\n[B\nk=2\n\n# no\nl=3\n[C]\nk=4",
		[]Line{{2, "A", "k", "1"}, {9, "C", "k", "4"}}, []Diag{{3, api.ErrLine}, {4, api.ErrLine}, {7, api.ErrLine}})
	parses(t, "[]\n[A]\nk=1", []Line{{3, "A", "k", "1"}}, []Diag{{1, api.ErrLine}})
	parses(t, "[A]\n[]\nk\n[]\nk=1", nil, []Diag{{2, api.ErrLine}, {3, api.ErrLine}, {4, api.ErrLine}, {5, api.ErrLine}})
	// What is wrong otherwise leaves it as it is.
	parses(t, "[A]\nk\n=v\n1=v\n]\n\\\n\nk=1", []Line{{8, "A", "k", "1"}},
		[]Diag{{2, api.ErrLine}, {3, api.ErrLine}, {4, api.ErrLine}, {5, api.ErrLine}, {6, api.ErrLine}})
}

// P11.1: values, which may be anything.
func TestValues(t *testing.T) {
	for _, value := range []string{
		"", "=", "==", "=v", "v=", "a=b=c", "1", "yes", "[B]", "[", "]", "a b", "a \t b", "\"a b\"", "'", "%i", "$A", "\\a", "a\\b", "#", "; no", "\x00", "\v\f", "\x80\xff", "é", "日本語",
		"*-*-* 2:30", "5min 20s", "\r\r\rx", strings.Repeat("long ", 500) + ".",
	} {
		says(t, "k="+value, "k", value)
		says(t, "Key2 \t= \t"+value+" \t", "Key2", value)
	}
}

// P11.1: keys are letters, and behind the first one digits too.
func TestKeys(t *testing.T) {
	for _, key := range []string{"k", "K", "a", "z", "A", "Z", "a0", "z9", "A1b2", "Z99", "OnCalendar", "X" + strings.Repeat("9", 1000), strings.Repeat("z", 1000)} {
		says(t, key+"=v", key, "v")
		says(t, key+" = v", key, "v")
		says(t, key+"=", key, "")
		isWrong(t, key)
		isWrong(t, key+":v")
		isWrong(t, "9"+key+"=v")
	}
	for _, none := range []string{
		"", "0", "9", "1a", "0k", "12", "-k", "k-", "k-l", "k_l", "_k", "_", "k.l", "k:l", "k l", "k\tl", "é", "ké", "ék", "\x80", "k\xff", "k\x00", "\x00", "@", "`", "{", "^", "a@", "a[", "a`", "a{",
		"a/", "a:", "\"k\"", "k+", "k[]", "K\u0130", "\uff21", "\u0661", "k\u0661", "k²", "ⅷ", "ª",
	} {
		isWrong(t, none+"=v")
		isWrong(t, none+" = v")
		isWrong(t, none+"=")
		isWrong(t, none+"=k=v")
	}
}

// P11.1: each byte as a key of one letter, and as a key's second one.
func TestKeyBytes(t *testing.T) {
	letters := "abcdefghijklmnopqrstuvwxyzABCDEFGHIJKLMNOPQRSTUVWXYZ"
	for c := range 256 {
		one := string([]byte{byte(c)})
		letter, digit := strings.Contains(letters, one), strings.Contains("0123456789", one)
		if !strings.Contains("\n #;=\t[\\", one) {
			if letter {
				says(t, one+"=v", one, "v")
			} else {
				isWrong(t, one+"=v")
			}
		}
		if !strings.Contains("\n =\t", one) {
			if letter || digit {
				says(t, "k"+one+"=v", "k"+one, "v")
				says(t, "k"+one+"9z=v", "k"+one+"9z", "v")
			} else {
				isWrong(t, "k"+one+"=v")
				isWrong(t, "k"+one+"l=v")
				isWrong(t, "k9"+one+"=v")
			}
		}
	}
}

// ofLength is a whole line of n bytes, of which the first and the last ones are told.
func ofLength(ahead, behind string, n int) string {
	return ahead + strings.Repeat("x", n-len(ahead)-len(behind)) + behind
}

// P11.1: whole lines of 4096 bytes, and of 4097 ones.
func TestLongest(t *testing.T) {
	for _, blank := range []string{"", " ", "\t \t", strings.Repeat(" ", 5000)} {
		for n := 4090; n <= 4100; n++ {
			around := func(ahead, behind string) string { return of(blank + ofLength(ahead, behind, n) + blank) }
			last := Line{3, "A", "last", "1"}
			lastOf := func(section string) []Line { return []Line{{3, section, "last", "1"}} }
			if n > 4096 {
				for _, ends := range [][2]string{{"k=", ""}, {"k=", "="}, {"", "=v"}, {"k", ""}, {"[", "]"}, {"[", ""}, {"[", "]]"}, {"[]", ""}, {"1=", ""}, {"=", ""}, {"k =", ""}, {"k= ", ""}} {
					parses(t, around(ends[0], ends[1]), lastOf("A"), []Diag{{2, api.ErrLimit}})
				}
				continue
			}
			parses(t, around("k=", ""), []Line{{2, "A", "k", strings.Repeat("x", n-2)}, last}, nil)
			parses(t, around("k =", ""), []Line{{2, "A", "k", strings.Repeat("x", n-3)}, last}, nil)
			parses(t, around("", "=v"), []Line{{2, "A", strings.Repeat("x", n-2), "v"}, last}, nil)
			parses(t, around("[", "]"), lastOf(strings.Repeat("x", n-2)), nil)
			parses(t, around("k", ""), []Line{last}, []Diag{{2, api.ErrLine}})
			parses(t, around("1=", ""), []Line{last}, []Diag{{2, api.ErrLine}})
			parses(t, around("[", ""), nil, []Diag{{2, api.ErrLine}, {3, api.ErrLine}})
			parses(t, around("[", "]]"), nil, []Diag{{2, api.ErrLine}, {3, api.ErrLine}})
		}
	}
}

// P11.1: lines that are too long, where no section is in force, and one ahead of others: the section stays, even if they begin with [.
func TestTooLong(t *testing.T) {
	long := strings.Repeat("x", 4100)
	parses(t, "k="+long, nil, []Diag{{1, api.ErrLimit}})
	parses(t, "["+long+"]\nk=v", nil, []Diag{{1, api.ErrLimit}, {2, api.ErrLine}})
	parses(t, "["+long+"\nk=v", nil, []Diag{{1, api.ErrLimit}, {2, api.ErrLine}})
	parses(t, "[A]\nk="+long+"\nl=w\n"+long+"\n[B]\n["+long+"]\nm=x\n[\n["+long+"]\nn=y",
		[]Line{{3, "A", "l", "w"}, {7, "B", "m", "x"}},
		[]Diag{{2, api.ErrLimit}, {4, api.ErrLimit}, {6, api.ErrLimit}, {8, api.ErrLine}, {9, api.ErrLimit}, {10, api.ErrLine}})
}

// inPieces are lines that go on, each of so many bytes, and the whole line that they are: an assignment of n bytes.
func inPieces(n, each int) (text, whole string) {
	b := []byte("k=" + strings.Repeat("x", n-2))
	for i := each; i < n-1; i += each + 1 {
		b[i] = ' '
	}
	return strings.ReplaceAll(string(b), " ", "\\\n"), string(b)
}

// P11.1: whole lines that are put together of many: their blanks count inside, but not at their ends, and what is left out counts nowhere.
func TestLongestOfMany(t *testing.T) {
	remark := "#" + strings.Repeat("n", 5000) + "\n"
	for n := 4094; n <= 4099; n++ {
		for _, each := range []int{3, 7, 100, 1000, 4000} {
			text, whole := inPieces(n, each)
			remarked := strings.Replace(text, "\\\n", "\\\n"+remark, 2)
			for _, text := range []string{text, text + "\\\n", text + "\\\n\\\n \t", text + " \t\\\n", "\\\n\\\n" + text, remarked, remarked + "\\\n" + remark} {
				number := numberOfLast(text)
				if n > 4096 {
					parses(t, of(text), []Line{{number, "A", "last", "1"}}, []Diag{{2, api.ErrLimit}})
					continue
				}
				parses(t, of(text), []Line{{2, "A", "k", whole[2:]}, {number, "A", "last", "1"}}, nil)
			}
		}
	}
	half := strings.Repeat("x", 2046)
	opens(t, "["+half+"\\\n"+half+"x]", half+" "+half+"x")
	parses(t, of("["+half+"\\\n"+half+"xx]"), []Line{{4, "A", "last", "1"}}, []Diag{{2, api.ErrLimit}})
	isWrong(t, half+"\\\n"+half+"xxx")
	parses(t, of(half+"\\\n"+half+"xxxx"), []Line{{4, "A", "last", "1"}}, []Diag{{2, api.ErrLimit}})
}

// P11.1: bytes of 65536, and of one more.
func TestMaxFile(t *testing.T) {
	full := "[A]\n" + strings.Repeat("k=v\n", 16382) + "k=v\n"
	if len(full) != api.MaxFile {
		t.Fatal(len(full))
	}
	l, d := Parse([]byte(full))
	if len(l) != 16383 || len(d) != 0 || l[16382] != (Line{16384, "A", "k", "v"}) {
		t.Errorf("%s, %s", shortLines(l), shortDiags(d))
	}
	ahead := strings.Repeat("# no\n", 13000)
	assigned := "[A]\n" + ahead + "k=v" + strings.Repeat("\n", api.MaxFile-len(ahead)-7)
	parses(t, assigned, []Line{{13002, "A", "k", "v"}}, nil)
	blank := strings.Repeat(" ", api.MaxFile)
	parses(t, blank, nil, nil)
	parses(t, strings.Repeat("\n", api.MaxFile), nil, nil)
	parses(t, strings.Repeat("\\\n", api.MaxFile/2), nil, []Diag{{1, api.ErrLine}})
	parses(t, strings.Repeat("x", api.MaxFile), nil, []Diag{{1, api.ErrLimit}})
	parses(t, "[A]\nk=v\n"+strings.Repeat(" ", api.MaxFile-8), []Line{{2, "A", "k", "v"}}, nil)
	for _, more := range []string{"\n", " ", "x", "\\", "\r", "#", strings.Repeat("\n", 1000000)} {
		for _, file := range []string{full, assigned, blank, strings.Repeat("x", api.MaxFile)} {
			parses(t, file+more, nil, []Diag{{0, api.ErrLimit}})
		}
	}
}

// P11.1: the numbers of lines behind such as are passed over, and behind such as went on.
func TestNumbers(t *testing.T) {
	parses(t, "\n# no\n[A]\n\n; no\nk=1\n \nl=2\n\\\n\nm=3\\\n\\\n# no\n4\nn=5\n\no=6\\\n\np=7\n[\\\nB]\nq=8\r\n\r\nr=9",
		[]Line{
			{6, "A", "k", "1"}, {8, "A", "l", "2"}, {11, "A", "m", "3  4"}, {15, "A", "n", "5"}, {17, "A", "o", "6"}, {19, "A", "p", "7"},
			{22, " B", "q", "8"}, {24, " B", "r", "9"},
		},
		[]Diag{{9, api.ErrLine}})
	for _, n := range []int{0, 1, 2, 9, 10, 99, 1000, 9999} {
		parses(t, strings.Repeat("\n", n)+"[A]\nk=v", []Line{{n + 2, "A", "k", "v"}}, nil)
		parses(t, "[A]\n"+strings.Repeat("#\n", n)+"k=v", []Line{{n + 2, "A", "k", "v"}}, nil)
		parses(t, "[A]\n"+strings.Repeat("\\\n", n)+"k=v\nl=w", []Line{{2, "A", "k", "v"}, {n + 3, "A", "l", "w"}}, nil)
		parses(t, "[A]\nk=1\\\n"+strings.Repeat("#\n", n)+"2\nl=w", []Line{{2, "A", "k", "1 2"}, {n + 4, "A", "l", "w"}}, nil)
	}
}

// P11.1: what is answered comes in order, and twice what is there twice.
func TestOrder(t *testing.T) {
	parses(t, "[Z]\nz=9\na=1\nz=9\nno\nz=1\nno\n[Y]\nz=9\n0=1\na=1\n[Z]\na=1",
		[]Line{{2, "Z", "z", "9"}, {3, "Z", "a", "1"}, {4, "Z", "z", "9"}, {6, "Z", "z", "1"}, {9, "Y", "z", "9"}, {11, "Y", "a", "1"}, {13, "Z", "a", "1"}},
		[]Diag{{5, api.ErrLine}, {7, api.ErrLine}, {10, api.ErrLine}})
	parses(t, "k\n["+strings.Repeat("x", 4096)+"\nl\n"+strings.Repeat("x", 4097)+"\nm", nil,
		[]Diag{{1, api.ErrLine}, {2, api.ErrLimit}, {3, api.ErrLine}, {4, api.ErrLimit}, {5, api.ErrLine}})
}

// someFile has some of all that a file may have.
const someFile = "\n# no\n[A]\nk = 1 \n[A \\\n; no\n B]\r\nlong=a\\\n b\\\n\nno\n[\nm=2\n[C]\nn=\n"

func someAnswer() ([]Line, []Diag) {
	return []Line{{4, "A", "k", "1"}, {8, "A   B", "long", "a  b"}, {15, "C", "n", ""}},
		[]Diag{{11, api.ErrLine}, {12, api.ErrLine}, {13, api.ErrLine}}
}

// P11.2: what is handed in is only read, what lies behind its length too; that is not asked for.
func TestOnlyRead(t *testing.T) {
	for cut := range len(someFile) + 1 {
		memory := append([]byte(someFile), "behind\n[X]\nx=y"...)
		l, d := Parse(memory[:cut])
		if string(memory) != someFile+"behind\n[X]\nx=y" {
			t.Fatalf("Parse(%q) has changed it: %q", someFile[:cut], memory)
		}
		parses(t, someFile[:cut], l, d)
	}
}

// P11.2: what is answered stays as it is, when what was handed in is written over.
func TestNotKept(t *testing.T) {
	b := []byte(someFile)
	l, d := Parse(b)
	for i := range b {
		b[i] = '='
	}
	found, wrong := someAnswer()
	if !slices.Equal(l, found) || !slices.Equal(d, wrong) {
		t.Errorf("%s\n%s", shortLines(l), shortDiags(d))
	}
}

// P11.2: what is answered is new memory, behind its length too.
func TestNewMemory(t *testing.T) {
	found, wrong := someAnswer()
	l1, d1 := Parse([]byte(someFile))
	l2, d2 := Parse([]byte(someFile))
	for i := range l1[:cap(l1)] {
		l1[:cap(l1)][i] = Line{-9, "?", "?", "?"}
	}
	for i := range d1[:cap(d1)] {
		d1[:cap(d1)][i] = Diag{-9, -9}
	}
	if !slices.Equal(l2, found) || !slices.Equal(d2, wrong) {
		t.Errorf("another answer:\n%s\n%s", shortLines(l2), shortDiags(d2))
	}
	parses(t, someFile, found, wrong)
	_, limit := Parse(make([]byte, api.MaxFile+1))
	limit[0] = Diag{-9, -9}
	parses(t, strings.Repeat("\x00", api.MaxFile+1), nil, []Diag{{0, api.ErrLimit}})
}

// Every call ends soon, whatever fills a file.
func TestTime(t *testing.T) {
	begin := time.Now()
	for _, part := range []string{"\n", "\\\n", "\\\n#\n", "[\n", "[A]\n", "k=\n", "k=\\\n", "#", " ", "\\", "=", "[", "]", "\r\n", "\r", "x", "[x\\\n", "[A]\nk=v\n", "\\\n \\\n"} {
		Parse([]byte(strings.Repeat(part, api.MaxFile/len(part))))
		Parse([]byte("[A]\nk=" + strings.Repeat(part, (api.MaxFile-6)/len(part))))
	}
	if took := time.Since(begin); took > 5*time.Second {
		t.Errorf("it took %v", took)
	}
}
