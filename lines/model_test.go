package lines

import (
	"bytes"
	"math/rand"
	"regexp"
	"slices"
	"strings"
	"testing"

	"clepsydra/api"
)

// plain is the chapter told once more, by patterns.
type plain struct{ over, remark, section, assignment *regexp.Regexp }

func newPlain() plain {
	return plain{
		over:       regexp.MustCompile(`(?s)^[ \t]*([#;].*)?$`),
		remark:     regexp.MustCompile(`(?s)^[ \t]*[#;]`),
		section:    regexp.MustCompile(`(?s)^\[([^\[\]]+)\]$`),
		assignment: regexp.MustCompile(`(?s)^([a-zA-Z][a-zA-Z0-9]*)[ \t]*=[ \t]*(.*)$`),
	}
}

// whole is a whole line, and in which line it begins.
type whole struct {
	n    int
	text string
}

// wholes goes from line to line, by the chapter's words.
func (p plain) wholes(b []byte) []whole {
	var lines []string
	for _, line := range bytes.Split(b, []byte{10}) {
		if n := len(line); n > 0 && line[n-1] == 13 {
			line = line[:n-1]
		}
		lines = append(lines, string(line))
	}
	var all []whole
	for i := 0; i < len(lines); i++ {
		if p.over.MatchString(lines[i]) {
			continue
		}
		w := whole{n: i + 1, text: lines[i]}
		for strings.HasSuffix(w.text, `\`) {
			w.text = w.text[:len(w.text)-1] + " "
			i++
			for i < len(lines) && p.remark.MatchString(lines[i]) {
				i++
			}
			if i < len(lines) {
				w.text += lines[i]
			}
		}
		w.text = strings.Trim(w.text, " \t")
		all = append(all, w)
	}
	return all
}

func (p plain) parse(b []byte) ([]Line, []Diag) {
	if len(b) > 65536 {
		return nil, []Diag{{0, 3}}
	}
	var found []Line
	var wrong []Diag
	section, inForce := "", false
	for _, w := range p.wholes(b) {
		if len(w.text) > 4096 {
			wrong = append(wrong, Diag{w.n, 3})
		} else if m := p.section.FindStringSubmatch(w.text); m != nil {
			section, inForce = m[1], true
		} else if m := p.assignment.FindStringSubmatch(w.text); m != nil && inForce {
			found = append(found, Line{w.n, section, m[1], m[2]})
		} else {
			wrong = append(wrong, Diag{w.n, 110})
			inForce = inForce && !strings.HasPrefix(w.text, "[")
		}
	}
	return found, wrong
}

// holds fails unless Parse tells what the model tells.
func (p plain) holds(t *testing.T, file string) {
	t.Helper()
	found, wrong := p.parse([]byte(file))
	parses(t, file, found, wrong)
	if t.Failed() {
		t.FailNow()
	}
}

// lot draws files.
type lot struct{ *rand.Rand }

func newLot(seed int64) lot { return lot{rand.New(rand.NewSource(seed))} }

func (l lot) of(texts ...string) string { return texts[l.Intn(len(texts))] }

// some are texts drawn, one behind the other.
func (l lot) some(most int, texts ...string) string {
	var b strings.Builder
	for range l.Intn(most + 1) {
		b.WriteString(l.of(texts...))
	}
	return b.String()
}

func (l lot) blank() string { return l.of("", "", " ", "\t", "  ", " \t") }

// line is what a line may be, and now and then what it may not be.
func (l lot) line() string {
	name := l.some(3, "A", "b", "C", " ", "k=v", "#", "\\", "\r", "é", "\xff")
	key := l.some(3, "k", "K", "z", "A", "0", "9")
	value := l.some(4, "v", "w", " ", "\t", "=", "#", ";", "[", "]", "\\", "\r", "\xa0", "\x00")
	switch l.Intn(9) {
	case 0, 1:
		return "[" + name + "]"
	case 2, 3, 4:
		return "k" + key + l.blank() + "=" + l.blank() + value
	case 5:
		return l.of("#", ";") + value
	case 6:
		return ""
	case 7:
		return key + l.blank() + l.of("=", "") + l.blank() + value
	}
	return l.some(5, "[", "]", "A", "k", "=", " ", "\t", "\\", "\r", "#", ";", "1", "-", "\v", "\xff")
}

// file is of some lines, many of which go on.
func (l lot) file(most int) string {
	var b strings.Builder
	b.WriteString(l.of("", "[A]\n"))
	for range l.Intn(most + 1) {
		b.WriteString(l.blank() + l.line() + l.blank() + l.of("", "", "", "\\", "\\", "\\ ", "\\\\", "\\\r", "\r", "\r\r") + "\n")
	}
	return b.String() + l.of("", "", l.line())
}

// P11.1: files drawn by lot.
func TestLot(t *testing.T) {
	p, l := newPlain(), newLot(1)
	for range 40000 {
		p.holds(t, l.file(12))
	}
}

// P11.1: all short texts of some marks, alone and in a section.
func TestShortTexts(t *testing.T) {
	p := newPlain()
	var marks string
	var longer func(text string, more int)
	longer = func(text string, more int) {
		p.holds(t, text)
		p.holds(t, "[A]\nk="+text+"\nl=w")
		for i := 0; i < len(marks) && more > 0; i++ {
			longer(text+marks[i:i+1], more-1)
		}
	}
	marks = "[]k=\n"
	longer("", 6)
	marks = "\\\n #k\r"
	longer("", 6)
	marks = "\\\nk=[]A ;#9\t\r"
	longer("", 4)
}

// P11.1: every byte put at every place of a file, and instead of every byte.
func TestEveryByte(t *testing.T) {
	p := newPlain()
	for i := range len(someFile) + 1 {
		for c := range 256 {
			one := string([]byte{byte(c)})
			p.holds(t, someFile[:i]+one+someFile[i:])
			if i < len(someFile) {
				p.holds(t, someFile[:i]+one+someFile[i+1:])
			}
		}
	}
}

// P11.1: long files, and long whole lines, drawn by lot.
func TestLongLot(t *testing.T) {
	p, l := newPlain(), newLot(2)
	for range 40 {
		p.holds(t, l.file(9000))
	}
	for range 150 {
		var b strings.Builder
		for range 1 + l.Intn(10) {
			n := l.Intn(4200)
			if l.Intn(2) == 0 {
				n = 4080 + l.Intn(30)
			}
			b.WriteString(l.of("[", "k=", "1=", "", "[A]\nk=", "#") + strings.Repeat(l.of("x", "x", " ", "y\\\nz"), n/2) + strings.Repeat("x", n/2) + l.of("]", "", "", "\\") + "\n")
		}
		p.holds(t, b.String())
	}
}

// numbersMoved are answers, the numbers of which are those of other lines.
func numbersMoved(found []Line, wrong []Diag, of func(n int) int) ([]Line, []Diag) {
	found, wrong = slices.Clone(found), slices.Clone(wrong)
	for i := range found {
		found[i].N = of(found[i].N)
	}
	for i := range wrong {
		wrong[i].N = of(wrong[i].N)
	}
	return found, wrong
}

// P11.3: lines that are passed over, put ahead of whole lines, move numbers alone.
func TestPassedOverMoveNumbers(t *testing.T) {
	p, l := newPlain(), newLot(3)
	for range 5000 {
		file := l.file(12)
		lines := strings.Split(file, "\n")
		// How many lines were put ahead of a line, or of one above it.
		moved := make([]int, len(lines)+1)
		for _, w := range p.wholes([]byte(file)) {
			more := l.Intn(3)
			var ahead string
			for range more {
				ahead += l.blank() + l.of("", "#", ";", "# k=v", ";[B]", "#\\", "; no \\\\") + l.of("", "\r") + "\n"
			}
			lines[w.n-1] = ahead + lines[w.n-1]
			for i := w.n; i < len(moved); i++ {
				moved[i] += more
			}
		}
		found, wrong := Parse([]byte(file))
		found, wrong = numbersMoved(found, wrong, func(n int) int { return n + moved[n] })
		parses(t, strings.Join(lines, "\n"), found, wrong)
	}
}

// told are assignments, put as KEY=VALUE under their sections.
func told(found []Line) string {
	var b strings.Builder
	section := ""
	for _, l := range found {
		if l.Section != section {
			section = l.Section
			b.WriteString("[" + section + "]\n")
		}
		b.WriteString(l.Key + "=" + l.Value + "\n")
	}
	return b.String()
}

// sameAgain fails unless assignments are the same again, but for their numbers.
func sameAgain(t *testing.T, found []Line) {
	t.Helper()
	text := told(found)
	again, wrong := Parse([]byte(text))
	zero := func(int) int { return 0 }
	want, _ := numbersMoved(found, nil, zero)
	again, _ = numbersMoved(again, nil, zero)
	if !slices.Equal(again, want) || len(wrong) != 0 {
		t.Errorf("Parse(%s): %s, %s, but it tells %s", short(text), shortLines(again), shortDiags(wrong), shortLines(want))
	}
}

// P11.3: assignments, put as KEY=VALUE, are the same again.
func TestSameAgain(t *testing.T) {
	l := newLot(4)
	count := 0
	for i := range 5000 {
		most := 12
		if i%50 == 0 {
			most = 3000
		}
		found, _ := Parse([]byte(l.file(most)))
		found = slices.DeleteFunc(found, func(l Line) bool {
			return strings.HasSuffix(l.Value, "\\") || strings.HasSuffix(l.Value, "\r")
		})
		sameAgain(t, found)
		count += len(found)
	}
	if count < 5000 {
		t.Errorf("but %d assignments", count)
	}
	// As long as they may be, whatever blanks there were.
	section := strings.Repeat("s", 4094)
	value := strings.Repeat("v", 4094)
	found, _ := Parse([]byte(" [" + section + "] \nk=" + value + "\n\tl  =  \\\n" + value[:4000] + " \\\n"))
	if len(found) != 2 {
		t.Errorf("%s", shortLines(found))
	}
	sameAgain(t, found)
	// Values that end in a backslash, or in the byte 13, are another matter.
	parses(t, told([]Line{{2, "A", "k", "v\\"}, {3, "A", "l", "w"}}), []Line{{2, "A", "k", "v l=w"}}, nil)
	parses(t, told([]Line{{2, "A", "k", "v\r"}}), []Line{{2, "A", "k", "v"}}, nil)
}

// What is answered hangs on the bytes alone, and nil is as good as none.
func TestAgain(t *testing.T) {
	l := newLot(5)
	for range 200 {
		file := l.file(30)
		found, wrong := Parse([]byte(file))
		Parse([]byte(l.file(30)))
		Parse(make([]byte, api.MaxFile+1))
		parses(t, file, found, wrong)
	}
}
