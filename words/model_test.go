package words

import (
	"math/rand"
	"regexp"
	"slices"
	"strconv"
	"strings"
	"testing"

	"clepsydra/api"
)

// plain is the chapter told once more, by patterns.
type plain struct {
	word, piece, told, asItIs *regexp.Regexp
	quoted                    *strings.Replacer
}

func newPlain() plain {
	const told = `\\(?:[nts\\"']|x[0-9a-fA-F]{2})`
	const piece = `"(?:[^"\\]|` + told + `)*"|'[^']*'|` + told + `|[^ \t"'\\]`
	pairs := []string{`"`, `\"`, `\`, `\\`, "\n", `\n`, "\t", `\t`, "\x7f", `\x7f`}
	for i := range 32 {
		if i != 9 && i != 10 {
			pairs = append(pairs, string([]byte{byte(i)}), `\x`+strconv.FormatInt(int64(256+i), 16)[1:])
		}
	}
	return plain{
		word:   regexp.MustCompile(`^(?:` + piece + `)+(?:[ \t]|$)`),
		piece:  regexp.MustCompile(piece),
		told:   regexp.MustCompile(told),
		asItIs: regexp.MustCompile(`^[^ \t"'\\\x00-\x1f\x7f]+$`),
		quoted: strings.NewReplacer(pairs...),
	}
}

// stands is what a backslash and what is behind it stand for.
func (p plain) stands(text string) string {
	if n, err := strconv.ParseUint(strings.TrimPrefix(text, `\x`), 16, 8); err == nil {
		return string([]byte{byte(n)})
	}
	return standsFor()[text[1]]
}

// means is what a piece of a word means.
func (p plain) means(piece string) string {
	switch piece[0] {
	case '\'':
		return piece[1 : len(piece)-1]
	case '"':
		return p.told.ReplaceAllStringFunc(piece[1:len(piece)-1], p.stands)
	}
	return p.told.ReplaceAllStringFunc(piece, p.stands)
}

func (p plain) split(s string) ([]string, api.Errno) {
	var l []string
	for s = strings.Trim(s, " \t"); s != ""; s = strings.TrimLeft(s, " \t") {
		word := p.word.FindString(s)
		if word == "" {
			return nil, 120
		}
		s = s[len(word):]
		means := ""
		for _, piece := range p.piece.FindAllString(word, -1) {
			means += p.means(piece)
		}
		l = append(l, means)
	}
	if len(l) > 64 {
		return nil, 3
	}
	return l, 0
}

func (p plain) join(l []string) string {
	var told []string
	for _, word := range l {
		if !p.asItIs.MatchString(word) {
			word = `"` + p.quoted.Replace(word) + `"`
		}
		told = append(told, word)
	}
	return strings.Join(told, " ")
}

// holds fails unless Split answers of a value what the model answers, and Join of its words.
func (p plain) holds(t *testing.T, s string) {
	t.Helper()
	l, err := p.split(s)
	answers(t, s, l, err)
	joins(t, p.join(l), l...)
	if t.Failed() {
		t.FailNow()
	}
}

// lot draws words and values.
type lot struct{ *rand.Rand }

func newLot(seed int64) lot { return lot{rand.New(rand.NewSource(seed))} }

func (l lot) of(texts ...string) string { return texts[l.Intn(len(texts))] }

// some are texts drawn, one behind the other.
func (l lot) some(most int, texts ...string) string {
	var b strings.Builder
	for range l.Intn(most + 1) {
		b.WriteString(l.of(texts...))
	}
	return b.String()
}

// bytes are any bytes.
func (l lot) bytes(most int) string {
	b := make([]byte, l.Intn(most+1))
	for i := range b {
		b[i] = byte(l.Intn(256))
	}
	return string(b)
}

// word is any word, as it is meant.
func (l lot) word() string {
	switch l.Intn(4) {
	case 0:
		return l.bytes(12)
	case 1:
		return l.some(6, "a", "b", "é", "=", "/", "\x80")
	}
	return l.some(6, " ", "\t", "\n", `"`, "'", `\`, "\x00", "\x1f", "\x7f", "a", "x", "n", "4", "1", "é", "\xff")
}

func (l lot) words(n int) []string {
	var all []string
	for range n {
		all = append(all, l.word())
	}
	return all
}

// value has words that are right, one ahead of the other.
func (l lot) value(most int) string {
	var b strings.Builder
	for range l.Intn(most + 1) {
		b.WriteString(l.some(2, " ", "\t"))
		for range 1 + l.Intn(4) {
			inside := l.some(4, "a", " ", "\t", "é", "\n", "\x00", "\xff", "x41")
			escaped := l.some(2, `\n`, `\t`, `\s`, `\\`, `\"`, `\'`, `\x41`, `\xfF`, `\x00`, `\x20`)
			b.WriteString(l.of("a", "b=c", "\n", "\xa0", escaped, escaped, `"`+inside+escaped+`'"`, `"`+escaped+inside+`"`, `'`+inside+`'`, `'\`+inside+`"'`, `""`, `''`))
		}
		b.WriteString(l.of(" ", " ", "\t", " \t "))
	}
	return b.String()
}

// broken is a value in which some bytes are others, or left out.
func (l lot) broken(s string) string {
	b := []byte(s)
	for range 1 + l.Intn(2) {
		if len(b) == 0 {
			break
		}
		i := l.Intn(len(b))
		switch l.Intn(3) {
		case 0:
			b = slices.Delete(b, i, i+1)
		case 1:
			b[i] = l.of(`"`, `'`, `\`, " ", "x", "a")[0]
		default:
			b = b[:i]
		}
	}
	return string(b)
}

// P12.1: values drawn by lot, and such in which something is broken.
func TestLot(t *testing.T) {
	p, l := newPlain(), newLot(1)
	for range 20000 {
		s := l.value(6)
		if _, err := p.split(s); err != api.OK {
			t.Fatalf("no value was drawn: %q", s)
		}
		p.holds(t, s)
		p.holds(t, l.broken(s))
		p.holds(t, l.some(12, " ", "\t", `"`, `'`, `\`, "a", "x", "4", "1", "n", `\x41`, "é", "\xff", "\n"))
	}
	for range 500 {
		s := l.value(130)
		p.holds(t, s)
		p.holds(t, l.broken(s))
	}
}

// P12.1: all short texts of some marks, alone and behind something that is open.
func TestShortTexts(t *testing.T) {
	p := newPlain()
	var marks string
	var longer func(text string, more int)
	longer = func(text string, more int) {
		p.holds(t, text)
		for i := 0; i < len(marks) && more > 0; i++ {
			longer(text+marks[i:i+1], more-1)
		}
	}
	marks = "\"'\\ n"
	longer("", 6)
	marks = "\"'\\ \tnx4Fgz\n"
	longer("", 4)
	longer(`"\`, 3)
	longer(`'\`, 3)
	longer(`a\x`, 3)
}

// P12.1: every byte put at every place of a value, and instead of every byte.
func TestEveryByte(t *testing.T) {
	p := newPlain()
	const some = "a \"b\\n 'c\\x4f\" \t'd\"\\e' \\x4F\\\\f''"
	for i := range len(some) + 1 {
		for c := range 256 {
			one := string([]byte{byte(c)})
			p.holds(t, some[:i]+one+some[i:])
			if i < len(some) {
				p.holds(t, some[:i]+one+some[i+1:])
			}
		}
		p.holds(t, some[:i])
		p.holds(t, some[i:])
	}
}

// P12.2: words drawn by lot, few and many.
func TestJoinLot(t *testing.T) {
	p, l := newPlain(), newLot(2)
	for i := range 20000 {
		n := l.Intn(6)
		if i%50 == 0 {
			n = l.Intn(300)
		}
		words := l.words(n)
		joins(t, p.join(words), words...)
		if t.Failed() {
			t.FailNow()
		}
	}
}

// P12.4: what is joined is split as it was, up to 64 words; more are too many.
func TestJoinedIsSplit(t *testing.T) {
	l := newLot(3)
	for i := range 20000 {
		n := l.Intn(6)
		if i%20 == 0 {
			n = l.Intn(70)
		}
		words := l.words(n)
		s := Join(words...)
		if n > api.MaxList {
			answers(t, s, nil, api.ErrLimit)
		} else {
			says(t, s, words...)
		}
		if t.Failed() {
			t.FailNow()
		}
	}
	for _, n := range []int{0, 1, 63, 64, 65, 66, 1000} {
		words := l.words(n)
		if n > api.MaxList {
			answers(t, Join(words...), nil, api.ErrLimit)
		} else {
			says(t, Join(words...), words...)
		}
	}
	for i := range 256 {
		for j := range 256 {
			word := string([]byte{byte(i), byte(j)})
			says(t, Join(word, word), word, word)
		}
	}
}

// P12.4: words of two values, a blank between, are those of the first, then those of the second.
func TestTwoValues(t *testing.T) {
	p, l := newPlain(), newLot(4)
	for i := range 20000 {
		most := 5
		if i%20 == 0 {
			most = 60
		}
		s1, s2 := l.value(most), l.value(most)
		l1, err1 := Split(s1)
		l2, err2 := Split(s2)
		if err1 != api.OK || err2 != api.OK {
			t.Fatalf("%q: %d, %q: %d", s1, err1, s2, err2)
		}
		both := slices.Concat(l1, l2)
		for _, blank := range []string{" ", "\t"} {
			if len(both) > api.MaxList {
				answers(t, s1+blank+s2, nil, api.ErrLimit)
			} else {
				says(t, s1+blank+s2, both...)
			}
		}
		// A second one that is wrong is so behind a first one too; what the first one leaves open a second one may close.
		wrong := l.broken(s2)
		if _, err := Split(wrong); err == api.ErrQuote {
			isWrong(t, s1+" "+wrong)
			p.holds(t, wrong+" "+s1)
		}
		if t.Failed() {
			t.FailNow()
		}
	}
	isWrong(t, `a "b`+" "+`c`)
	isWrong(t, `a`+" "+`b 'c`)
	isWrong(t, `\`+" "+`a`)
	says(t, `'a`+" "+`\'`, `a \`)
	says(t, `"a`+" "+`b"`, "a b")
	answers(t, many("a", 40)+" "+many("b", 40), nil, api.ErrLimit)
	answers(t, many("a", 40)+" "+many("b", 25), nil, api.ErrLimit)
	says(t, many("a", 40)+" "+many("b", 24), slices.Concat(slices.Repeat([]string{"a"}, 40), slices.Repeat([]string{"b"}, 24))...)
	isWrong(t, many("a", 40)+" "+many("b", 40)+` "`)
}
