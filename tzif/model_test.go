package tzif

import (
	"bytes"
	"encoding/binary"
	"math/rand"
	"slices"
	"strings"
	"testing"

	"clepsydra/api"
)

// parts are a block's, and its head's, as they are laid down: right or not.
type parts struct {
	version byte
	// filler is put into the head's bytes that say nothing.
	filler  byte
	times   []int64
	index   []byte
	types   []local
	letters string
	leaps   int
	stds    []byte
	uts     []byte
	// counts are the head's, if they are not those of what there is.
	counts *[6]uint32
}

// local is a type's row.
type local struct {
	off        int32
	dst, place byte
}

// numbers are the counts of what there is: U, S, L, T, Y, C.
func (p parts) numbers() [6]uint32 {
	return [6]uint32{uint32(len(p.uts)), uint32(len(p.stds)), uint32(p.leaps), uint32(len(p.times)), uint32(len(p.types)), uint32(len(p.letters))}
}

// bytes are the head's and the block's, with times of that width.
func (p parts) bytes(width int) []byte {
	b := append([]byte("TZif"), p.version)
	b = append(b, bytes.Repeat([]byte{p.filler}, 15)...)
	counts := p.numbers()
	if p.counts != nil {
		counts = *p.counts
	}
	for _, n := range counts {
		b = binary.BigEndian.AppendUint32(b, n)
	}
	for _, time := range p.times {
		if width == 4 {
			b = binary.BigEndian.AppendUint32(b, uint32(int32(time)))
		} else {
			b = binary.BigEndian.AppendUint64(b, uint64(time))
		}
	}
	b = append(b, p.index...)
	for _, x := range p.types {
		b = binary.BigEndian.AppendUint32(b, uint32(x.off))
		b = append(b, x.dst, x.place)
	}
	b = append(b, p.letters...)
	for leap := range p.leaps {
		b = append(b, bytes.Repeat([]byte{byte(leap + 1)}, width+4)...)
	}
	return append(append(b, p.stds...), p.uts...)
}

// least is what Put lays down first.
func least(version byte) parts {
	return parts{version: version, types: []local{{}}, letters: "\x00"}
}

// some is a block with two of all that says something.
func some(version byte) parts {
	return parts{
		version: version,
		times:   []int64{-5, 1 << 30},
		index:   []byte{1, 0},
		types:   []local{{3600, 0, 0}, {-7200, 1, 4}},
		letters: "CET\x00CEST\x00",
	}
}

// someZone is the zone that some tells.
func someZone() Zone {
	return Zone{
		Types:  []Type{{Off: 3600, Abbr: "CET"}, {Off: -7200, Dst: true, Abbr: "CEST"}},
		Times:  []int64{-5, 1 << 30},
		Index:  []int{1, 0},
		Footer: "CET-1",
	}
}

// short is a file of version 0, of which there is no footer.
func short(p parts) []byte {
	p.version = 0
	return p.bytes(4)
}

// long is a file of the version that both blocks tell.
func long(first, second parts, footer string) []byte {
	return slices.Concat(first.bytes(4), second.bytes(8), []byte("\n"+footer+"\n"))
}

// bare is a zone without its footer.
func bare(z Zone) Zone {
	z.Footer = ""
	return z
}

// tells fails unless a file tells that zone.
func tells(t *testing.T, b []byte, want Zone) {
	t.Helper()
	z, err := Parse(b)
	if err != api.OK || !Same(z, want) {
		t.Errorf("Parse(%q) = %v, %d, not %v", b, z, err, want)
	}
	if !Right(z) {
		t.Errorf("Parse(%q) = %v is not right", b, z)
	}
}

// isNone fails unless bytes are no zone's file.
func isNone(t *testing.T, b []byte) {
	t.Helper()
	z, err := Parse(b)
	if err != api.ErrTzif || len(z.Types)+len(z.Times)+len(z.Index)+len(z.Footer) > 0 {
		t.Errorf("Parse(%q) = %v, %d", b, z, err)
	}
}

// blockTells fails unless a block tells that zone (but for its footer), as one of each version.
func blockTells(t *testing.T, p parts, want Zone) {
	t.Helper()
	tells(t, short(p), bare(want))
	for _, version := range []byte("23") {
		p.version = version
		want.Footer = "A0"
		tells(t, long(least(version), p, "A0"), want)
	}
}

// blockIsNone fails unless a block may not be one that counts, of each version.
func blockIsNone(t *testing.T, p parts) {
	t.Helper()
	isNone(t, short(p))
	for _, version := range []byte("23") {
		p.version = version
		isNone(t, long(least(version), p, "A0"))
	}
}

// plainRight is Right, by the chapter's words in their order.
func plainRight(z Zone) bool {
	right := len(z.Types) >= 1 && len(z.Types) <= 255
	all := 0
	for _, x := range z.Types {
		right = right && x.Off >= -89999 && x.Off <= 93599
		right = right && len(x.Abbr) >= 1 && len(x.Abbr) <= 15
		right = right && !strings.ContainsFunc(x.Abbr, func(r rune) bool { return r < '!' || r > '~' })
		all += len(x.Abbr) + 1
	}
	right = right && all <= 256
	right = right && len(z.Index) == len(z.Times) && len(z.Times) <= 4000
	right = right && slices.IsSorted(z.Times) && len(slices.Compact(slices.Clone(z.Times))) == len(z.Times)
	for _, index := range z.Index {
		right = right && index >= 0 && index < len(z.Types)
	}
	right = right && len(z.Footer) <= 100
	return right && !strings.ContainsFunc(z.Footer, func(r rune) bool { return r < ' ' || r > '~' })
}

// plainHead is the version, the counts of the head that stands at a place, and how long its block is.
func plainHead(b []byte, at, width int) (version byte, counts [6]int, size int, ok bool) {
	if len(b) < at+44 || !bytes.HasPrefix(b[at:], []byte("TZif")) {
		return 0, counts, 0, false
	}
	for i := range counts {
		counts[i] = int(binary.BigEndian.Uint32(b[at+20+4*i:]))
	}
	u, s, l, t, y, c := counts[0], counts[1], counts[2], counts[3], counts[4], counts[5]
	size = t*width + t + y*6 + c + l*(width+4) + s + u
	return b[at+4], counts, size, at+44+size <= len(b)
}

// plainBlock is the zone of the block that stands at a place.
func plainBlock(b []byte, at, width int, counts [6]int) (Zone, bool) {
	u, s, l, t, y, c := counts[0], counts[1], counts[2], counts[3], counts[4], counts[5]
	ok := y >= 1 && y <= 255 && t <= 4000 && c >= 1 && c <= 4096 && l <= 1000 && (s == 0 || s == y) && (u == 0 || u == y)
	if !ok {
		return Zone{}, false
	}
	var z Zone
	indices := at + t*width
	types := indices + t
	letters := types + 6*y
	for i := range t {
		time := int64(int32(binary.BigEndian.Uint32(b[at+i*width:])))
		if width == 8 {
			time = int64(binary.BigEndian.Uint64(b[at+i*width:]))
		}
		z.Times = append(z.Times, time)
		z.Index = append(z.Index, int(b[indices+i]))
	}
	for i := range y {
		row := b[types+6*i : types+6*i+6]
		place := int(row[5])
		if row[4] > 1 || place >= c {
			return Zone{}, false
		}
		end := bytes.IndexByte(b[letters+place:letters+c], 0)
		if end < 0 {
			return Zone{}, false
		}
		z.Types = append(z.Types, Type{Off: int(int32(binary.BigEndian.Uint32(row))), Dst: row[4] == 1, Abbr: string(b[letters+place : letters+place+end])})
	}
	return z, plainRight(z)
}

// plain is Parse, by places in the file.
func plain(b []byte) (Zone, bool) {
	version, counts, size, ok := plainHead(b, 0, 4)
	if !ok {
		return Zone{}, false
	}
	if version == 0 {
		z, ok := plainBlock(b, 44, 4, counts)
		return z, ok && len(b) == 44+size
	}
	again, counts, more, ok := plainHead(b, 44+size, 8)
	end := 88 + size + more
	if !ok || version != '2' && version != '3' || again != version || len(b) < end+2 || b[end] != 10 || b[len(b)-1] != 10 {
		return Zone{}, false
	}
	z, ok := plainBlock(b, 88+size, 8, counts)
	z.Footer = string(b[end+1 : len(b)-1])
	return z, ok && plainRight(z)
}

// sameAsPlain fails unless Parse answers what the model does; it tells whether it is a file.
func sameAsPlain(t *testing.T, b []byte) bool {
	t.Helper()
	want, ok := plain(b)
	if ok {
		tells(t, b, want)
	} else {
		isNone(t, b)
	}
	return ok
}

// lotFiles are files with some of each thing, short ones, so that a byte that is changed is often one that says something.
func lotFiles() [][]byte {
	full := some('2')
	full.filler = 7
	full.leaps = 2
	full.stds, full.uts = []byte{0, 1}, []byte{1, 9}
	three := some('3')
	three.types = append(three.types, local{-1, 0, 1})
	three.letters = "AB\x00C\x00\x00zz"
	three.types[1].place, three.index = 3, []byte{2, 1}
	plainest := least('2')
	plainest.letters = "U\x00"
	files := [][]byte{short(full), short(some(0)), long(least('2'), some('2'), "CET-1"), long(full, full, "X"), long(least('3'), three, ""), long(plainest, plainest, "U0")}
	for range 3 {
		full.types = append(full.types, local{89999, 1, 4})
		full.stds = append(full.stds, 1)
		full.uts = nil
		files = append(files, short(full))
	}
	return files
}

// spoilt is a file in which a few bytes are other ones, are gone, or are more.
func spoilt(lot *rand.Rand, b []byte) []byte {
	b = slices.Clone(b)
	for range 1 + lot.Intn(3) {
		at := lot.Intn(len(b))
		switch lot.Intn(6) {
		case 0:
			b[at] = byte(lot.Intn(256))
		case 1:
			b[at]++
		case 2:
			b[at]--
		case 3:
			b[at] = []byte{0, 1, 2, 10, 32, 33, 126, 127, 255}[lot.Intn(9)]
		case 4:
			b = slices.Delete(b, at, at+1)
		case 5:
			b = slices.Insert(b, at, byte(lot.Intn(12)))
		}
	}
	return b
}

// P6.3, P6.7: files spoilt by lot, against a plain model.
func TestSpoiltByLot(t *testing.T) {
	lot := rand.New(rand.NewSource(6))
	files := lotFiles()
	for i, b := range files {
		if !sameAsPlain(t, b) {
			t.Errorf("%d is no file", i)
		}
	}
	right := 0
	for range 200000 {
		if sameAsPlain(t, spoilt(lot, files[lot.Intn(len(files))])) {
			right++
		}
		if t.Failed() {
			return
		}
	}
	if right < 20000 || right > 180000 {
		t.Errorf("%d files", right)
	}
}

// P6.3: each byte of some files is each other one.
func TestEveryByte(t *testing.T) {
	for _, b := range lotFiles() {
		for at := range b {
			for n := range 256 {
				other := slices.Clone(b)
				other[at] = byte(n)
				sameAsPlain(t, other)
			}
		}
		if t.Failed() {
			return
		}
	}
}

// lotZone is a zone drawn by lot, most often a right one.
func lotZone(lot *rand.Rand) Zone {
	var z Zone
	text := func(long int, low byte) string {
		b := make([]byte, long)
		for i := range b {
			b[i] = low + byte(lot.Intn(127-int(low)))
		}
		return string(b)
	}
	for range 1 + lot.Intn(20) {
		z.Types = append(z.Types, Type{Off: lot.Intn(93599+89999+1) - 89999, Dst: lot.Intn(2) > 0, Abbr: text(1+lot.Intn(15), '!')})
	}
	for range lot.Intn(40) {
		z.Times = append(z.Times, lot.Int63n(1<<uint(1+lot.Intn(62)))-lot.Int63n(1<<uint(1+lot.Intn(62))))
		z.Index = append(z.Index, lot.Intn(len(z.Types)))
	}
	slices.Sort(z.Times)
	z.Footer = text(lot.Intn(101), ' ')
	return z
}

// P6.1, P6.2, P6.3, P6.7: zones drawn by lot: what is right, is put, and parsed as it was.
func TestZonesByLot(t *testing.T) {
	lot := rand.New(rand.NewSource(66))
	right := 0
	for range 20000 {
		z := lotZone(lot)
		if Right(z) != plainRight(z) {
			t.Fatalf("Right(%v) = %v", z, Right(z))
		}
		b, err := Put(z)
		if !Right(z) {
			if err != api.ErrArg || len(b) > 0 {
				t.Fatalf("Put(%v) = %q, %d", z, b, err)
			}
			continue
		}
		right++
		if back, ok := plain(b); !ok || !Same(back, z) {
			t.Fatalf("Put(%v) = %q, which tells %v, %v", z, b, back, ok)
		}
		tells(t, b, z)
	}
	if right < 10000 || right == 20000 {
		t.Errorf("%d were right", right)
	}
}
