package tzif

import (
	"bytes"
	"encoding/hex"
	"math"
	"slices"
	"strings"
	"testing"
	"time"

	"clepsydra/api"
)

// bytesOf are those that digits to the base 16 tell, with blanks anywhere.
func bytesOf(t *testing.T, digits string) []byte {
	t.Helper()
	b, err := hex.DecodeString(strings.Join(strings.Fields(digits), ""))
	if err != nil {
		t.Fatal(err)
	}
	return b
}

// firstPart is what all that is put begins with: a head and a block.
const firstPart = `
545a6966 32 000000000000000000000000000000
00000000 00000000 00000000 00000000 00000001 00000001
000000000000 00
`

// P6.2: the bytes, one by one.
func TestPutBytes(t *testing.T) {
	for i, x := range []struct {
		z    Zone
		want string
	}{
		{lettered("UTC"), `
545a6966 32 000000000000000000000000000000
00000000 00000000 00000000 00000000 00000001 00000004
00000000 00 00
55544300
0a 0a`},
		{Zone{
			Types:  []Type{{Off: 3600, Abbr: "CET"}, {Off: 7200, Dst: true, Abbr: "CEST"}, {Off: -1, Abbr: "CET"}},
			Times:  []int64{math.MinInt64, -5, 0, 0x0102030405060708, math.MaxInt64},
			Index:  []int{1, 0, 2, 1, 0},
			Footer: "CET-1",
		}, `
545a6966 32 000000000000000000000000000000
00000000 00000000 00000000 00000005 00000003 0000000d
8000000000000000 fffffffffffffffb 0000000000000000 0102030405060708 7fffffffffffffff
01 00 02 01 00
00000e10 00 00  00001c20 01 04  ffffffff 00 09
43455400 4345535400 43455400
0a 4345542d31 0a`},
		{Zone{Types: []Type{{Off: -89999, Dst: true, Abbr: "A"}, {Off: 93599, Abbr: "~!"}}, Times: []int64{}, Index: []int{}, Footer: " "}, `
545a6966 32 000000000000000000000000000000
00000000 00000000 00000000 00000000 00000002 00000005
fffea071 01 00  00016d9f 00 02
4100 7e2100
0a 20 0a`},
	} {
		b, err := Put(x.z)
		if want := bytesOf(t, firstPart+x.want); err != api.OK || !bytes.Equal(b, want) {
			t.Errorf("%d: %d,\n%x, not\n%x", i, err, b, want)
		}
	}
}

// P6.2: the counts of both heads and the places of letters, of all counts.
func TestPutCounts(t *testing.T) {
	for _, n := range []int{1, 2, 3, 100, 127, 128} {
		for _, times := range []int{0, 1, 2, 255, 256, 257, 3999, 4000} {
			z := Zone{Types: types(n), Times: counted(times), Index: make([]int, times)}
			for i := range z.Index {
				z.Index[i] = (i*31 + n - 1) % n
			}
			p := parts{version: '2', times: z.Times, letters: strings.Repeat("A\x00", n)}
			for i := range n {
				p.types = append(p.types, local{0, 0, byte(2 * i)})
			}
			for _, index := range z.Index {
				p.index = append(p.index, byte(index))
			}
			b, err := Put(z)
			if err != api.OK || !bytes.Equal(b, long(least('2'), p, "")) {
				t.Errorf("%d types, %d times: %d, %x", n, times, err, b)
			}
			tells(t, b, z)
		}
	}
}

// P6.3: the same block in files of all versions; bytes of the heads that say nothing.
func TestVersions(t *testing.T) {
	z := someZone()
	blockTells(t, some(0), z)
	for _, footer := range []string{"", "A", "CET-1", " ", strings.Repeat("~", 100)} {
		z.Footer = footer
		tells(t, long(some('2'), some('2'), footer), z)
		tells(t, long(some('3'), some('3'), footer), z)
	}
	for version := range 256 {
		v := byte(version)
		if v != 0 {
			isNone(t, some(v).bytes(4))
			isNone(t, some(v).bytes(8))
		}
		if v != '2' && v != '3' {
			isNone(t, long(some(v), some(v), "CET-1"))
		}
		for _, other := range []byte("23") {
			if v != other {
				isNone(t, long(some(other), some(v), "CET-1"))
				isNone(t, long(some(v), some(other), "CET-1"))
			}
		}
		p := some('2')
		p.filler = v
		tells(t, short(p), bare(z))
		z.Footer = "CET-1"
		tells(t, long(p, p, "CET-1"), z)
	}
	// Version 0 ends with its block.
	isNone(t, append(short(some(0)), "\n\n"...))
	isNone(t, append(short(some(0)), "\nCET-1\n"...))
	isNone(t, slices.Concat(short(some(0)), some(0).bytes(8), []byte("\nCET-1\n")))
	// And those of version 2 and 3 do not.
	isNone(t, append(some('2').bytes(4), "\nCET-1\n"...))
	isNone(t, append(some('3').bytes(8), "\nCET-1\n"...))
}

// P6.3: what a head begins with.
func TestMagic(t *testing.T) {
	isNone(t, nil)
	isNone(t, []byte{})
	isNone(t, make([]byte, 44))
	isNone(t, []byte(strings.Repeat("TZif", 50)))
	isNone(t, []byte("TZif2"))
	isNone(t, []byte("CET-1CEST,M3.5.0,M10.5.0/3\n"))
	b := long(some('2'), some('2'), "CET-1")
	second := len(some('2').bytes(4))
	for _, at := range []int{0, second} {
		for i := range 4 {
			for n := range 256 {
				other := slices.Clone(b)
				other[at+i] = byte(n)
				if n == int("TZif"[i]) {
					tells(t, other, someZone())
				} else {
					isNone(t, other)
				}
			}
		}
	}
}

// P6.3: files cut short, and with more behind.
func TestCutShort(t *testing.T) {
	for _, b := range append(lotFiles(), long(some('2'), some('2'), "CET-1")) {
		for cut := range b {
			// What stands behind the length is not read, if there is something or not.
			isNone(t, b[:cut])
			isNone(t, b[:cut:cut])
		}
		for n := range 256 {
			behind := append(slices.Clone(b), byte(n))
			isNone(t, behind)
			isNone(t, append([]byte{byte(n)}, b...))
		}
		isNone(t, append(slices.Clone(b), b...))
	}
}

// P6.3: the first of two blocks says nothing, but is as long as its head says.
func TestFirstBlock(t *testing.T) {
	z := someZone()
	wild := parts{
		version: '2',
		times:   []int64{5, 5, -1},
		index:   []byte{9, 255, 1},
		types:   []local{{math.MaxInt32, 2, 200}, {math.MinInt32, 255, 3}},
		letters: "\x01\xff",
		stds:    []byte{7},
		uts:     []byte{1, 2, 3, 4, 5},
		leaps:   3,
	}
	many := parts{version: '2', times: counted(5000), index: make([]byte, 5000), types: make([]local, 300), letters: strings.Repeat("x", 5000), leaps: 1200, stds: make([]byte, 400), uts: make([]byte, 77)}
	for i, first := range []parts{{version: '2'}, least('2'), some('2'), wild, many, {version: '2', leaps: 1}, {version: '2', letters: "x"}, {version: '2', uts: []byte{1}}} {
		tells(t, long(first, some('2'), "CET-1"), z)
		for k := range 6 {
			// Longer and shorter than the head says: by one of what is counted there.
			for _, by := range []uint32{1, math.MaxUint32} {
				lie := first
				counts := lie.numbers()
				counts[k] += by
				lie.counts = &counts
				isNone(t, long(lie, some('2'), "CET-1"))
			}
		}
		if t.Failed() {
			t.Fatalf("%d", i)
		}
	}
}

// P6.3: counts with great numbers, in each head and place, and all at once.
func TestGreatCounts(t *testing.T) {
	for _, great := range []uint32{1 << 16, 1 << 24, math.MaxInt32, math.MaxInt32 + 1, 0xfffffffe, math.MaxUint32} {
		for k := range 7 {
			counts := some('2').numbers()
			for i := range counts {
				if k == i || k == 6 {
					counts[i] = great
				}
			}
			lie := some('2')
			lie.counts = &counts
			isNone(t, short(lie))
			isNone(t, long(lie, some('2'), "CET-1"))
			isNone(t, long(some('2'), lie, "CET-1"))
			isNone(t, long(lie, lie, "CET-1"))
		}
	}
	// Blocks that were there, if just 32 bits of their lengths were looked at.
	for _, counts := range [][6]uint32{{1 << 31, 1 << 31, 0, 2, 2, 9}, {0, 0, 1 << 29, 2, 2, 9}, {0, 0, 1 << 30, 2, 2, 9}, {0, 0, 0, 2, 2 + 1<<31, 9}} {
		lie := some('2')
		lie.counts = &counts
		isNone(t, short(lie))
		isNone(t, long(lie, some('2'), "CET-1"))
		isNone(t, long(some('2'), lie, "CET-1"))
	}
}

// P6.3: how many types there may be: as many as there may be letters for, and so never 255.
func TestCountOfTypes(t *testing.T) {
	for _, n := range []int{0, 1, 2, 127, 128, 129, 200, 254, 255, 256, 257, 300} {
		p := parts{types: make([]local, n), letters: "A\x00"}
		if n >= 1 && n <= 128 {
			blockTells(t, p, Zone{Types: types(n)})
		} else {
			blockIsNone(t, p)
		}
	}
}

// P6.3: how many times there may be.
func TestCountOfTimes(t *testing.T) {
	for _, n := range []int{0, 1, 3999, 4000, 4001, 5000, 66000} {
		p := parts{times: counted(n), index: make([]byte, n), types: make([]local, 1), letters: "A\x00"}
		if n <= 4000 {
			blockTells(t, p, Zone{Types: types(1), Times: counted(n), Index: make([]int, n)})
		} else {
			blockIsNone(t, p)
		}
	}
}

// P6.3: how many bytes of letters there may be.
func TestCountOfLetters(t *testing.T) {
	for _, n := range []int{2, 3, 255, 256, 257, 4095, 4096} {
		for _, behind := range []string{"x", "\x00", "\xff"} {
			blockTells(t, parts{types: make([]local, 1), letters: "A\x00" + strings.Repeat(behind, n-2)}, lettered("A"))
		}
	}
	for _, letters := range []string{"", "A", "\x00", "A\x00" + strings.Repeat("x", 4095), "A\x00" + strings.Repeat("\x00", 4095), "A\x00" + strings.Repeat("x", 70000)} {
		blockIsNone(t, parts{types: make([]local, 1), letters: letters})
	}
}

// P6.3: leaps, and how many of them there may be.
func TestLeaps(t *testing.T) {
	for _, n := range []int{0, 1, 2, 27, 999, 1000, 1001, 1002, 70000} {
		p := some(0)
		p.leaps = n
		if n <= 1000 {
			blockTells(t, p, someZone())
		} else {
			blockIsNone(t, p)
		}
	}
}

// P6.3: the rows of bytes at a block's end: as many as there are types, or none.
func TestLastRows(t *testing.T) {
	for stds := range 5 {
		for uts := range 5 {
			for _, n := range []int{1, 2, 3} {
				p := parts{types: make([]local, n), letters: "A\x00", leaps: 1, stds: bytes.Repeat([]byte{1}, stds), uts: bytes.Repeat([]byte{255}, uts)}
				if (stds == 0 || stds == n) && (uts == 0 || uts == n) {
					blockTells(t, p, Zone{Types: types(n)})
				} else {
					blockIsNone(t, p)
				}
			}
		}
	}
	// What they say is nothing.
	for n := range 256 {
		p := parts{types: make([]local, 2), letters: "A\x00", stds: []byte{byte(n), 0}, uts: []byte{10, byte(n)}}
		blockTells(t, p, Zone{Types: types(2)})
	}
}

// P6.3: what a type's row may tell.
func TestTypeRows(t *testing.T) {
	for dst := range 256 {
		for at := range 2 {
			p := some(0)
			p.types[at].dst = byte(dst)
			want := someZone()
			want.Types[at].Dst = dst == 1
			if dst <= 1 {
				blockTells(t, p, want)
			} else {
				blockIsNone(t, p)
			}
		}
	}
	for _, off := range []int32{math.MinInt32, -90001, -90000, -89999, -89998, -256, -1, 0, 1, 255, 256, 65536, 93598, 93599, 93600, 93601, 1 << 24, math.MaxInt32} {
		for at := range 2 {
			p := some(0)
			p.types[at].off = off
			want := someZone()
			want.Types[at].Off = int(off)
			if off >= -89999 && off <= 93599 {
				blockTells(t, p, want)
			} else {
				blockIsNone(t, p)
			}
		}
	}
}

// P6.3: places of letters.
func TestPlaces(t *testing.T) {
	const all = "CET\x00CEST\x00\x00\tA B\x00ende"
	for place := range 256 {
		for at := range 2 {
			p := some(0)
			p.letters = all
			p.types[at].place = byte(place)
			want := someZone()
			switch {
			case place < 3:
				want.Types[at].Abbr = "CET"[place:]
			case place > 3 && place < 8:
				want.Types[at].Abbr = "CEST"[place-4:]
			case place == 13:
				want.Types[at].Abbr = "B"
			default:
				blockIsNone(t, p)
				continue
			}
			blockTells(t, p, want)
		}
	}
	// The last place that a byte tells.
	for _, x := range []struct {
		letters string
		ok      bool
	}{
		{strings.Repeat("\x00", 255) + "Z\x00", true},
		{strings.Repeat("\x00", 255) + "Z", false},
		{strings.Repeat("\x00", 255), false},
		{strings.Repeat("\x00", 256), false},
		{strings.Repeat("\x00", 255) + strings.Repeat("Z", 15) + "\x00", true},
		{strings.Repeat("\x00", 255) + strings.Repeat("Z", 16) + "\x00", false},
	} {
		p := parts{types: []local{{0, 0, 255}}, letters: x.letters}
		if x.ok {
			blockTells(t, p, lettered(strings.Trim(x.letters, "\x00")))
		} else {
			blockIsNone(t, p)
		}
	}
}

// P6.3: a byte 0 behind the letters that is not among them: that of a leap, a byte at the end.
func TestLettersEnd(t *testing.T) {
	p := parts{types: make([]local, 1), letters: "A", stds: []byte{0}, uts: []byte{0}}
	blockIsNone(t, p)
	p.letters = "A\x00"
	blockTells(t, p, lettered("A"))
	p.types[0].place = 1
	blockIsNone(t, p)
	p.types[0].place = 2
	blockIsNone(t, p)
}

// P6.3: which letters there may be.
func TestLetters(t *testing.T) {
	for n := range 256 {
		one := string([]byte{byte(n)})
		for _, letters := range []string{one, "a" + one, one + "a", "a" + one + "b"} {
			p := parts{types: make([]local, 1), letters: letters + "\x00"}
			switch {
			case n >= 33 && n <= 126:
				blockTells(t, p, lettered(letters))
			case n == 0 && letters[0] == 'a':
				blockTells(t, p, lettered("a"))
			default:
				blockIsNone(t, p)
			}
		}
	}
	for n := range 40 {
		p := parts{types: make([]local, 1), letters: strings.Repeat("x", n) + "\x00"}
		if n >= 1 && n <= 15 {
			blockTells(t, p, lettered(strings.Repeat("x", n)))
		} else {
			blockIsNone(t, p)
		}
	}
}

// P6.3: letters that types share, whole and their ends, count for each of them.
func TestSharedLetters(t *testing.T) {
	p := parts{types: make([]local, 15), letters: "ABCDEFGHIJKLMNO\x00"}
	var want Zone
	for i := range p.types {
		p.types[i].place = byte(i)
		want.Types = append(want.Types, Type{Abbr: "ABCDEFGHIJKLMNO"[i:]})
	}
	blockTells(t, p, want)
	for _, x := range []struct {
		n, place int
		ok       bool
	}{{16, 0, true}, {17, 0, false}, {17, 1, true}, {18, 1, false}, {128, 14, true}, {129, 14, false}} {
		p.types = slices.Repeat([]local{{0, 0, byte(x.place)}}, x.n)
		if x.ok {
			blockTells(t, p, Zone{Types: slices.Repeat([]Type{{Abbr: p.letters[x.place:15]}}, x.n)})
		} else {
			blockIsNone(t, p)
		}
	}
}

// P6.3: times rise, each above the one ahead, in both widths.
func TestTimes(t *testing.T) {
	for _, x := range []struct {
		times []int64
		ok    bool
	}{
		{[]int64{0}, true}, {[]int64{-1}, true}, {[]int64{-1, 0, 1}, true},
		{[]int64{math.MinInt32, -1, 0, math.MaxInt32}, true},
		{[]int64{math.MinInt32, math.MinInt32 + 1}, true},
		{[]int64{0, 0}, false}, {[]int64{1, 0}, false}, {[]int64{0, -1}, false},
		{[]int64{math.MaxInt32, math.MinInt32}, false},
		{[]int64{-1, -1}, false}, {[]int64{0, 5, 5}, false}, {[]int64{5, 4, 6}, false},
		{[]int64{255, 256, 65535, 65536}, true}, {[]int64{256, 255}, false},
	} {
		p := parts{times: x.times, index: make([]byte, len(x.times)), types: make([]local, 1), letters: "A\x00"}
		if x.ok {
			blockTells(t, p, Zone{Types: types(1), Times: x.times, Index: make([]int, len(x.times))})
		} else {
			blockIsNone(t, p)
		}
	}
	// Times for which the first block has no room.
	for _, times := range [][]int64{{math.MinInt64, -1 << 32, -1 << 31, 1 << 31, 1 << 32, math.MaxInt64}, {1 << 32, 1<<32 + 1}, {5, 1<<32 + 5}} {
		p := parts{version: '2', times: times, index: make([]byte, len(times)), types: make([]local, 1), letters: "A\x00"}
		tells(t, long(least('2'), p, ""), Zone{Types: types(1), Times: times, Index: make([]int, len(times))})
		slices.Reverse(times)
		isNone(t, long(least('2'), p, ""))
	}
}

// P6.3: indices are below the count of types.
func TestIndices(t *testing.T) {
	for _, n := range []int{1, 2, 3, 128} {
		for index := range 256 {
			p := parts{times: counted(2), index: []byte{0, byte(index)}, types: make([]local, n), letters: "A\x00"}
			if index < n {
				blockTells(t, p, Zone{Types: types(n), Times: counted(2), Index: []int{0, index}})
			} else {
				blockIsNone(t, p)
			}
		}
	}
}

// P6.3: the footer, and the bytes 10 around it.
func TestFooter(t *testing.T) {
	file := func(end string) []byte { return slices.Concat(least('2').bytes(4), some('2').bytes(8), []byte(end)) }
	z := someZone()
	for _, footer := range []string{"", "C", "CET-1", " ", "~", "<-03>3", strings.Repeat(" ", 99), strings.Repeat("x", 100)} {
		z.Footer = footer
		tells(t, file("\n"+footer+"\n"), z)
		isNone(t, file(footer))
		isNone(t, file("\n"+footer))
		isNone(t, file(footer+"\n"))
		isNone(t, file("\n"+footer+"\n\n"))
		isNone(t, file("\n\n"+footer+"\n"))
		isNone(t, file("\r"+footer+"\n"))
		isNone(t, file("\n"+footer+"\r"))
		isNone(t, file("\n"+footer+"\r\n"))
		isNone(t, file("\n"+footer+"\x00"))
		isNone(t, file("\x00"+footer+"\n"))
		isNone(t, file("\n"+footer+"\nx"))
		isNone(t, file("\n"+footer+"\nx\n"))
	}
	for _, end := range []string{"", "\n", "x", "xx", "\nx", "x\n", "\n\n\n", "\nCET\n-1\n", "\n" + strings.Repeat("x", 101) + "\n", "\n" + strings.Repeat("x", 70000) + "\n"} {
		isNone(t, file(end))
	}
	for n := range 256 {
		one := string([]byte{byte(n)})
		for _, footer := range []string{one, "a" + one, one + "a", "a" + one + "b"} {
			if n >= 32 && n <= 126 {
				z.Footer = footer
				tells(t, file("\n"+footer+"\n"), z)
			} else {
				isNone(t, file("\n"+footer+"\n"))
			}
		}
	}
}

// P6.3: a file as others make them, of Honolulu: two types share their letters.
func TestHonolulu(t *testing.T) {
	b := bytesOf(t, firstPart+`
545a6966 32 000000000000000000000000000000
00000000 00000000 00000000 00000007 00000006 00000014
ffffffff74e070be ffffffffbb054348 ffffffffbb217158 ffffffffcb893dc8 ffffffffd223f470 ffffffffd2614938 ffffffffd58d7348
01 02 01 03 04 01 05
ffff6c02 00 00  ffff6c58 00 04  ffff7a68 01 08  ffff7a68 01 0c  ffff7a68 01 10  ffff7360 00 04
4c4d5400 48535400 48445400 48575400 48505400
0a 4853543130 0a`)
	z, err := Parse(b)
	if err != api.OK {
		t.Fatal(err)
	}
	want := Zone{
		Types:  []Type{{-37886, false, "LMT"}, {-37800, false, "HST"}, {-34200, true, "HDT"}, {-34200, true, "HWT"}, {-34200, true, "HPT"}, {-36000, false, "HST"}},
		Times:  []int64{-2334101314, -1157283000, -1155436200, -880198200, -769395600, -765376200, -712150200},
		Index:  []int{1, 2, 1, 3, 4, 1, 5},
		Footer: "HST10",
	}
	if !Same(z, want) {
		t.Errorf("%v", z)
	}
	for at, abbr := range map[int64]string{-3000000000: "LMT", -2334101315: "LMT", -2334101314: "HST", -1157283000: "HDT", -769395600: "HPT", 0: "HST"} {
		if got := z.Types[At(z, at)].Abbr; got != abbr {
			t.Errorf("at %d: %s, not %s", at, got, abbr)
		}
	}
}

// P6.2, P6.5: what is put is read by the library likewise, and the same types hold.
func TestPutForOthers(t *testing.T) {
	z := Zone{
		Types: []Type{{Off: 800, Abbr: "LMT"}, {Off: 3600, Abbr: "CET"}, {Off: 7200, Dst: true, Abbr: "CEST"}, {Off: -34200, Abbr: "HST"}},
		Times: []int64{-5000000000, -1 << 31, -77, 0, 1 << 20, 1 << 33, 1 << 34},
		Index: []int{1, 2, 3, 0, 2, 1, 2},
	}
	b, _ := Put(z)
	place, err := time.LoadLocationFromTZData("some", b)
	if err != nil {
		t.Fatal(err)
	}
	for _, at := range z.Times {
		for _, second := range []int64{at, at + 1, at + 1000} {
			now := time.Unix(second, 0).In(place)
			abbr, off := now.Zone()
			if got := z.Types[At(z, second)]; got != (Type{off, now.IsDST(), abbr}) {
				t.Errorf("at %d: %v, not %s, %d", second, got, abbr, off)
			}
		}
	}
}
