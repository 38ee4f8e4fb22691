package sip

import (
	"bytes"
	"encoding/binary"
	"encoding/hex"
	"math/rand"
	"slices"
	"strings"
	"testing"
)

const (
	smallDigits = "0123456789abcdef"
	someID      = "000102030405060708090A0b0c0d0e0f"
)

// keyOf is a key whose bytes a rule tells.
func keyOf(rule func(i int) byte) Key {
	var k Key
	for i := range k {
		k[i] = rule(i)
	}
	return k
}

func counting() Key {
	return keyOf(func(i int) byte { return byte(i) })
}

// halves is a key of two bytes, eight of each.
func halves(low, high byte) Key {
	return keyOf(func(i int) byte {
		if i < 8 {
			return low
		}
		return high
	})
}

func keys() []Key {
	list := []Key{
		halves(0, 0), halves(255, 255), halves(255, 0), halves(0, 255), counting(),
		keyOf(func(i int) byte { return byte(i*37 + 11) }),
	}
	// And each bit of a key on its own.
	for bit := range 128 {
		list = append(list, keyOf(func(i int) byte {
			if i == bit/8 {
				return 1 << (bit % 8)
			}
			return 0
		}))
	}
	return list
}

// counted is the bytes 0, 1, 2 ..
func counted(long int) []byte {
	row := make([]byte, long)
	for i := range row {
		row[i] = byte(i)
	}
	return row
}

// mixed is a row that hangs on its length.
func mixed(long int) []byte {
	row := make([]byte, long)
	for i := range row {
		row[i] = byte(i*7 + long)
	}
	return row
}

func lengths() []int {
	var list []int
	for n := range 35 {
		list = append(list, n)
	}
	return append(list, 63, 64, 65, 127, 128, 129, 247, 248, 249, 254, 255, 256, 257, 258, 263, 264, 265, 511, 512, 513, 1000)
}

// plain is the hash as the chapter tells it, of a row laid out whole: noughts are put behind it, and its length.
func plain(k Key, msg []byte) uint64 {
	turn := func(n uint64, by int) uint64 { return n<<by | n>>(64-by) }
	round := func(v *[4]uint64) {
		v[0] += v[1]
		v[1] = turn(v[1], 13)
		v[1] ^= v[0]
		v[0] = turn(v[0], 32)
		v[2] += v[3]
		v[3] = turn(v[3], 16)
		v[3] ^= v[2]
		v[0] += v[3]
		v[3] = turn(v[3], 21)
		v[3] ^= v[0]
		v[2] += v[1]
		v[1] = turn(v[1], 17)
		v[1] ^= v[2]
		v[2] = turn(v[2], 32)
	}
	k0, k1 := binary.LittleEndian.Uint64(k[:8]), binary.LittleEndian.Uint64(k[8:])
	v := [4]uint64{k0 ^ 0x736f6d6570736575, k1 ^ 0x646f72616e646f6d, k0 ^ 0x6c7967656e657261, k1 ^ 0x7465646279746573}
	whole := append(bytes.Clone(msg), make([]byte, 8-len(msg)%8)...)
	whole[len(whole)-1] = byte(len(msg))
	for at := 0; at < len(whole); at += 8 {
		m := binary.LittleEndian.Uint64(whole[at:])
		v[3] ^= m
		round(&v)
		round(&v)
		v[0] ^= m
	}
	v[2] ^= 0xff
	for range 4 {
		round(&v)
	}
	return v[0] ^ v[1] ^ v[2] ^ v[3]
}

// added is the hash of pieces that are added one behind the other.
func added(k Key, pieces ...[]byte) uint64 {
	h := New(k)
	for _, piece := range pieces {
		h.Add(piece...)
	}
	return h.Sum()
}

// known are the sums of the rows 0, 1, 2 .. of each length from 0 on, with the key 0, 1, 2 ..: those that the hash's makers tell.
func known() []uint64 {
	return []uint64{
		0x726fdb47dd0e0e31, 0x74f839c593dc67fd, 0x0d6c8009d9a94f5a, 0x85676696d7fb7e2d,
		0xcf2794e0277187b7, 0x18765564cd99a68d, 0xcbc9466e58fee3ce, 0xab0200f58b01d137,
		0x93f5f5799a932462, 0x9e0082df0ba9e4b0, 0x7a5dbbc594ddb9f3, 0xf4b32f46226bada7,
		0x751e8fbc860ee5fb, 0x14ea5627c0843d90, 0xf723ca908e7af2ee, 0xa129ca6149be45e5,
		0x3f2acc7f57c29bdb, 0x699ae9f52cbe4794, 0x4bc1b3f0968dd39c, 0xbb6dc91da77961bd,
		0xbed65cf21aa2ee98, 0xd0f2cbb02e3b67c7, 0x93536795e3a33e88, 0xa80c038ccd5ccec8,
		0xb8ad50c6f649af94, 0xbce192de8a85b8ea, 0x17d835b85bbb15f3, 0x2f2e6163076bcfad,
		0xde4daaaca71dc9a5, 0xa6a2506687956571, 0xad87a3535c49ef28, 0x32d892fad841c342,
		0x7127512f72f27cce, 0xa7f32346f95978e3, 0x12e0b01abb051238, 0x15e034d40fa197ae,
		0x314dffbe0815a3b4, 0x027990f029623981, 0xcadcd4e59ef40c4d, 0x9abfd8766a33735c,
		0x0e3ea96b5304a7d0, 0xad0c42d6fc585992, 0x187306c89bc215a9, 0xd4a60abcf3792b95,
		0xf935451de4f21df2, 0xa9538f0419755787, 0xdb9acddff56ca510, 0xd06c98cd5c0975eb,
		0xe612a3cb9ecba951, 0xc766e62cfcadaf96, 0xee64435a9752fe72, 0xa192d576b245165a,
		0x0a8787bf8ecb74b2, 0x81b3e73d20b49b6f, 0x7fa8220ba3b2ecea, 0x245731c13ca42499,
		0xb78dbfaf3a8d83bd, 0xea1ad565322a1a0b, 0x60e61c23a3795013, 0x6606d7e446282b93,
		0x6ca4ecb15c5f91e1, 0x9f626da15c9625f3, 0xe51b38608ef25f57, 0x958a324ceb064572,
	}
}

// P4.1, P4.2
func TestKnownSums(t *testing.T) {
	for n, want := range known() {
		if got := Sum(counting(), counted(n)); got != want {
			t.Errorf("Sum of %d bytes: %x, not %x", n, got, want)
		}
		if got := added(counting(), counted(n)); got != want {
			t.Errorf("New, Add, Sum of %d bytes: %x, not %x", n, got, want)
		}
	}
}

// P4.1: the last number bears the length modulo 256; sums worked out by another program.
func TestKnownLongSums(t *testing.T) {
	other := keyOf(func(i int) byte { return byte(i*37 + 11) })
	for _, x := range []struct {
		long                 int
		noughts, ones, other uint64
	}{
		{255, 0x1afcc91e03673a9e, 0xf8bfe869a520a6da, 0xe3960e54a09626b4},
		{256, 0xc72df5f304fbf5a3, 0xc04193389e51c4bd, 0xc0c81a8ea0d06879},
		{257, 0x7084511bd0345c2c, 0x44a5ba953ff7d1a5, 0x28d873310fcfcf45},
		{511, 0xc8192e27fbf95fe3, 0x0d6eb5ed2d03955d, 0xe3bd282a409dd6d7},
		{512, 0x27faed3dba644893, 0xaef0cf0b80a0ff80, 0xa318ec11a0732b61},
		{513, 0xc0974607f0fb9b7d, 0x8f6403283c05654c, 0xfa7368da17bc5405},
		{1000, 0x3180e86883d3270b, 0x27bff0aeddeaa6db, 0x13c4d2154a5f8ff9},
		{65536, 0x61fa201795dabdc5, 0x8ee07a019d41fcbb, 0x8929271e8b10ef9e},
	} {
		for k, want := range map[Key]uint64{halves(0, 0): x.noughts, halves(255, 255): x.ones, other: x.other} {
			if got := Sum(k, mixed(x.long)); got != want {
				t.Errorf("Sum(%x, %d bytes) = %x, not %x", k, x.long, got, want)
			}
			if got := plain(k, mixed(x.long)); got != want {
				t.Errorf("plain(%x, %d bytes) = %x, not %x", k, x.long, got, want)
			}
		}
	}
}

// P4.1, P4.2: all lengths and keys, and rows of noughts and of all bits.
func TestSumsOfAllLengths(t *testing.T) {
	for _, k := range keys() {
		for _, n := range lengths() {
			for _, row := range [][]byte{counted(n), mixed(n), make([]byte, n), bytes.Repeat([]byte{255}, n)} {
				want := plain(k, row)
				if got := Sum(k, row); got != want {
					t.Fatalf("Sum(%x, %d bytes) = %x, not %x", k, n, got, want)
				}
				if got := added(k, row); got != want {
					t.Fatalf("%x, %d bytes added: %x, not %x", k, n, got, want)
				}
			}
		}
	}
}

// P4.1: each bit of a row and of a key tells, and so do noughts behind it.
func TestSumsAreUnlike(t *testing.T) {
	seen := map[uint64]bool{}
	rows := 0
	look := func(k Key, row []byte) {
		seen[Sum(k, row)] = true
		rows++
	}
	for n := range 300 {
		look(counting(), make([]byte, n))
	}
	for bit := range 8 * 17 {
		row := make([]byte, 17)
		row[bit/8] = 1 << (bit % 8)
		look(counting(), row)
	}
	for bit := range 128 {
		k := counting()
		k[bit/8] ^= 1 << (bit % 8)
		look(k, counted(15))
	}
	if len(seen) != rows {
		t.Errorf("%d sums of %d rows", len(seen), rows)
	}
}

// P4.1, P4.2: nil and empty rows mean the same, and nothing added is that too.
func TestNothingAdded(t *testing.T) {
	for _, k := range keys() {
		want := plain(k, nil)
		untouched, variadic := New(k), New(k)
		variadic.Add()
		for name, got := range map[string]uint64{
			"Sum(nil)":    Sum(k, nil),
			"Sum(empty)":  Sum(k, []byte{}),
			"New, Sum":    untouched.Sum(),
			"Add()":       variadic.Sum(),
			"Add(nil)":    added(k, nil),
			"Add(empty)":  added(k, []byte{}),
			"several":     added(k, nil, []byte{}, nil),
			"a long cap":  Sum(k, counted(20)[:0]),
			"added a cap": added(k, counted(20)[:0]),
		} {
			if got != want {
				t.Errorf("%x, %s: %x, not %x", k, name, got, want)
			}
		}
	}
}

// P4.2: with nothing added at once and between others.
func TestNothingBetween(t *testing.T) {
	for n := range 35 {
		row := mixed(n)
		want := plain(counting(), row)
		for cut := range n + 1 {
			if got := added(counting(), nil, row[:cut], nil, []byte{}, row[cut:], nil); got != want {
				t.Fatalf("%d bytes, nothing at %d: %x, not %x", n, cut, got, want)
			}
		}
	}
}

// P4.2: a hash may be gone on with behind its Sum, which may be asked again.
func TestGoneOnWith(t *testing.T) {
	for _, k := range keys()[:6] {
		h := New(k)
		row := mixed(600)
		for n := range len(row) {
			for range 3 {
				if got, want := h.Sum(), plain(k, row[:n]); got != want {
					t.Fatalf("%x, %d bytes: %x, not %x", k, n, got, want)
				}
			}
			h.Add(row[n])
		}
	}
}

// P4.2, P4.5: a Sum ahead of each piece of every length.
func TestGoneOnWithInPieces(t *testing.T) {
	row := mixed(300)
	for long := 1; long <= 40; long++ {
		h := New(counting())
		at := 0
		for piece := range slices.Chunk(row, long) {
			if got, want := h.Sum(), plain(counting(), row[:at]); got != want {
				t.Fatalf("pieces of %d, %d bytes: %x, not %x", long, at, got, want)
			}
			h.Add(piece...)
			at += len(piece)
		}
		if got, want := h.Sum(), plain(counting(), row); got != want {
			t.Fatalf("pieces of %d: %x, not %x", long, got, want)
		}
	}
}

// P4.2
func TestNilHash(t *testing.T) {
	var h *Hash
	for _, row := range [][]byte{nil, {}, {1}, counted(8), counted(300)} {
		h.Add(row...)
		if got := h.Sum(); got != 0 {
			t.Errorf("a nil hash: %x", got)
		}
	}
	h.Add()
	if h != nil || h.Sum() != 0 {
		t.Errorf("a nil hash: %x", h.Sum())
	}
}

// A hash made by hand: nothing is promised of its sum but that there is one.
func TestHashByHand(t *testing.T) {
	var h Hash
	h.Add(counted(20)...)
	h.Sum()
}

// P4.2: what is added to one hash is added to no other.
func TestHashesApart(t *testing.T) {
	first, second := New(counting()), New(counting())
	other := New(halves(0, 0))
	for n := range 50 {
		first.Add(byte(n))
		second.Add(byte(n), byte(n))
		other.Add(byte(n))
	}
	twice := make([]byte, 100)
	for i := range twice {
		twice[i] = byte(i / 2)
	}
	for i, x := range []struct {
		h    *Hash
		want uint64
	}{
		{first, plain(counting(), counted(50))},
		{second, plain(counting(), twice)},
		{other, plain(halves(0, 0), counted(50))},
	} {
		if got := x.h.Sum(); got != x.want {
			t.Errorf("%d: %x, not %x", i, got, x.want)
		}
	}
}

// P4.5: pieces of every length, with all others behind the first ones.
func TestPieces(t *testing.T) {
	row := mixed(300)
	want := plain(counting(), row)
	for long := 1; long <= len(row); long++ {
		if got := added(counting(), slices.Collect(slices.Chunk(row, long))...); got != want {
			t.Errorf("pieces of %d: %x, not %x", long, got, want)
		}
	}
}

// P4.5: three pieces, cut anywhere.
func TestCuts(t *testing.T) {
	for _, n := range []int{0, 1, 7, 8, 9, 15, 16, 17, 24, 33} {
		row := mixed(n)
		want := plain(counting(), row)
		for first := range n + 1 {
			for second := first; second <= n; second++ {
				if got := added(counting(), row[:first], row[first:second], row[second:]); got != want {
					t.Fatalf("%d bytes, cut at %d and %d: %x, not %x", n, first, second, got, want)
				}
			}
		}
	}
}

// P4.5: pieces of lengths that are drawn by lot.
func TestPiecesByLot(t *testing.T) {
	lot := rand.New(rand.NewSource(1))
	for range 2000 {
		var k Key
		lot.Read(k[:])
		row := make([]byte, lot.Intn(700))
		lot.Read(row)
		want := plain(k, row)
		h := New(k)
		for at := 0; at < len(row); {
			end := min(at+lot.Intn(30), len(row))
			h.Add(row[at:end]...)
			at = end
		}
		if got := h.Sum(); got != want || Sum(k, row) != want {
			t.Fatalf("%x, %x: %x, not %x", k, row, got, want)
		}
	}
}

// P4.4: neither the key nor the row is changed, what lies behind the row's length included.
func TestOnlyRead(t *testing.T) {
	for _, n := range lengths() {
		memory := mixed(n + 20)
		row := memory[3 : n+3]
		k := counting()
		Sum(k, row)
		h := New(k)
		h.Add(row...)
		h.Sum()
		h.Add(row...)
		h.Sum()
		if !bytes.Equal(memory, mixed(n+20)) {
			t.Fatalf("a row of %d bytes was changed", n)
		}
		if k != counting() {
			t.Fatalf("the key was changed: %x", k)
		}
	}
}

// P4.4: what was handed in is not kept: changed behind the call, it changes no hash.
func TestNotKept(t *testing.T) {
	for _, n := range lengths() {
		row, k := mixed(n), counting()
		want := plain(k, slices.Concat(row, row))
		h := New(k)
		clear(k[:])
		h.Add(row...)
		clear(row)
		copy(row, mixed(n))
		h.Add(row...)
		for i := range row {
			row[i] ^= 255
		}
		if got := h.Sum(); got != want {
			t.Fatalf("%d bytes: %x, not %x", n, got, want)
		}
	}
}

// wrongID fails unless a text tells no key.
func wrongID(t *testing.T, id string) {
	t.Helper()
	if k, ok := Of(id); ok || k != (Key{}) {
		t.Errorf("Of(%q) = %x, %v", id, k, ok)
	}
}

func rightID(t *testing.T, id string, want Key) {
	t.Helper()
	if k, ok := Of(id); !ok || k != want {
		t.Errorf("Of(%q) = %x, %v, not %x", id, k, ok, want)
	}
}

// P4.3
func TestOf(t *testing.T) {
	rightID(t, someID, counting())
	rightID(t, strings.ToLower(someID), counting())
	rightID(t, strings.ToUpper(someID), counting())
	rightID(t, strings.Repeat("0", 32), Key{})
	rightID(t, strings.Repeat("9", 32), halves(0x99, 0x99))
	rightID(t, strings.Repeat("f", 32), halves(255, 255))
	rightID(t, strings.Repeat("F", 32), halves(255, 255))
	rightID(t, "0123456789abcdefFEDCBA9876543210", Key{0x01, 0x23, 0x45, 0x67, 0x89, 0xab, 0xcd, 0xef, 0xfe, 0xdc, 0xba, 0x98, 0x76, 0x54, 0x32, 0x10})
	for _, k := range keys() {
		rightID(t, hex.EncodeToString(k[:]), k)
		rightID(t, strings.ToUpper(hex.EncodeToString(k[:])), k)
	}
}

// P4.3: every byte at every place.
func TestOfEveryByte(t *testing.T) {
	for at := range 32 {
		for b := range 256 {
			id := []byte(someID)
			id[at] = byte(b)
			value := strings.IndexByte(smallDigits, byte(b))
			if b >= 'A' && b <= 'F' {
				value = b - 'A' + 10
			}
			if value < 0 {
				wrongID(t, string(id))
				continue
			}
			want := counting()
			if at%2 == 0 {
				want[at/2] = byte(value)<<4 | want[at/2]&15
			} else {
				want[at/2] = want[at/2]&240 | byte(value)
			}
			rightID(t, string(id), want)
		}
	}
}

// P4.3: 32 digits, not one less or more.
func TestOfLengths(t *testing.T) {
	for n := range 100 {
		if n == 32 {
			continue
		}
		for _, digit := range []string{"0", "7", "a", "F"} {
			digits := strings.Repeat(digit, n)
			wrongID(t, digits)
			for _, behind := range []string{"\n", " \t", "\r\n"} {
				wrongID(t, digits+behind)
			}
		}
	}
	// Blanks and other bytes do not make up for digits.
	wrongID(t, someID[:31]+" ")
	wrongID(t, someID[:30]+"\r\n")
	wrongID(t, someID[:31]+"\x00")
	wrongID(t, strings.Repeat(" ", 32))
	wrongID(t, "0x"+someID[2:])
	wrongID(t, "0x"+someID)
	wrongID(t, "-"+someID[1:])
	wrongID(t, "+"+someID)
	wrongID(t, someID+someID)
	wrongID(t, "00010203-0405-0607-0809-0a0b0c0d0e0f")
	// Digits that are no ASCII: 30 bytes of these and 2; 32 of these.
	wrongID(t, strings.Repeat("０", 10)+"00")
	wrongID(t, strings.Repeat("０", 32))
}

// P4.3: which bytes may stand behind the digits; none may stand ahead of them or between them.
func TestOfBlanks(t *testing.T) {
	for b := range 256 {
		one := string([]byte{byte(b)})
		if b == 9 || b == 10 || b == 13 || b == 32 {
			rightID(t, someID+one, counting())
			rightID(t, someID+one+one, counting())
			rightID(t, someID+strings.Repeat(one, 1000), counting())
			wrongID(t, one)
			wrongID(t, someID+one+"0")
			wrongID(t, someID+one+someID)
		} else {
			wrongID(t, someID+one)
			wrongID(t, someID+"\n"+one)
			wrongID(t, someID+one+"\n")
		}
		wrongID(t, one+someID)
		wrongID(t, one+someID+"\n")
		for at := 1; at < 32; at++ {
			wrongID(t, someID[:at]+one+someID[at:])
		}
	}
	for _, behind := range []string{"\r\n", "\n\r", " \t\r\n", "\n\n \t \r", " \n"} {
		rightID(t, someID+behind, counting())
	}
	// White space of other kinds: U+0085, U+00A0, U+2003, and halves of such.
	for _, behind := range []string{"\u0085", "\u00a0", "\u2003", "\xc2", "\x85", "\xa0", "\v", "\f", "\x00"} {
		wrongID(t, someID+behind)
		wrongID(t, someID+behind+" ")
	}
}

// The chapter's examples, in its order.
func TestExamples(t *testing.T) {
	k, ok := Of("000102030405060708090A0b0c0d0e0f\n")
	if !ok || k != counting() {
		t.Errorf("Of: %x, %v", k, ok)
	}
	if got := Sum(k, counted(15)); got != 0xa129ca6149be45e5 {
		t.Errorf("Sum: %x", got)
	}
	wrongID(t, "00")
}
