package tzif

import (
	"fmt"
	"math"
	"slices"
	"strings"
	"testing"

	"clepsydra/api"
)

// types are so many, of one letter each.
func types(n int) []Type { return slices.Repeat([]Type{{Abbr: "A"}}, n) }

// counted are the times 0, 1, 2 ..
func counted(n int) []int64 {
	list := make([]int64, n)
	for i := range list {
		list[i] = int64(i)
	}
	return list
}

// of is a zone of those types alone.
func of(list ...Type) Zone { return Zone{Types: list} }

// lettered is a zone of one type with those letters.
func lettered(abbr string) Zone { return of(Type{Abbr: abbr}) }

// timed is a zone of two types with those times, at which types begin in turn.
func timed(times ...int64) Zone {
	z := Zone{Types: []Type{{Abbr: "A"}, {Off: 1, Abbr: "B"}}, Times: times}
	for i := range times {
		z.Index = append(z.Index, 1-i%2)
	}
	return z
}

// indexed is a zone of two types with the times 0, 1 .. and those indices.
func indexed(indices ...int) Zone {
	return Zone{Types: types(2), Times: counted(len(indices)), Index: indices}
}

func footed(footer string) Zone { return Zone{Types: types(1), Footer: footer} }

// full is a zone with so many types, and letters of so many bytes of all together, with one byte more for each.
func full(n, letters int) Zone {
	z := Zone{Types: types(n)}
	for more := letters - 2*n; more > 0; {
		for i := range z.Types {
			if more > 0 && len(z.Types[i].Abbr) < 15 {
				z.Types[i].Abbr += "B"
				more--
			}
		}
	}
	return z
}

// rightZones are just right.
func rightZones() []Zone {
	list := []Zone{
		of(Type{Abbr: "A"}),
		of(Type{Abbr: "A", Dst: true}),
		of(Type{Off: -89999, Abbr: "A"}),
		of(Type{Off: 93599, Abbr: "A"}),
		of(Type{Off: 93599, Abbr: "A"}, Type{Off: -89999, Abbr: "A"}),
		lettered(strings.Repeat("x", 15)),
		lettered(strings.Repeat("!", 15)),
		lettered(strings.Repeat("~", 15)),
		{Types: types(128)},
		full(16, 256),
		full(17, 256),
		full(127, 256),
		full(20, 255),
		{Types: types(1), Times: counted(4000), Index: make([]int, 4000)},
		timed(0),
		timed(-1, 0),
		timed(math.MinInt64),
		timed(math.MaxInt64),
		timed(math.MinInt64, math.MaxInt64),
		timed(math.MinInt64, math.MinInt64+1, math.MaxInt64-1, math.MaxInt64),
		indexed(0, 1, 1, 0, 0),
		{Types: types(128), Times: counted(2), Index: []int{127, 0}},
		footed("CET-1CEST,M3.5.0,M10.5.0/3"),
		footed(strings.Repeat("x", 100)),
		footed(strings.Repeat(" ", 100)),
		footed(strings.Repeat("~", 100)),
		// Empty lists are none.
		{Types: types(1), Times: []int64{}, Index: nil},
		{Types: types(1), Times: nil, Index: []int{}},
		someZone(),
	}
	for b := range 256 {
		if b >= 33 && b <= 126 {
			list = append(list, lettered(string([]byte{byte(b)})), lettered(string([]byte{'a', byte(b)})))
		}
		if b >= 32 && b <= 126 {
			list = append(list, footed(string([]byte{byte(b)})), footed(string([]byte{'a', byte(b), 'b'})))
		}
	}
	return list
}

// wrongZones are just not right.
func wrongZones() []Zone {
	long := strings.Repeat("x", 16)
	list := []Zone{
		{},
		{Types: []Type{}},
		{Times: []int64{1}, Index: []int{0}},
		{Types: types(129)},
		{Types: types(255)},
		{Types: types(256)},
		full(17, 257),
		full(127, 257),
		{Types: types(100000)},
		of(Type{Off: -90000, Abbr: "A"}),
		of(Type{Off: 93600, Abbr: "A"}),
		of(Type{Off: math.MinInt, Abbr: "A"}),
		of(Type{Off: math.MaxInt, Abbr: "A"}),
		of(Type{Abbr: "A"}, Type{Off: 93600, Abbr: "A"}),
		of(Type{Off: 1<<32 + 1, Abbr: "A"}),
		lettered(""),
		lettered(long),
		lettered(strings.Repeat("x", 255)),
		lettered(strings.Repeat("x", 1<<20)),
		of(Type{Abbr: "A"}, Type{}),
		of(Type{Abbr: "A"}, Type{Abbr: long}),
		{Types: types(1), Times: counted(4001), Index: make([]int, 4001)},
		{Types: types(1), Times: counted(4000), Index: make([]int, 4001)},
		{Types: types(1), Times: counted(4001), Index: make([]int, 4000)},
		{Types: types(1), Times: counted(1)},
		{Types: types(1), Index: make([]int, 1)},
		{Types: types(1), Times: counted(2), Index: make([]int, 1)},
		{Types: types(1), Times: counted(1), Index: make([]int, 2)},
		timed(1, 1),
		timed(1, 0),
		timed(0, -1),
		timed(0, 1, 1),
		timed(0, 0, 1),
		timed(0, 2, 1, 3),
		timed(math.MaxInt64, math.MinInt64),
		timed(math.MaxInt64, math.MaxInt64),
		timed(math.MinInt64, math.MinInt64),
		indexed(-1),
		indexed(2),
		indexed(math.MinInt),
		indexed(math.MaxInt),
		indexed(0, 1, 2),
		indexed(0, -1, 1),
		indexed(256),
		{Types: types(128), Times: counted(1), Index: []int{128}},
		footed(strings.Repeat("x", 101)),
		footed(strings.Repeat("x", 1<<20)),
		footed("\n"),
		footed("CET-1\n"),
	}
	for b := range 256 {
		if b < 33 || b > 126 {
			list = append(list, lettered(string([]byte{byte(b)})), lettered(string([]byte{'a', byte(b)})), lettered(string([]byte{byte(b), 'a'})))
		}
		if b < 32 || b > 126 {
			list = append(list, footed(string([]byte{byte(b)})), footed(string([]byte{'a', byte(b)})), footed(string([]byte{byte(b), 'a'})))
		}
	}
	// Letters that are none of ASCII.
	return append(list, lettered("é"), lettered("Ａ"), footed("é"), footed("Ａ"))
}

// P6.1
func TestRight(t *testing.T) {
	for i, z := range rightZones() {
		if !Right(z) {
			t.Errorf("%d is not right: %v", i, z)
		}
	}
	for i, z := range wrongZones() {
		if Right(z) {
			t.Errorf("%d is right: %v", i, z)
		}
	}
}

// P6.2, P6.3, P6.7
func TestPutAndParsed(t *testing.T) {
	for _, z := range rightZones() {
		b, err := Put(z)
		if err != api.OK {
			t.Errorf("Put(%v): %d", z, err)
		}
		tells(t, b, z)
	}
}

// P6.2, P6.5: zones that are not right.
func TestWrongZones(t *testing.T) {
	for i, z := range wrongZones() {
		if b, err := Put(z); err != api.ErrArg || len(b) > 0 {
			t.Errorf("Put of %d: %d bytes, %d", i, len(b), err)
		}
		for _, second := range []int64{math.MinInt64, -1, 0, 1, 2, 1000000, math.MaxInt64} {
			if got := At(z, second); got != 0 {
				t.Errorf("At(%d, %d) = %d", i, second, got)
			}
		}
	}
}

// P6.5: a type that is not Dst would be told, were the zone right.
func TestAtWrong(t *testing.T) {
	z := Zone{Types: []Type{{Dst: true, Abbr: "A"}, {Abbr: "B"}}, Times: []int64{10, 20}, Index: []int{1, 1}}
	at := func(z Zone) []int { return []int{At(z, 9), At(z, 10), At(z, 20), At(z, 21)} }
	if got := at(z); !slices.Equal(got, []int{1, 1, 1, 1}) {
		t.Errorf("%v", got)
	}
	for i, spoil := range []func(z Zone) Zone{
		func(z Zone) Zone { z.Footer = "\n"; return z },
		func(z Zone) Zone { z.Index = []int{1, 2}; return z },
		func(z Zone) Zone { z.Index = []int{1}; return z },
		func(z Zone) Zone { z.Index = []int{1, 1, 1}; return z },
		func(z Zone) Zone { z.Index = nil; return z },
		func(z Zone) Zone { z.Times = nil; return z },
		func(z Zone) Zone { z.Times = []int64{10, 10}; return z },
		func(z Zone) Zone { z.Types = []Type{{Dst: true}, {Abbr: "B"}}; return z },
		func(z Zone) Zone { z.Types = []Type{{Dst: true, Abbr: "A", Off: 93600}, {Abbr: "B"}}; return z },
	} {
		if got := at(spoil(z)); !slices.Equal(got, []int{0, 0, 0, 0}) {
			t.Errorf("%d: %v", i, got)
		}
	}
}

// told tells all that a zone has, so that nil and empty lists are told alike.
func told(z Zone) string {
	return fmt.Sprintf("%#v", Zone{append([]Type{}, z.Types...), append([]int64{}, z.Times...), append([]int{}, z.Index...), z.Footer})
}

// P6.4: each zone against each, right ones and wrong ones.
func TestSame(t *testing.T) {
	zones := slices.Concat(rightZones(), wrongZones())
	// Made anew, so that none shares its memory with the other.
	others := slices.Concat(rightZones(), wrongZones())
	var texts []string
	for _, z := range zones {
		texts = append(texts, told(z))
	}
	for i, a := range zones {
		for k, b := range others {
			if want := texts[i] == texts[k]; Same(a, b) != want {
				t.Fatalf("Same of %d and %d is not %v", i, k, want)
			}
		}
	}
}

// P6.4: all but one field are the same.
func TestSameButForOne(t *testing.T) {
	for i, change := range []func(z *Zone){
		func(z *Zone) { z.Types[0].Off++ },
		func(z *Zone) { z.Types[1].Off-- },
		func(z *Zone) { z.Types[0].Dst = true },
		func(z *Zone) { z.Types[1].Dst = false },
		func(z *Zone) { z.Types[0].Abbr = "CEt" },
		func(z *Zone) { z.Types[1].Abbr += "x" },
		func(z *Zone) { z.Types[1].Abbr = "" },
		func(z *Zone) { z.Types = append(z.Types, z.Types[0]) },
		func(z *Zone) { z.Types = z.Types[:1] },
		func(z *Zone) { z.Types = nil },
		func(z *Zone) { slices.Reverse(z.Types) },
		func(z *Zone) { z.Times[0]++ },
		func(z *Zone) { z.Times[1]-- },
		func(z *Zone) { z.Times = append(z.Times, 1<<40) },
		func(z *Zone) { z.Times = z.Times[:1] },
		func(z *Zone) { z.Times = nil },
		func(z *Zone) { z.Index[0] = 0 },
		func(z *Zone) { z.Index[1] = 1 },
		func(z *Zone) { z.Index = append(z.Index, 0) },
		func(z *Zone) { z.Index = z.Index[:1] },
		func(z *Zone) { z.Index = nil },
		func(z *Zone) { z.Footer = "" },
		func(z *Zone) { z.Footer += " " },
		func(z *Zone) { z.Footer = "CET-2" },
	} {
		z := someZone()
		if !Same(z, someZone()) {
			t.Fatalf("%v is not the same", z)
		}
		change(&z)
		if Same(z, someZone()) || Same(someZone(), z) {
			t.Errorf("%d: %v is the same", i, z)
		}
		if !Same(z, z) {
			t.Errorf("%d: %v is not the same as itself", i, z)
		}
	}
}

// P6.5
func TestAt(t *testing.T) {
	std, dst := Type{Abbr: "A"}, Type{Dst: true, Abbr: "B"}
	for i, x := range []struct {
		z    Zone
		at   []int64
		want []int
	}{
		{Zone{Types: []Type{std, dst, std}, Times: []int64{-10, 0, 7}, Index: []int{2, 1, 0}}, []int64{math.MinInt64, -11, -10, -9, -1, 0, 1, 6, 7, 8, math.MaxInt64}, []int{0, 0, 2, 2, 2, 1, 1, 1, 0, 0, 0}},
		{Zone{Types: []Type{dst, std}, Times: []int64{5}, Index: []int{0}}, []int64{4, 5, 6}, []int{1, 0, 0}},
		{Zone{Types: []Type{dst, dst, std, std}, Times: []int64{5}, Index: []int{3}}, []int64{4, 5, 6}, []int{2, 3, 3}},
		{Zone{Types: []Type{dst, dst, dst}, Times: []int64{5}, Index: []int{2}}, []int64{4, 5, 6}, []int{0, 2, 2}},
		{of(std), []int64{math.MinInt64, 0, math.MaxInt64}, []int{0, 0, 0}},
		{of(dst), []int64{math.MinInt64, 0, math.MaxInt64}, []int{0, 0, 0}},
		{of(dst, dst), []int64{math.MinInt64, 0, math.MaxInt64}, []int{0, 0, 0}},
		{of(dst, std, dst, std), []int64{math.MinInt64, 0, math.MaxInt64}, []int{1, 1, 1}},
		{of(std, dst), []int64{math.MinInt64, 0, math.MaxInt64}, []int{0, 0, 0}},
		{timed(math.MinInt64), []int64{math.MinInt64, 0, math.MaxInt64}, []int{1, 1, 1}},
		{timed(math.MaxInt64), []int64{math.MinInt64, math.MaxInt64 - 1, math.MaxInt64}, []int{0, 0, 1}},
		// The footer's rule says nothing here.
		{Zone{Types: []Type{std, dst}, Footer: "B-2"}, []int64{-1, 0, 1 << 40}, []int{0, 0, 0}},
	} {
		for k, at := range x.at {
			if got := At(x.z, at); got != x.want[k] {
				t.Errorf("%d: At(%d) = %d, not %d", i, at, got, x.want[k])
			}
		}
	}
}

// P6.5: below, at and above each of many times, of each count up to some, against a search from the first one on.
func TestAtEach(t *testing.T) {
	for _, n := range append(counted(20), 127, 128, 129, 1000, 4000) {
		z := Zone{Types: slices.Concat([]Type{{Dst: true, Abbr: "S"}}, types(40))}
		for i := range n {
			z.Times = append(z.Times, 10*i-500)
			z.Index = append(z.Index, int(i*7%41))
		}
		// So many seconds around a time are enough, as the times are alike.
		for at := int64(-505); at < 10*n-480; at++ {
			want := 1
			if begun := slices.IndexFunc(z.Times, func(time int64) bool { return time > at }); begun > 0 {
				want = z.Index[begun-1]
			} else if begun < 0 && n > 0 {
				want = z.Index[n-1]
			}
			if n > 1000 && at > 100 && at%997 > 3 {
				continue
			}
			if got := At(z, at); got != want {
				t.Fatalf("At(%d times, %d) = %d, not %d", n, at, got, want)
			}
		}
	}
}

// roomy is a zone whose lists have something behind their lengths, and those lists whole.
func roomy() (Zone, Zone) {
	whole := Zone{
		Types: []Type{{Off: 3600, Abbr: "CET"}, {Off: -7200, Dst: true, Abbr: "CEST"}, {Off: 1, Abbr: "X"}, {Off: 2, Abbr: "Y"}},
		Times: []int64{-5, 1 << 30, 77, 78},
		Index: []int{1, 0, 5, 6},
	}
	return Zone{Types: whole.Types[:2], Times: whole.Times[:2], Index: whole.Index[:2], Footer: "CET-1"}, whole
}

// P6.6: zones that are handed in are only read, behind their lists' lengths too.
func TestZoneOnlyRead(t *testing.T) {
	z, whole := roomy()
	_, want := roomy()
	Right(z)
	b, err := Put(z)
	Same(z, z)
	for _, at := range []int64{-6, -5, 0, 1 << 40} {
		At(z, at)
	}
	if !Same(whole, want) || !Same(z, someZone()) || err != api.OK {
		t.Errorf("%v, %v", z, whole)
	}
	tells(t, b, z)
}

// P6.6: bytes that are handed in are only read, behind their length too.
func TestBytesOnlyRead(t *testing.T) {
	for _, b := range lotFiles() {
		for cut := range len(b) + 1 {
			memory := append(slices.Clone(b), "behind"...)
			Parse(memory[:cut])
			if string(memory) != string(b)+"behind" {
				t.Fatalf("Parse(%q, cut at %d) has changed it", b, cut)
			}
		}
	}
}

// spoilZone changes all that a zone's lists have, behind their lengths too.
func spoilZone(z Zone) {
	for i := range z.Types[:cap(z.Types)] {
		z.Types[:cap(z.Types)][i] = Type{Off: 99, Abbr: "?"}
	}
	for i := range z.Times[:cap(z.Times)] {
		z.Times[:cap(z.Times)][i] = -99
	}
	for i := range z.Index[:cap(z.Index)] {
		z.Index[:cap(z.Index)][i] = 99
	}
}

func spoilBytes(b []byte) {
	for i := range b[:cap(b)] {
		b[:cap(b)][i] = '?'
	}
}

// P6.6: what is answered is new memory.
func TestNewMemory(t *testing.T) {
	z := someZone()
	b, _ := Put(z)
	want := slices.Clone(b)
	spoilZone(z)
	if !slices.Equal(b, want) {
		t.Errorf("Put's answer shares memory with its zone")
	}
	first, _ := Put(someZone())
	spoilBytes(b)
	second, _ := Put(someZone())
	if !slices.Equal(first, want) || !slices.Equal(second, want) {
		t.Errorf("Put's answers share memory")
	}
	one, _ := Parse(first)
	other, _ := Parse(first)
	spoilBytes(first)
	if !Same(one, someZone()) {
		t.Errorf("Parse's answer shares memory with the bytes: %v", one)
	}
	spoilZone(one)
	if !Same(other, someZone()) {
		t.Errorf("Parse's answers share memory: %v", other)
	}
	again, _ := Parse(second)
	if !Same(again, someZone()) {
		t.Errorf("Parse has kept something: %v", again)
	}
}

// P6.6: two lists of one answer share no memory, nor do types that share their letters.
func TestNoSharing(t *testing.T) {
	p := some('2')
	p.types[1].place = 0
	z, _ := Parse(long(p, p, ""))
	z.Types[0] = Type{Off: 9, Abbr: "other"}
	z.Times = append(z.Times[:1], 99)
	if z.Types[1] != (Type{Off: -7200, Dst: true, Abbr: "CET"}) || z.Index[0] != 1 || z.Index[1] != 0 {
		t.Errorf("%v", z)
	}
}

// The chapter's examples, in its order.
func TestExamples(t *testing.T) {
	if b, err := Put(lettered("UTC")); len(b) != 107 || err != api.OK {
		t.Errorf("Put: %d bytes, %d", len(b), err)
	}
	isNone(t, []byte("TZif"))
	z := Zone{Types: []Type{{Abbr: "A"}, {Dst: true, Abbr: "B"}}, Times: []int64{100}, Index: []int{1}}
	if At(z, 99) != 0 || At(z, 100) != 1 {
		t.Errorf("At: %d, %d", At(z, 99), At(z, 100))
	}
}
