package vfs

import (
	"bytes"
	"math"
	"math/big"
	"slices"
	"strconv"
	"strings"
	"testing"

	"clepsydra/api"
)

// run does a call that is told by words, of those that answer errors: "write /a/x 12" writes the contents 12, "write /a/x" none.
func run(f *FS, call string) api.Errno {
	words := append(strings.Split(call, " "), "", "")
	path := words[1]
	var err api.Errno
	switch words[0] {
	case "mkdir":
		err = f.Mkdir(path)
	case "write":
		err = f.Write(path, []byte(words[2]))
	case "sync":
		err = f.Sync(path)
	case "syncdir":
		err = f.SyncDir(path)
	case "rename":
		err = f.Rename(path, words[2])
	case "remove":
		err = f.Remove(path)
	case "read":
		_, err = f.Read(path)
	case "list":
		_, err = f.List(path)
	default:
		panic(call)
	}
	return err
}

// calls are the eight that answer errors, of one path (and another one to rename it to).
func calls(path, other string) []string {
	return []string{
		"mkdir " + path, "write " + path + " 1", "sync " + path, "syncdir " + path,
		"rename " + path + " " + other, "remove " + path, "read " + path, "list " + path,
	}
}

// does fails unless all calls answer OK.
func does(t *testing.T, f *FS, list ...string) {
	t.Helper()
	for _, call := range list {
		if err := run(f, call); err != api.OK {
			t.Fatalf("%s: %d", call, err)
		}
	}
}

// made is one with room for 100 bytes, with which calls were done.
func made(t *testing.T, list ...string) *FS {
	t.Helper()
	f := New(100)
	does(t, f, list...)
	return f
}

// tested are the directories that tell asks for.
func tested() []string { return []string{"/", "/a", "/a-", "/a/b", "/b", "/c"} }

// tell tells all files and their contents, of one that is up, and how many bytes there are.
func tell(f *FS) string {
	f = f.Copy()
	f.CrashAt(0)
	if f.Down() {
		return "down"
	}
	var words []string
	for _, dir := range tested() {
		names, err := f.List(dir)
		if err == api.OK {
			words = append(words, dir)
		}
		for _, name := range names {
			b, err := f.Read(strings.TrimSuffix(dir, "/") + "/" + name)
			words = append(words, name+"="+string(b))
			if err != api.OK {
				words = append(words, "error "+strconv.Itoa(int(err)))
			}
		}
	}
	return strings.Join(append(words, strconv.Itoa(f.Used())), " ")
}

// after is what is told when it has come up by a choice.
func after(f *FS, choice int64) string {
	f = f.Copy()
	f.Reboot(choice)
	return tell(f)
}

// whole tells all that can be found out by choices: what there is, and what there would be behind crashes.
func whole(f *FS) string {
	words := []string{tell(f), strconv.FormatBool(f.Down())}
	for choice := range int64(24) {
		words = append(words, after(f, choice))
	}
	for _, choice := range []int64{100, 255, 1000, 4711, 65535, 1234567, -1} {
		words = append(words, after(f, choice))
	}
	return strings.Join(words, "\n")
}

// comesUp fails unless it tells that behind each choice: the first choice is 0.
func comesUp(t *testing.T, f *FS, want ...string) {
	t.Helper()
	for choice, x := range want {
		if got := after(f, int64(choice)); got != x {
			t.Errorf("choice %d: %q, not %q", choice, got, x)
		}
	}
}

func is(t *testing.T, f *FS, want string) {
	t.Helper()
	if got := tell(f); got != want {
		t.Errorf("it is %q, not %q", got, want)
	}
}

// refuses fails unless a call answers that error and changes nothing.
func refuses(t *testing.T, f *FS, call string, want api.Errno) {
	t.Helper()
	ahead := whole(f)
	if got := run(f, call); got != want {
		t.Errorf("%q: %d, not %d", call, got, want)
	}
	if whole(f) != ahead {
		t.Errorf("%q has changed something", call)
	}
}

// some is one with directories /, /a, /a/b, and files /x, /a/x and /a/y.
func some(t *testing.T) *FS {
	t.Helper()
	return made(t, "mkdir /a", "mkdir /a/b", "write /x 123", "write /a/x 45", "write /a/y 6")
}

// P5.1: nothing but / is there, and there is room for so many bytes, 0 at least.
func TestNew(t *testing.T) {
	for _, most := range []int{math.MinInt, -65536, -1, 0, 1, 2, 10, 65535, 65536, math.MaxInt} {
		f := New(most)
		if f.Used() != 0 || f.Down() {
			t.Errorf("New(%d): %d, %v", most, f.Used(), f.Down())
		}
		is(t, f, "/ 0")
		does(t, f, "write /x", "remove /x")
		room := min(max(most, 0), api.MaxFile)
		if err := f.Write("/x", make([]byte, room)); err != api.OK {
			t.Errorf("New(%d): %d bytes: %d", most, room, err)
		}
		if most < api.MaxFile {
			if err := f.Write("/x", make([]byte, room+1)); err != api.ErrSpace {
				t.Errorf("New(%d): a byte too many: %d", most, err)
			}
		}
		if f.Used() != room {
			t.Errorf("New(%d): %d bytes, not %d", most, f.Used(), room)
		}
	}
}

// P5.2 to P5.5: what is no path is told first, and changes nothing.
func TestNoPath(t *testing.T) {
	long := strings.Repeat("n", 65)
	for _, path := range []string{
		"", "a", "x", "a/x", "//", "///", "/a/", "/x/", "//a", "//x", "/a//x", "/a///x", "/a/x/", "/a/x//", "\x00", "/\x00", "/a/\x00", "/\x00/x",
		"/x\x00", "/\x00x", "/a\x00/x", "/a/x\x00y", "/" + long, "/" + long + "/x", "/a/" + long, "/a/" + long + long, "./a", "../a", "/" + strings.Repeat("ü", 33),
		strings.Repeat("/", 70000), strings.Repeat("x", 70000), "/" + strings.Repeat("x", 70000),
	} {
		f := some(t)
		for _, call := range calls(path, "/a/z") {
			refuses(t, f, call, api.ErrArg)
		}
		for _, from := range []string{"/x", "/a", "/none", "/none/x", "/", path} {
			refuses(t, f, "rename "+from+" "+path, api.ErrArg)
		}
		if b, err := f.Read(path); len(b) > 0 || err != api.ErrArg {
			t.Errorf("Read(%q) = %q, %d", path, b, err)
		}
		if l, err := f.List(path); len(l) > 0 || err != api.ErrArg {
			t.Errorf("List(%q) = %q, %d", path, l, err)
		}
	}
}

// P5.2 to P5.5: / is no path but for SyncDir and List.
func TestRoot(t *testing.T) {
	f := some(t)
	for _, call := range []string{"mkdir /", "write / 1", "write /", "sync /", "rename / /z", "rename /x /", "rename / /", "rename /a /", "remove /", "read /"} {
		refuses(t, f, call, api.ErrArg)
	}
	does(t, f, "syncdir /", "list /")
	comesUp(t, f, "/ x= /a /a/b 0")
	if l, err := f.List("/"); err != api.OK || !slices.Equal(l, []string{"x"}) {
		t.Errorf("List(/) = %q, %d", l, err)
	}
}

// goodPath fails unless a path is one, of a file and of a directory.
func goodPath(t *testing.T, path string) {
	t.Helper()
	f := New(10)
	err := []api.Errno{f.Write(path, []byte("1")), f.Sync(path), f.Rename(path, path), f.Remove(path), f.Mkdir(path), f.Write(path+"/x", nil), f.SyncDir(path)}
	l, listErr := f.List(path)
	if !slices.Equal(err, make([]api.Errno, 7)) || listErr != api.OK || !slices.Equal(l, []string{"x"}) {
		t.Errorf("%q: %v, %q, %d", path, err, l, listErr)
	}
}

// P5.2 to P5.5: what is a path: names of 1 to 64 bytes, whichever, but 0 and /.
func TestPath(t *testing.T) {
	for n := 1; n <= 64; n++ {
		goodPath(t, "/"+strings.Repeat("n", n))
	}
	for b := range 256 {
		if b != 0 && b != '/' {
			goodPath(t, "/"+string([]byte{byte(b)}))
			goodPath(t, "/x"+string([]byte{byte(b)}))
		}
	}
	for _, path := range []string{"/.", "/..", "/...", "/ ", "/a b\n", "/\xff\xfe", "/" + strings.Repeat("ü", 32), "/-", "/*", "/A", "/\\"} {
		goodPath(t, path)
	}
	// Names are bytes: these are all others.
	f := made(t, "mkdir /a", "mkdir /a/..", "write /a/. 1", "write /a/../x 2", "write /x 3", "write /X 4", "write /\xff 5", "write /\xfe 6")
	if l, err := f.List("/"); err != api.OK || !slices.Equal(l, []string{"X", "x", "\xfe", "\xff"}) {
		t.Errorf("List(/) = %q, %d", l, err)
	}
	is(t, f, "/ X=4 x=3 \xfe=6 \xff=5 /a .=1 6")
}

// P5.2: a path of as many names as there may be directories, with names of 64 bytes.
func TestDeepPath(t *testing.T) {
	f := New(10)
	path := ""
	for range 255 {
		path += "/" + strings.Repeat("n", 64)
		if err := f.Mkdir(path); err != api.OK {
			t.Fatal(err)
		}
	}
	if err := f.Write(path+"/x", []byte("1")); err != api.OK {
		t.Fatal(err)
	}
	does(t, f, "sync "+path+"/x", "syncdir "+path)
	f.Reboot(0)
	if b, err := f.Read(path + "/x"); err != api.OK || string(b) != "1" {
		t.Errorf("%q, %d", b, err)
	}
}

// P5.2 to P5.5: the errors of each call, in the order in which they are named.
func TestErrors(t *testing.T) {
	for _, x := range []struct {
		call string
		want api.Errno
	}{
		{"mkdir /none/z", api.ErrNoent},
		{"mkdir /none/a", api.ErrNoent},
		{"mkdir /a/none/z", api.ErrNoent},
		{"mkdir /x/z", api.ErrNoent}, // above is a file's
		{"mkdir /a/x/z", api.ErrNoent},
		{"mkdir /a", api.ErrIsDir},
		{"mkdir /a/b", api.ErrIsDir},
		{"mkdir /x", api.ErrIsDir},
		{"mkdir /a/x", api.ErrIsDir},

		{"write /none/z 1", api.ErrNoent},
		{"write /none/x", api.ErrNoent},
		{"write /x/z 1", api.ErrNoent},
		{"write /a/y/z 1", api.ErrNoent},
		{"write /a 1", api.ErrIsDir},
		{"write /a", api.ErrIsDir},
		{"write /a/b 1", api.ErrIsDir},

		{"sync /a", api.ErrIsDir},
		{"sync /a/b", api.ErrIsDir},
		{"sync /none", api.ErrNoent},
		{"sync /a/none", api.ErrNoent},
		{"sync /none/x", api.ErrNoent},
		{"sync /x/z", api.ErrNoent},
		{"sync /y", api.ErrNoent}, // that is another directory's

		{"read /a", api.ErrIsDir},
		{"read /a/b", api.ErrIsDir},
		{"read /none", api.ErrNoent},
		{"read /a/none", api.ErrNoent},
		{"read /none/x", api.ErrNoent},
		{"read /x/z", api.ErrNoent},
		{"read /y", api.ErrNoent},

		{"syncdir /x", api.ErrIsDir},
		{"syncdir /a/x", api.ErrIsDir},
		{"syncdir /none", api.ErrNoent},
		{"syncdir /a/none", api.ErrNoent},
		{"syncdir /none/a", api.ErrNoent},
		{"syncdir /x/z", api.ErrNoent},
		{"syncdir /b", api.ErrNoent},

		{"list /x", api.ErrIsDir},
		{"list /a/x", api.ErrIsDir},
		{"list /none", api.ErrNoent},
		{"list /a/none", api.ErrNoent},
		{"list /none/a", api.ErrNoent},
		{"list /x/z", api.ErrNoent},
		{"list /b", api.ErrNoent},

		{"remove /a", api.ErrIsDir},
		{"remove /a/b", api.ErrIsDir},
		{"remove /none", api.ErrNoent},
		{"remove /a/none", api.ErrNoent},
		{"remove /none/x", api.ErrNoent},
		{"remove /x/z", api.ErrNoent},
		{"remove /y", api.ErrNoent},

		{"rename /a /z", api.ErrIsDir},
		{"rename /a /a", api.ErrIsDir},
		{"rename /x /a", api.ErrIsDir},
		{"rename /none /a", api.ErrIsDir},
		{"rename /none/x /a", api.ErrIsDir},
		{"rename /a /none/x", api.ErrIsDir},
		{"rename /a/b /z", api.ErrIsDir},
		{"rename /x /a/b", api.ErrIsDir},
		{"rename /a /a/b", api.ErrIsDir},
		{"rename /none /z", api.ErrNoent},
		{"rename /none /none", api.ErrNoent},
		{"rename /none /x", api.ErrNoent},
		{"rename /none /a/x", api.ErrNoent},
		{"rename /none/x /none/y", api.ErrNoent},
		{"rename /y /a/y", api.ErrNoent},
		{"rename /x/z /x", api.ErrNoent},
		{"rename /x /a/x", api.ErrArg},
		{"rename /x /a/z", api.ErrArg},
		{"rename /a/x /x", api.ErrArg},
		{"rename /a/x /a/b/x", api.ErrArg},
		{"rename /x /none/x", api.ErrArg},
		{"rename /x /x/z", api.ErrArg},
	} {
		refuses(t, some(t), x.call, x.want)
	}
}

// P5.4: what a call that answers an error tells is nothing.
func TestNothingBesideErrors(t *testing.T) {
	f := some(t)
	for _, path := range []string{"/a", "/none", "/x/z", "", "/"} {
		if b, err := f.Read(path); len(b) > 0 || err == api.OK {
			t.Errorf("Read(%q) = %q, %d", path, b, err)
		}
	}
	for _, path := range []string{"/x", "/none", "/x/z", ""} {
		if l, err := f.List(path); len(l) > 0 || err == api.OK {
			t.Errorf("List(%q) = %q, %d", path, l, err)
		}
	}
}

// P5.2, P5.6: 256 directories, / too; they are durable once they are made.
func TestMkdirLimit(t *testing.T) {
	f := New(10)
	for n := range 255 {
		does(t, f, "mkdir /"+strconv.Itoa(n))
	}
	for range 2 {
		refuses(t, f, "mkdir /255", api.ErrLimit)
		refuses(t, f, "mkdir /0/x", api.ErrLimit)
		refuses(t, f, "mkdir /0", api.ErrIsDir)
		refuses(t, f, "mkdir /none/x", api.ErrNoent)
		does(t, f, "write /x", "syncdir /")
		refuses(t, f, "mkdir /x", api.ErrIsDir)
		for n := range 255 {
			does(t, f, "list /"+strconv.Itoa(n))
		}
		f.Reboot(0)
	}
}

// P5.3: 256 files, in whichever directories.
func TestFilesLimit(t *testing.T) {
	f := New(api.MaxFile * 2)
	does(t, f, "mkdir /a")
	for n := range 128 {
		does(t, f, "write /"+strconv.Itoa(n), "write /a/"+strconv.Itoa(n))
	}
	refuses(t, f, "write /128", api.ErrLimit)
	refuses(t, f, "write /a/128 1", api.ErrLimit)
	refuses(t, f, "write /none/x", api.ErrNoent)
	refuses(t, f, "write /a 1", api.ErrIsDir)
	// Those that are there may be written, and another one behind each that is gone.
	does(t, f, "write /0 12", "write /a/127", "rename /1 /x", "remove /2", "write /2 1")
	refuses(t, f, "write /128", api.ErrLimit)
	does(t, f, "rename /3 /4", "write /a/128 1")
	refuses(t, f, "write /128", api.ErrLimit)
	does(t, f, "mkdir /b")
}

// P5.3: a file has 65536 bytes at most, and a limit is told ahead of too little room.
func TestFileLimit(t *testing.T) {
	whole, more := make([]byte, 65536), make([]byte, 65537)
	for _, x := range []struct {
		room  int
		path  string
		bytes []byte
		want  api.Errno
	}{
		{65536, "/z", whole, api.OK},
		{65535, "/z", whole, api.ErrSpace},
		{65537, "/z", more, api.ErrLimit},
		{0, "/z", more, api.ErrLimit},
		{65537, "/a", more, api.ErrIsDir},
		{65537, "/none/z", more, api.ErrNoent},
		{65537, "z", more, api.ErrArg},
	} {
		f := New(x.room)
		does(t, f, "mkdir /a")
		if err := f.Write(x.path, x.bytes); err != x.want {
			t.Errorf("room %d, %s, %d bytes: %d, not %d", x.room, x.path, len(x.bytes), err, x.want)
		}
		if x.want == api.OK {
			for i := range x.bytes {
				x.bytes[i] = byte(i * 7)
			}
			if err := f.Write(x.path, x.bytes); err != api.OK {
				t.Error(err)
			}
			if err := f.Write(x.path, more); err != api.ErrLimit {
				t.Errorf("a byte more: %d", err)
			}
			if b, err := f.Read(x.path); err != api.OK || !bytes.Equal(b, x.bytes) || f.Used() != 65536 {
				t.Errorf("%d bytes, %d", len(b), err)
			}
		}
	}
	// One file too many, and no room for it.
	f := New(256)
	for n := range 256 {
		does(t, f, "write /"+strconv.Itoa(n)+" 1")
	}
	refuses(t, f, "write /256 1", api.ErrLimit)
	refuses(t, f, "write /0 12", api.ErrSpace)
}

// P5.3, P5.7: room that is enough, and a byte too little; it is the bytes of the files that there are now.
func TestRoom(t *testing.T) {
	f := New(5)
	does(t, f, "mkdir /a", "write /a/x 123", "write /y 45")
	is(t, f, "/ y=45 /a x=123 5")
	refuses(t, f, "write /z 6", api.ErrSpace)
	refuses(t, f, "write /y 456", api.ErrSpace)
	refuses(t, f, "write /a/x 1234", api.ErrSpace)
	does(t, f, "write /z", "write /y 54", "write /a/x 12")
	is(t, f, "/ y=54 z= /a x=12 4")
	refuses(t, f, "write /y 5432", api.ErrSpace)
	does(t, f, "write /y 543")
	is(t, f, "/ y=543 z= /a x=12 5")
	does(t, f, "remove /y")
	is(t, f, "/ z= /a x=12 2")
	does(t, f, "write /z 345", "rename /z /y", "write /a/z", "rename /a/z /a/x")
	is(t, f, "/ y=345 /a x= 3")
	refuses(t, f, "write /a/x 123", api.ErrSpace)
	does(t, f, "write /a/x 12")
	is(t, f, "/ y=345 /a x=12 5")
	// A write that is told ErrSpace makes no file, and there is no directory above, or it is one: that is told first.
	refuses(t, f, "write /new 1", api.ErrSpace)
	refuses(t, f, "write /none/x 1", api.ErrNoent)
	refuses(t, f, "write /a 1", api.ErrIsDir)
	refuses(t, f, "sync /new", api.ErrNoent)
}

// P5.3, P5.6, P5.7: a crash may bring back more bytes and files than there is room for: of those that are there the words hold.
func TestTooMuchBehindCrash(t *testing.T) {
	f := New(5)
	does(t, f, "mkdir /a", "write /x 12345", "sync /x", "syncdir /", "remove /x", "write /a/x 678", "sync /a/x", "syncdir /a")
	is(t, f, "/ /a x=678 3")
	f.Reboot(0)
	is(t, f, "/ x=12345 /a x=678 8")
	// Also when it is made shorter by that, or no byte longer.
	refuses(t, f, "write /y 1", api.ErrSpace)
	refuses(t, f, "write /y", api.ErrSpace)
	refuses(t, f, "write /x 54321", api.ErrSpace)
	refuses(t, f, "write /x 123", api.ErrSpace)
	does(t, f, "write /x 12", "write /y")
	is(t, f, "/ x=12 y= /a x=678 5")

	f = New(5)
	does(t, f, "mkdir /a")
	for n := range 256 {
		does(t, f, "write /a/"+strconv.Itoa(n))
	}
	does(t, f, "syncdir /a")
	for n := range 256 {
		does(t, f, "remove /a/"+strconv.Itoa(n), "write /"+strconv.Itoa(n))
	}
	does(t, f, "syncdir /")
	f.Reboot(0)
	does(t, f, "write /0 1", "write /a/255 2")
	refuses(t, f, "write /256", api.ErrLimit)
	for n := range 256 {
		does(t, f, "remove /"+strconv.Itoa(n))
	}
	refuses(t, f, "write /256", api.ErrLimit)
	does(t, f, "remove /a/0", "write /256")
}

// P5.3: a file is written anew, with more and with fewer bytes.
func TestWriteAnew(t *testing.T) {
	f := New(100)
	for _, contents := range []string{"123", "12345", "1", "", "", "abc", "\x00\xff/\n", "12345"} {
		does(t, f, "write /x "+contents)
		if b, err := f.Read("/x"); err != api.OK || string(b) != contents || f.Used() != len(contents) {
			t.Errorf("%q: %q, %d, %d", contents, b, err, f.Used())
		}
	}
	is(t, f, "/ x=12345 5")
	for _, none := range [][]byte{nil, {}} {
		does(t, f, "write /x 1")
		if err := f.Write("/x", none); err != api.OK {
			t.Error(err)
		}
		is(t, f, "/ x= 0")
	}
}

// P5.4: the names of a directory's files, sorted by their bytes; not those of directories, nor of others' files.
func TestList(t *testing.T) {
	f := made(t, "mkdir /a", "mkdir /a/b", "mkdir /ab")
	for _, dir := range []string{"/", "/a", "/a/b", "/ab"} {
		if l, err := f.List(dir); err != api.OK || len(l) != 0 {
			t.Errorf("List(%s) = %q, %d", dir, l, err)
		}
	}
	does(t, f, "write /a/10", "write /a/9", "write /a/b/c", "write /a/1", "write /a/B", "write /a/bb", "write /a/\xff", "write /a/.x", "write /ab/q", "write /r", "write /a/ü")
	for dir, want := range map[string][]string{
		"/":    {"r"},
		"/a":   {".x", "1", "10", "9", "B", "bb", "ü", "\xff"},
		"/a/b": {"c"},
		"/ab":  {"q"},
	} {
		for range 20 {
			if l, err := f.List(dir); err != api.OK || !slices.Equal(l, want) {
				t.Fatalf("List(%s) = %q, %d, not %q", dir, l, err, want)
			}
		}
	}
}

// P5.4: Read and List change nothing.
func TestReadAndListChangeNothing(t *testing.T) {
	f := some(t)
	ahead := whole(f)
	for _, call := range []string{"read /x", "read /a/x", "list /", "list /a", "list /a/b"} {
		does(t, f, call)
	}
	if whole(f) != ahead {
		t.Error("something has changed")
	}
}

// P5.5: to a name that no one has, to one that another has, and back.
func TestRename(t *testing.T) {
	f := made(t, "mkdir /a", "write /x 1", "write /y 23", "write /a/x 456")
	does(t, f, "rename /x /z")
	is(t, f, "/ y=23 z=1 /a x=456 6")
	does(t, f, "rename /z /y")
	is(t, f, "/ y=1 /a x=456 4")
	refuses(t, f, "read /z", api.ErrNoent)
	refuses(t, f, "rename /z /y", api.ErrNoent)
	does(t, f, "rename /a/x /a/y", "rename /a/y /a/x", "rename /y /x")
	is(t, f, "/ x=1 /a x=456 4")
	does(t, f, "write /y 2", "rename /x /t", "rename /y /x", "rename /t /y")
	is(t, f, "/ x=2 y=1 /a x=456 5")
}

// P5.5: of from and to the same nothing happens, and no step waits.
func TestRenameToItself(t *testing.T) {
	f := made(t, "mkdir /a", "write /a/x 12", "write /y 3", "sync /y", "syncdir /")
	ahead := whole(f)
	does(t, f, "rename /a/x /a/x", "rename /y /y", "rename /y /y")
	if whole(f) != ahead {
		t.Error("something has changed")
	}
	comesUp(t, f, "/ y=3 /a 1", "/ y=3 /a x= 1", "/ y=3 /a 1", "/ y=3 /a x= 1", "/ y=3 /a 1", "/ y=3 /a x=1 2", "/ y=3 /a 1", "/ y=3 /a x=12 3")
}

// P5.5: what is removed is gone, and its name may be a directory's or another file's.
func TestRemove(t *testing.T) {
	f := made(t, "mkdir /a", "write /x 1", "write /y 23", "write /a/x 456", "remove /x")
	is(t, f, "/ y=23 /a x=456 5")
	refuses(t, f, "remove /x", api.ErrNoent)
	does(t, f, "write /x 7", "remove /y", "mkdir /b", "remove /a/x")
	is(t, f, "/ x=7 /a /b 1")
	does(t, f, "write /b/y 8", "remove /b/y", "remove /x")
	is(t, f, "/ /a /b 0")
}

// P5.6: each of the eight is an operation, also if it answers an error, and no other call is.
func TestEachIsAnOperation(t *testing.T) {
	good := []string{"mkdir /c", "write /a/z 1", "write /x 1", "sync /x", "syncdir /a", "rename /x /y", "rename /x /x", "remove /x", "read /x", "list /"}
	bad := slices.Concat(calls("none", "/z"), calls("/none/x", "/z"), calls("", ""), []string{"mkdir /a", "write /a 1", "read /a", "list /x", "rename /x /a/x", "rename /x none", "sync /"})
	for _, call := range slices.Concat(good, bad) {
		for _, last := range slices.Concat(good, bad) {
			f := some(t)
			f.CrashAt(2)
			err := run(f, call)
			if f.Down() || err == api.ErrCrash || (err == api.OK) != slices.Contains(good, call) {
				t.Fatalf("%s: %d, %v", call, err, f.Down())
			}
			f.Used()
			f.Down()
			f.Copy().Reboot(0)
			up := f.Copy()
			up.CrashAt(0)
			want := whole(up)
			if err := run(f, last); err != api.ErrCrash || !f.Down() {
				t.Fatalf("%s, %s: %d, %v", call, last, err, f.Down())
			}
			if got := whole(f); strings.SplitN(got, "\n", 3)[2] != strings.SplitN(want, "\n", 3)[2] {
				t.Fatalf("%s, %s: it did something", call, last)
			}
		}
	}
}

// P5.6: the n-th from here on; below 1 none; what was asked for ahead of it counts no more.
func TestCrashAt(t *testing.T) {
	for n := int64(1); n < 20; n++ {
		f := New(10)
		f.CrashAt(n)
		for i := range n - 1 {
			if err := f.Write("/x", nil); err != api.OK || f.Down() {
				t.Fatalf("CrashAt(%d), %d: %d, %v", n, i+1, err, f.Down())
			}
		}
		if err := f.Write("/x", nil); err != api.ErrCrash || !f.Down() {
			t.Fatalf("CrashAt(%d): %d, %v", n, err, f.Down())
		}
	}
	for _, n := range []int64{0, -1, -2, math.MinInt64, math.MaxInt64, 1 << 32, 1 << 40, 1 << 63 >> 1} {
		f := New(10)
		for _, ahead := range []int64{1, 2, 0} {
			f.CrashAt(ahead)
			f.CrashAt(n)
			for range 100 {
				if err := f.Write("/x", nil); err != api.OK || f.Down() {
					t.Fatalf("CrashAt(%d): %d, %v", n, err, f.Down())
				}
			}
		}
	}
	f := New(10)
	f.CrashAt(2)
	does(t, f, "write /x")
	f.CrashAt(3)
	does(t, f, "write /x", "list /")
	if err := run(f, "read /x"); err != api.ErrCrash || !f.Down() {
		t.Error(err)
	}
}

// P5.6: while it is down all that answers errors answers ErrCrash, whatever it is given, and does nothing.
func TestDown(t *testing.T) {
	f := some(t)
	f.CrashAt(1)
	if f.Down() {
		t.Error("it is down ahead of the operation")
	}
	if err := run(f, "write /x 99999"); err != api.ErrCrash || !f.Down() {
		t.Fatal(err)
	}
	ahead, used := whole(f), f.Used()
	list := slices.Concat(calls("/x", "/z"), calls("/a", "/z"), calls("/new", "/z"), calls("", ""), calls("none", "/z"), calls("/none/x", "/y"), calls("/", "/"), []string{"rename /x none", "rename /x /a/x"})
	for range 2 {
		for _, call := range list {
			if err := run(f, call); err != api.ErrCrash || !f.Down() {
				t.Errorf("%q: %d, %v", call, err, f.Down())
			}
		}
		if b, err := f.Read("/x"); len(b) > 0 || err != api.ErrCrash {
			t.Errorf("Read: %q, %d", b, err)
		}
		if l, err := f.List("/"); len(l) > 0 || err != api.ErrCrash {
			t.Errorf("List: %q, %d", l, err)
		}
		// A crash that is asked for or not brings it up no more than time does.
		f.CrashAt(0)
	}
	if used != 6 || f.Used() != used || whole(f) != ahead {
		t.Error("something has changed")
	}
	f.CrashAt(3)
	f.Reboot(0)
	for range 10 {
		does(t, f, "list /", "list /a")
	}
	is(t, f, "/ /a /a/b 0")
}

// P5.6: Reboot when it is not down; a crash that is still to come is gone.
func TestRebootWhenUp(t *testing.T) {
	f := made(t, "write /x 1", "sync /x", "syncdir /", "write /x 23", "write /y 4")
	f.CrashAt(1)
	f.Reboot(0)
	if f.Down() {
		t.Error("down")
	}
	is(t, f, "/ x=1 1")
	for range 10 {
		does(t, f, "write /x 5")
	}
	f.CrashAt(1)
	if err := run(f, "list /"); err != api.ErrCrash {
		t.Error(err)
	}
}

// P5.6: of the steps of a directory that wait the first ones are taken, as many as are picked.
func TestStepsThatWait(t *testing.T) {
	ahead := []string{"mkdir /a", "write /a/x old", "sync /a/x", "syncdir /a"}
	for _, x := range []struct {
		name  string
		calls []string
		want  []string
	}{
		{"none waits", nil, []string{"/ /a x=old 3", "/ /a x=old 3", "/ /a x=old 3"}},
		{"a new one", []string{"write /a/y 1", "sync /a/y"},
			[]string{"/ /a x=old 3", "/ /a x=old y=1 4", "/ /a x=old 3"}},
		{"written twice", []string{"write /a/y 1", "sync /a/y", "write /a/y 2", "sync /a/y"},
			[]string{"/ /a x=old 3", "/ /a x=old y=2 4", "/ /a x=old 3"}},
		{"removed", []string{"remove /a/x"},
			[]string{"/ /a x=old 3", "/ /a 0", "/ /a x=old 3"}},
		{"renamed", []string{"rename /a/x /a/y"},
			[]string{"/ /a x=old 3", "/ /a y=old 3", "/ /a x=old 3"}},
		{"new and gone", []string{"write /a/y 1", "sync /a/y", "remove /a/y"},
			[]string{"/ /a x=old 3", "/ /a x=old y=1 4", "/ /a x=old 3", "/ /a x=old 3"}},
		{"another one of that name", []string{"remove /a/x", "write /a/x new", "sync /a/x"},
			[]string{"/ /a x=old 3", "/ /a 0", "/ /a x=new 3", "/ /a x=old 3"}},
		{"put in its place", []string{"write /a/t new", "sync /a/t", "rename /a/t /a/x"},
			[]string{"/ /a x=old 3", "/ /a t=new x=old 6", "/ /a x=new 3", "/ /a x=old 3"}},
		{"put aside", []string{"rename /a/x /a/y", "write /a/x new", "sync /a/x"},
			[]string{"/ /a x=old 3", "/ /a y=old 3", "/ /a x=new y=old 6", "/ /a x=old 3"}},
		{"there and back", []string{"rename /a/x /a/y", "rename /a/y /a/x"},
			[]string{"/ /a x=old 3", "/ /a y=old 3", "/ /a x=old 3", "/ /a x=old 3", "/ /a y=old 3"}},
		{"round", []string{"write /a/y new", "sync /a/y", "rename /a/x /a/t", "rename /a/y /a/x", "rename /a/t /a/y"},
			[]string{"/ /a x=old 3", "/ /a x=old y=new 6", "/ /a t=old y=new 6", "/ /a t=old x=new 6", "/ /a x=new y=old 6", "/ /a x=old 3"}},
		{"renamed and removed", []string{"rename /a/x /a/y", "remove /a/y"},
			[]string{"/ /a x=old 3", "/ /a y=old 3", "/ /a 0", "/ /a x=old 3"}},
		{"synced by then", []string{"write /a/y 1", "sync /a/y", "syncdir /a", "remove /a/x"},
			[]string{"/ /a x=old y=1 4", "/ /a y=1 1", "/ /a x=old y=1 4"}},
		{"another directory synced", []string{"write /a/y 1", "sync /a/y", "syncdir /"},
			[]string{"/ /a x=old 3", "/ /a x=old y=1 4", "/ /a x=old 3"}},
		{"what is refused is no step", []string{"rename /a/x /a/x", "read /a/x", "sync /a/x", "list /a"},
			[]string{"/ /a x=old 3", "/ /a x=old 3", "/ /a x=old 3"}},
	} {
		t.Run(x.name, func(t *testing.T) {
			f := made(t, ahead...)
			does(t, f, x.calls...)
			comesUp(t, f, x.want...)
			// Behind a Reboot none waits, and all is durable.
			for choice := range x.want {
				g := f.Copy()
				g.Reboot(int64(choice))
				if whole(g) != whole(g.Copy()) || after(g, 1) != tell(g) || after(g, -1) != tell(g) {
					t.Errorf("choice %d: something waits still", choice)
				}
			}
		})
	}
}

// P5.6: of contents that were not synced the first bytes, as many as are picked less 1; of 0 the durable ones.
func TestContentsThatWereNotSynced(t *testing.T) {
	for _, x := range []struct {
		name  string
		calls []string
		want  []string
	}{
		{"never synced", []string{"write /x 123", "syncdir /"},
			[]string{"/ x= 0", "/ x= 0", "/ x=1 1", "/ x=12 2", "/ x=123 3", "/ x= 0"}},
		{"synced", []string{"write /x 123", "sync /x", "syncdir /"},
			[]string{"/ x=123 3", "/ x=123 3", "/ x=123 3"}},
		{"longer", []string{"write /x ab", "sync /x", "syncdir /", "write /x 123"},
			[]string{"/ x=ab 2", "/ x= 0", "/ x=1 1", "/ x=12 2", "/ x=123 3", "/ x=ab 2"}},
		{"shorter", []string{"write /x abc", "sync /x", "syncdir /", "write /x 1"},
			[]string{"/ x=abc 3", "/ x= 0", "/ x=1 1", "/ x=abc 3"}},
		{"nothing", []string{"write /x abc", "sync /x", "syncdir /", "write /x"},
			[]string{"/ x=abc 3", "/ x= 0", "/ x=abc 3"}},
		{"written twice", []string{"write /x abc", "sync /x", "syncdir /", "write /x 12", "write /x 3"},
			[]string{"/ x=abc 3", "/ x= 0", "/ x=3 1", "/ x=abc 3"}},
		{"synced twice", []string{"write /x abc", "sync /x", "syncdir /", "write /x 12", "sync /x"},
			[]string{"/ x=12 2", "/ x=12 2"}},
		{"the same again", []string{"write /x ab", "sync /x", "syncdir /", "write /x 1", "write /x ab"},
			[]string{"/ x=ab 2", "/ x=ab 2", "/ x=ab 2", "/ x=ab 2"}},
		{"synced ahead of its name", []string{"write /t ab", "sync /t", "rename /t /x", "syncdir /", "write /x 1"},
			[]string{"/ x=ab 2", "/ x= 0", "/ x=1 1", "/ x=ab 2"}},
		{"synced behind its name", []string{"write /t ab", "rename /t /x", "sync /x", "syncdir /"},
			[]string{"/ x=ab 2", "/ x=ab 2"}},
		{"another one's place", []string{"write /x ab", "sync /x", "write /t 1", "rename /t /x", "syncdir /"},
			[]string{"/ x= 0", "/ x= 0", "/ x=1 1", "/ x= 0"}},
		{"another one behind it", []string{"write /x ab", "sync /x", "remove /x", "write /x 1", "syncdir /"},
			[]string{"/ x= 0", "/ x= 0", "/ x=1 1", "/ x= 0"}},
		{"names are picked first", []string{"write /x ab"},
			[]string{"/ 0", "/ x= 0", "/ 0", "/ x= 0", "/ 0", "/ x=a 1", "/ 0", "/ x=ab 2", "/ 0", "/ x= 0"}},
		{"removed, with what was not synced", []string{"write /x ab", "sync /x", "syncdir /", "write /x 123", "remove /x"},
			[]string{"/ x=ab 2", "/ 0", "/ x= 0", "/ 0", "/ x=1 1", "/ 0", "/ x=12 2", "/ 0", "/ x=123 3", "/ 0", "/ x=ab 2"}},
		{"renamed, and written there", []string{"write /x ab", "sync /x", "syncdir /", "rename /x /y", "write /y 1"},
			[]string{"/ x=ab 2", "/ y=ab 2", "/ x= 0", "/ y= 0", "/ x=1 1", "/ y=1 1", "/ x=ab 2"}},
		{"renamed, and synced there", []string{"write /x ab", "sync /x", "syncdir /", "rename /x /y", "write /y 1", "sync /y"},
			[]string{"/ x=1 1", "/ y=1 1", "/ x=1 1"}},
		{"those that are gone are not picked of", []string{"write /w 1", "write /x 2", "syncdir /", "remove /w", "syncdir /"},
			[]string{"/ x= 0", "/ x= 0", "/ x=2 1", "/ x= 0"}},
		{"none, never synced, are what is durable", []string{"write /w", "write /x 1", "syncdir /"},
			[]string{"/ w= x= 0", "/ w= x= 0", "/ w= x=1 1", "/ w= x= 0"}},
	} {
		t.Run(x.name, func(t *testing.T) { comesUp(t, made(t, x.calls...), x.want...) })
	}
}

// P5.6: what is picked becomes durable: of what a crash left the next one takes nothing.
func TestDurableBehindCrash(t *testing.T) {
	f := made(t, "write /x ab", "sync /x", "syncdir /", "write /x 123", "write /y 4", "write /z 5")
	f.Reboot(1 + 3*3 + 3*5*1) // one step; two bytes of x; of y none
	is(t, f, "/ x=12 y= 2")
	comesUp(t, f, "/ x=12 y= 2", "/ x=12 y= 2", "/ x=12 y= 2")
	does(t, f, "write /x 9")
	comesUp(t, f, "/ x=12 y= 2", "/ x= y= 0", "/ x=9 y= 1", "/ x=12 y= 2")
	does(t, f, "write /x 12")
	comesUp(t, f, "/ x=12 y= 2", "/ x=12 y= 2", "/ x=12 y= 2")
}

// P5.6: directories are gone over sorted by their paths, then files sorted by theirs: not as they were made, nor by directories and names.
func TestOrder(t *testing.T) {
	f := made(t, "mkdir /b", "mkdir /a", "mkdir /a/b", "mkdir /a-")
	list := []string{"/a/b/x", "/b/x", "/x", "/a-/x", "/a/x"}
	for _, path := range list {
		does(t, f, "write "+path+" 1", "sync "+path)
	}
	comesUp(t, f, "/ /a /a- /a/b /b 0", "/ x=1 /a /a- /a/b /b 1", "/ /a x=1 /a- /a/b /b 1")
	for choice, want := range map[int64]string{4: "/ /a /a- x=1 /a/b /b 1", 8: "/ /a /a- /a/b x=1 /b 1", 16: "/ /a /a- /a/b /b x=1 1", 32: "/ /a /a- /a/b /b 0", 31: "/ x=1 /a x=1 /a- x=1 /a/b x=1 /b x=1 5"} {
		if got := after(f, choice); got != want {
			t.Errorf("choice %d: %q, not %q", choice, got, want)
		}
	}
	does(t, f, "syncdir /", "syncdir /a", "syncdir /a-", "syncdir /a/b", "syncdir /b", "write /a/z 1", "sync /a/z", "write /a/a 1", "sync /a/a", "syncdir /a")
	for _, path := range append(list, "/a/z", "/a/a") {
		does(t, f, "write "+path+" 2")
	}
	all := []string{"/a-/x", "/a/a", "/a/b/x", "/a/x", "/a/z", "/b/x", "/x"}
	choice := int64(2)
	for _, path := range all {
		g := f.Copy()
		g.Reboot(choice)
		for _, other := range all {
			want := "1"
			if other == path {
				want = "2"
			}
			if b, err := g.Read(other); err != api.OK || string(b) != want {
				t.Errorf("%s is picked of: %s is %q, %d", path, other, b, err)
			}
		}
		choice *= 3
	}
}

// P5.6: a choice is a count of 64 bits, below 0 too, as exact numbers tell.
func TestGreatChoices(t *testing.T) {
	f := made(t, "mkdir /a", "mkdir /b")
	for n := range 6 {
		f.Write("/a/"+strconv.Itoa(n), nil)
	}
	for n := range 10 {
		f.Write("/b/"+strconv.Itoa(n), nil)
	}
	does(t, f, "write /x", "sync /x", "syncdir /", "write /x 0123456789abcdefghi")
	for _, choice := range []int64{0, 1, 76, 77, 1 << 20, 1 << 31, 1 << 32, 1<<62 + 12345, math.MaxInt64 - 1, math.MaxInt64, math.MinInt64, math.MinInt64 + 1, -1, -2, -3, -77, -1 << 32, -1234567890123456789} {
		c := new(big.Int).Mod(big.NewInt(choice), new(big.Int).Lsh(big.NewInt(1), 64))
		var picked []int
		for _, n := range []int64{7, 11, 21} {
			rest := new(big.Int)
			c.DivMod(c, big.NewInt(n), rest)
			picked = append(picked, int(rest.Int64()))
		}
		g := f.Copy()
		g.Reboot(choice)
		first, _ := g.List("/a")
		second, _ := g.List("/b")
		if len(first) != picked[0] || len(second) != picked[1] || g.Used() != max(picked[2]-1, 0) {
			t.Errorf("choice %d: %d, %d, %d, not %v", choice, len(first), len(second), g.Used(), picked)
		}
	}
}

// P5.6: a file that a crash brings back where there is a directory by now: both are there, and each call's first word holds.
func TestFileAndDirectoryOfOnePath(t *testing.T) {
	f := made(t, "write /a 1", "sync /a", "syncdir /", "remove /a", "mkdir /a", "write /a/x 2", "sync /a/x", "syncdir /a")
	is(t, f, "/ /a x=2 1")
	f.Reboot(0)
	if l, err := f.List("/"); err != api.OK || !slices.Equal(l, []string{"a"}) || f.Used() != 2 {
		t.Errorf("%q, %d", l, err)
	}
	for _, call := range calls("/a", "/z") {
		refuses(t, f, call, api.ErrIsDir)
	}
	refuses(t, f, "rename /z /a", api.ErrIsDir)
	does(t, f, "write /a/y 3", "read /a/x", "remove /a/x")
}

// P5.7: a copy is the same in all: what there is, what is durable, what waits, the room, and whether it is down.
func TestCopyIsTheSame(t *testing.T) {
	f := made(t, "mkdir /a", "write /a/x old", "sync /a/x", "syncdir /a", "write /a/x 12", "rename /a/x /a/y", "write /a/x 3", "write /z 4", "sync /z", "remove /z", "write /a/t", "mkdir /b")
	for range 2 {
		g := f.Copy().Copy()
		if whole(g) != whole(f) || g.Used() != f.Used() || g.Down() != f.Down() {
			t.Error("the copy is another one")
		}
		if g.Down() {
			g.Reboot(0)
		}
		if err := g.Write("/new", make([]byte, 101)); err != api.ErrSpace {
			t.Error(err)
		}
		f.CrashAt(1)
		f.Mkdir("/c")
	}
}

// P5.7: it goes its own way, whatever is done with the one or the other.
func TestCopyGoesItsOwnWay(t *testing.T) {
	done := []string{"write /a/x 99", "sync /a/x", "sync /a/y", "syncdir /a", "rename /a/x /a/y", "rename /a/x /a/new", "remove /a/x", "remove /a/y", "mkdir /c", "write /a/b/new 1", "write /a/x", "syncdir /", "write /x 8"}
	for _, call := range done {
		for _, next := range done {
			f := some(t)
			does(t, f, "rename /a/y /a/z", "write /a/y 7")
			ahead := whole(f)
			g, h := f.Copy(), f.Copy()
			run(g, call)
			run(g, next)
			if whole(f) != ahead || whole(h) != ahead {
				t.Fatalf("%s, %s of a copy has changed it", call, next)
			}
			then := whole(g)
			run(f, next)
			run(f, call)
			f.Reboot(7)
			f.CrashAt(1)
			f.Sync("/x")
			if whole(g) != then || whole(h) != ahead {
				t.Fatalf("%s, %s of it has changed a copy", next, call)
			}
		}
	}
}

// P5.7: one file is one in the copy too: whichever its names, durable or not.
func TestCopyOfOneFile(t *testing.T) {
	f := made(t, "write /x old", "sync /x", "syncdir /", "rename /x /y")
	g := f.Copy()
	does(t, g, "write /y 12", "sync /y")
	comesUp(t, g, "/ x=12 2", "/ y=12 2")
	comesUp(t, f, "/ x=old 3", "/ y=old 3")

	f = made(t, "write /x 1", "write /y 2", "write /z 3")
	f.Reboot(0)
	does(t, f, "write /v 4", "write /w 5", "sync /v", "syncdir /", "rename /w /v")
	g = f.Copy()
	does(t, g, "write /x 6", "sync /x", "syncdir /")
	comesUp(t, g, "/ v= x=6 1", "/ v= x=6 1", "/ v=5 x=6 2")
}

// P5.7: a copy has the crash that is still to come, and counts on its own.
func TestCopyOfCrashToCome(t *testing.T) {
	f := made(t, "mkdir /a")
	f.CrashAt(3)
	does(t, f, "list /")
	g := f.Copy()
	does(t, g, "list /")
	if err := run(g, "list /"); err != api.ErrCrash || !g.Down() || f.Down() {
		t.Error(err)
	}
	h := g.Copy()
	does(t, f, "write /a/x 1")
	g.Reboot(0)
	does(t, g, "list /", "list /", "list /", "list /")
	if err := run(f, "list /"); err != api.ErrCrash || !f.Down() || g.Down() || !h.Down() {
		t.Error(err)
	}
	if err := run(h, "list /"); err != api.ErrCrash {
		t.Error(err)
	}
	h.Reboot(0)
	does(t, h, "list /")
}

// P5.8: what is handed in is only read, and not kept.
func TestHandedIn(t *testing.T) {
	f := New(100)
	memory := []byte("0123456789")
	if err := f.Write("/x", memory[2:5]); err != api.OK {
		t.Fatal(err)
	}
	does(t, f, "sync /x", "syncdir /")
	f.Write("/x", memory[3:7])
	f.Write("/y", memory[:0])
	f.Write("/x", memory[2:5])
	f.Reboot(1)
	if string(memory) != "0123456789" {
		t.Errorf("changed: %q", memory)
	}
	for i := range memory {
		memory[i] = 'z'
	}
	is(t, f, "/ x=234 y= 3")
	comesUp(t, f, "/ x=234 y= 3", "/ x=234 y= 3")
	does(t, f, "write /x 5")
	comesUp(t, f, "/ x=234 y= 3", "/ x= y= 0", "/ x=5 y= 1")
}

// P5.8: what is answered is new memory.
func TestAnswered(t *testing.T) {
	f := made(t, "write /x 123", "write /y 45", "sync /x", "syncdir /")
	ahead := whole(f)
	for range 3 {
		first, _ := f.Read("/x")
		second, _ := f.Read("/x")
		names, _ := f.List("/")
		others, _ := f.List("/")
		for _, row := range [][]byte{first, second} {
			if string(row) != "123" {
				t.Errorf("%q", row)
			}
			for i := range row[:cap(row)] {
				row[:cap(row)][i] = 'z'
			}
		}
		for _, list := range [][]string{names, others} {
			if !slices.Equal(list, []string{"x", "y"}) {
				t.Errorf("%q", list)
			}
			for i := range list[:cap(list)] {
				list[:cap(list)][i] = "z"
			}
		}
		f = f.Copy()
		if whole(f) != ahead {
			t.Error("something has changed")
		}
	}
}

// P5.9: what was synced, contents and then its name, is there after any crash as it was, whatever else is done and whichever choice.
func TestSyncedIsThere(t *testing.T) {
	others := []string{"write /a/y 12", "sync /a/y", "rename /a/y /a/z", "remove /a/z", "syncdir /a", "write /b/x 3", "syncdir /b", "write /x 4", "remove /b/x", "read /a/x", "list /a", "sync /a/x", "rename /a/x /a/x", "rename /a/x /b/x", "write /a/x/y 1", "mkdir /a/x", "mkdir /c", "write /none/x 1"}
	for _, order := range [][]string{{"sync /a/x", "syncdir /a"}, {"syncdir /a", "sync /a/x"}, {"sync /a/x", "sync /a/x", "syncdir /a", "syncdir /a"}} {
		f := made(t, "mkdir /a", "mkdir /b", "write /a/x right")
		does(t, f, order...)
		for n := range len(others) {
			for at := range int64(4) {
				g := f.Copy()
				for i := range others {
					run(g, others[(i*7+n)%len(others)])
				}
				g.CrashAt(at)
				run(g, "write /a/y 5")
				run(g, "rename /a/y /a/z")
				run(g, "syncdir /a")
				for choice := int64(-20); choice < 200; choice++ {
					h := g.Copy()
					h.Reboot(choice)
					if b, err := h.Read("/a/x"); err != api.OK || string(b) != "right" {
						t.Fatalf("%d, %d, choice %d: %q, %d", n, at, choice, b, err)
					}
				}
			}
		}
	}
}

// P5.9: till it is written, renamed or removed again.
func TestSyncedNoMore(t *testing.T) {
	for _, x := range []struct{ call, want string }{
		{"write /x 1", "/ t= x= 0"},
		{"rename /x /y", "/ t= y=right 5"},
		{"remove /x", "/ t= 0"},
		{"rename /t /x", "/ x= 0"},
	} {
		f := made(t, "write /x right", "sync /x", "write /t", "syncdir /", x.call)
		comesUp(t, f, "/ t= x=right 5", x.want)
	}
}

// P5.9: a file that is renamed is there by the one name or the other, never by both or by none; what it takes the place of is there till then.
func TestRenamedIsThere(t *testing.T) {
	f := made(t, "write /x mine", "sync /x", "write /y its", "sync /y", "write /z more", "sync /z", "syncdir /")
	does(t, f, "rename /x /y")
	for choice := int64(-50); choice < 50; choice++ {
		if got := after(f, choice); got != "/ x=mine y=its z=more 11" && got != "/ y=mine z=more 8" {
			t.Errorf("choice %d: %q", choice, got)
		}
	}
	does(t, f, "write /w", "rename /y /x", "remove /z", "rename /x /v")
	for choice := int64(-500); choice < 500; choice++ {
		if got := after(f, choice); strings.Count(got, "mine") != 1 {
			t.Errorf("choice %d: %q", choice, got)
		}
	}
}

// P5.1 to P5.8: a nil one.
func TestNil(t *testing.T) {
	var f *FS
	for _, call := range slices.Concat(calls("/x", "/y"), calls("none", ""), calls("/", "/"), calls("", "")) {
		if err := run(f, call); err != api.ErrNil {
			t.Errorf("%q: %d", call, err)
		}
	}
	f.CrashAt(1)
	f.Reboot(5)
	b, readErr := f.Read("/x")
	l, listErr := f.List("/")
	if f.Down() || f.Used() != 0 || f.Copy() != nil || len(b) > 0 || readErr != api.ErrNil || len(l) > 0 || listErr != api.ErrNil {
		t.Errorf("%v, %d, %v, %q, %d, %q, %d", f.Down(), f.Used(), f.Copy(), b, readErr, l, listErr)
	}
}

// One that New did not make is as New(0), whichever call comes first.
func TestByHand(t *testing.T) {
	for _, first := range []func(f *FS) *FS{
		func(f *FS) *FS { return f },
		func(f *FS) *FS { return f.Copy() },
		func(f *FS) *FS { f.Reboot(3); return f },
		func(f *FS) *FS { f.CrashAt(0); return f },
		func(f *FS) *FS { f.CrashAt(1); f.Mkdir("/a"); f.Reboot(1); return f },
		func(f *FS) *FS { f.CrashAt(1); f.Mkdir("/a"); f = f.Copy(); f.Reboot(1); return f },
		func(f *FS) *FS { f.Used(); f.Down(); return f },
		func(f *FS) *FS { f.Mkdir("none"); return f },
	} {
		f := first(&FS{})
		is(t, f, "/ 0")
		does(t, f, "list /", "mkdir /a", "write /a/x", "syncdir /", "syncdir /a")
		refuses(t, f, "write /a/x 1", api.ErrSpace)
		f.Reboot(0)
		is(t, f, "/ /a x= 0")
	}
}

// The chapter's examples, in its order.
func TestExamples(t *testing.T) {
	f := New(100)
	f.Mkdir("/a")
	f.Write("/a/x", []byte{1, 2})
	f.Sync("/a/x")
	g := f.Copy()
	g.Reboot(0)
	if b, err := g.Read("/a/x"); len(b) > 0 || err != api.ErrNoent {
		t.Errorf("%v, %d", b, err)
	}
	f.SyncDir("/a")
	f.Reboot(0)
	if b, err := f.Read("/a/x"); !bytes.Equal(b, []byte{1, 2}) || err != api.OK {
		t.Errorf("%v, %d", b, err)
	}
	f.Write("/a/x", []byte{3, 4, 5})
	f.Reboot(3)
	if b, err := f.Read("/a/x"); !bytes.Equal(b, []byte{3, 4}) || err != api.OK {
		t.Errorf("%v, %d", b, err)
	}
}
