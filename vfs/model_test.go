package vfs

import (
	"bytes"
	"maps"
	"math/rand"
	"slices"
	"strconv"
	"strings"
	"testing"

	"clepsydra/api"
)

// model is a file system told plainly: of each directory all names it has had since its last SyncDir, the durable ones first, and those that there are last.
type model struct {
	room     int
	versions map[string][]map[string]int
	files    []modelFile
	left     int64
	down     bool
}

type modelFile struct{ now, durable []byte }

func newModel(room int) *model {
	return &model{room: room, versions: map[string][]map[string]int{"/": {{}}}}
}

func (m *model) copied() *model {
	other := *m
	other.files = slices.Clone(m.files)
	other.versions = maps.Clone(m.versions)
	for dir, list := range other.versions {
		other.versions[dir] = slices.Clone(list)
	}
	return &other
}

// split tells the path above and the last name.
func split(path string) (string, string) {
	cut := strings.LastIndexByte(path, '/')
	return path[:max(cut, 1)], path[cut+1:]
}

func (m *model) last(dir string) map[string]int {
	list := m.versions[dir]
	if len(list) == 0 {
		return nil
	}
	return list[len(list)-1]
}

func (m *model) isDir(path string) bool { return m.versions[path] != nil }

func (m *model) at(path string) (int, bool) {
	dir, name := split(path)
	n, ok := m.last(dir)[name]
	return n, ok
}

func (m *model) isFile(path string) bool {
	_, ok := m.at(path)
	return ok
}

// put adds a version of a directory's names.
func (m *model) put(dir string, change func(names map[string]int)) {
	names := maps.Clone(m.last(dir))
	change(names)
	m.versions[dir] = append(m.versions[dir], names)
}

func (m *model) paths() []string {
	var list []string
	for dir := range m.versions {
		for name := range m.last(dir) {
			list = append(list, strings.TrimSuffix(dir, "/")+"/"+name)
		}
	}
	slices.Sort(list)
	return list
}

func (m *model) used() int {
	n := 0
	for _, path := range m.paths() {
		i, _ := m.at(path)
		n += len(m.files[i].now)
	}
	return n
}

func modelPath(path string) bool {
	if path == "" || path[0] != '/' {
		return false
	}
	for _, name := range strings.Split(path[1:], "/") {
		if name == "" || len(name) > 64 || strings.Contains(name, "\x00") {
			return false
		}
	}
	return true
}

// operation does one, of the words by which run is told.
func (m *model) operation(call string) (api.Errno, string) {
	m.left--
	if m.left == 0 {
		m.down = true
	}
	if m.down {
		return api.ErrCrash, ""
	}
	words := append(strings.Split(call, " "), "", "")
	path := words[1]
	of := words[0] == "list" || words[0] == "syncdir"
	if !modelPath(path) && !(of && path == "/") || words[0] == "rename" && !modelPath(words[2]) {
		return api.ErrArg, ""
	}
	if of {
		return m.ofDir(words[0], path)
	}
	if words[0] == "mkdir" || words[0] == "write" {
		return m.make(words[0], path, words[2]), ""
	}
	if words[0] == "rename" {
		return m.rename(path, words[2]), ""
	}
	return m.ofFile(words[0], path)
}

func (m *model) ofDir(what, path string) (api.Errno, string) {
	if path != "/" && m.isFile(path) {
		return api.ErrIsDir, ""
	}
	if !m.isDir(path) {
		return api.ErrNoent, ""
	}
	if what == "list" {
		return api.OK, strings.Join(slices.Sorted(maps.Keys(m.last(path))), " ")
	}
	m.versions[path] = []map[string]int{m.last(path)}
	return api.OK, ""
}

func (m *model) make(what, path, contents string) api.Errno {
	dir, name := split(path)
	n, there := m.at(path)
	if !m.isDir(dir) {
		return api.ErrNoent
	}
	if m.isDir(path) || what == "mkdir" && there {
		return api.ErrIsDir
	}
	if what == "mkdir" {
		m.versions[path] = []map[string]int{{}}
		return api.OK
	}
	used := m.used() + len(contents)
	if there {
		used -= len(m.files[n].now)
	}
	if used > m.room {
		return api.ErrSpace
	}
	if !there {
		n = len(m.files)
		m.files = append(m.files, modelFile{})
		m.put(dir, func(names map[string]int) { names[name] = n })
	}
	m.files[n].now = []byte(contents)
	return api.OK
}

func (m *model) rename(from, to string) api.Errno {
	n, there := m.at(from)
	dir, old := split(from)
	other, name := split(to)
	if m.isDir(from) || m.isDir(to) {
		return api.ErrIsDir
	}
	if !there {
		return api.ErrNoent
	}
	if dir != other {
		return api.ErrArg
	}
	if from != to {
		m.put(dir, func(names map[string]int) {
			delete(names, old)
			names[name] = n
		})
	}
	return api.OK
}

func (m *model) ofFile(what, path string) (api.Errno, string) {
	n, there := m.at(path)
	dir, name := split(path)
	if m.isDir(path) {
		return api.ErrIsDir, ""
	}
	if !there {
		return api.ErrNoent, ""
	}
	switch what {
	case "read":
		return api.OK, string(m.files[n].now)
	case "sync":
		m.files[n].durable = m.files[n].now
	case "remove":
		m.put(dir, func(names map[string]int) { delete(names, name) })
	}
	return api.OK, ""
}

func (m *model) reboot(choice int64) {
	c := uint64(choice)
	for _, dir := range slices.Sorted(maps.Keys(m.versions)) {
		list := m.versions[dir]
		n := uint64(len(list))
		m.versions[dir] = []map[string]int{list[c%n]}
		c /= n
	}
	for _, path := range m.paths() {
		i, _ := m.at(path)
		one := &m.files[i]
		if bytes.Equal(one.now, one.durable) {
			continue
		}
		n := uint64(len(one.now) + 2)
		if c%n == 0 {
			one.now = one.durable
		} else {
			one.now = one.now[:c%n-1]
		}
		c /= n
		one.durable = one.now
	}
	m.down, m.left = false, 0
}

// told is what a call of f answers, and what it tells.
func told(f *FS, call string) (api.Errno, string) {
	what, path, _ := strings.Cut(call, " ")
	switch what {
	case "read":
		b, err := f.Read(path)
		return err, string(b)
	case "list":
		l, err := f.List(path)
		return err, strings.Join(l, " ")
	}
	return run(f, call), ""
}

// drawnCall is drawn by lot: mostly of a few paths.
func drawnCall(lot *rand.Rand) string {
	draw := func(list []string) string { return list[lot.Intn(len(list))] }
	path := func() string {
		if lot.Intn(30) == 0 {
			return draw([]string{"", "/", "a", "/a/", "//x", "/\x00", "/a-", "/none/x", "/x/y", "/" + strings.Repeat("n", 65)})
		}
		return draw([]string{"", "/a", "/a-", "/a/b", "/b"}) + "/" + draw([]string{"x", "y", "x", "y", "b", "a", "-"})
	}
	dir := func() string { return draw([]string{"/", "/a", "/a-", "/a/b", "/b", "/x", "/none"}) }
	switch lot.Intn(12) {
	case 0:
		return "mkdir " + dir()
	case 1, 2, 3:
		return "write " + path() + " " + draw([]string{"", "1", "12", "123", "abc", "ab", "0123456"})
	case 4:
		return "sync " + path()
	case 5:
		return "syncdir " + dir()
	case 6, 7:
		from := path()
		if cut := strings.LastIndexByte(from, '/'); cut >= 0 && lot.Intn(4) > 0 {
			return "rename " + from + " " + from[:cut+1] + draw([]string{"x", "y", "z"})
		}
		return "rename " + from + " " + path()
	case 8:
		return "remove " + path()
	case 9:
		return "mkdir " + path()
	case 10:
		return "list " + dir()
	}
	return "read " + path()
}

// same fails unless both are the same in all that can be told of them, of one that is up.
func same(t *testing.T, f *FS, m *model, done []string) {
	t.Helper()
	f, m = f.Copy(), m.copied()
	f.CrashAt(0)
	m.left = 0
	for _, dir := range []string{"/", "/a", "/a-", "/a/b", "/b", "/x", "/y"} {
		want, wanted := m.operation("list " + dir)
		if err, got := told(f, "list "+dir); err != want || got != wanted {
			t.Fatalf("%q: list %s: %d, %q, not %d, %q", done, dir, err, got, want, wanted)
		}
	}
	for _, path := range m.paths() {
		want, wanted := m.operation("read " + path)
		if err, got := told(f, "read "+path); err != want || got != wanted {
			t.Fatalf("%q: read %s: %d, %q, not %d, %q", done, path, err, got, want, wanted)
		}
	}
	if f.Used() != m.used() {
		t.Fatalf("%q: %d bytes, not %d", done, f.Used(), m.used())
	}
}

// anyChoice is a small one, or one of all bits.
func anyChoice(lot *rand.Rand) int64 {
	if lot.Intn(2) == 0 {
		return int64(lot.Intn(10000))
	}
	return int64(lot.Uint64())
}

// P5.1 to P5.7: calls that are drawn by lot, held against a plain model.
func TestByLot(t *testing.T) {
	lot := rand.New(rand.NewSource(5))
	for range 1500 {
		room := []int{-3, 0, 5, 10, 20, 1000}[lot.Intn(6)]
		f, m := New(room), newModel(max(room, 0))
		done := []string{"New " + strconv.Itoa(room)}
		for range 60 {
			switch lot.Intn(25) {
			case 0:
				choice := anyChoice(lot)
				done = append(done, "reboot "+strconv.FormatInt(choice, 10))
				f.Reboot(choice)
				m.reboot(choice)
			case 1:
				n := int64(lot.Intn(30) - 3)
				done = append(done, "crashat "+strconv.FormatInt(n, 10))
				f.CrashAt(n)
				m.left = n
			case 2:
				done = append(done, "copy")
				f, m = f.Copy(), m.copied()
			default:
				call := drawnCall(lot)
				done = append(done, call)
				want, wanted := m.operation(call)
				if err, got := told(f, call); err != want || got != wanted {
					t.Fatalf("%q: %d, %q, not %d, %q", done, err, got, want, wanted)
				}
			}
			if f.Down() != m.down || f.Used() != m.used() {
				t.Fatalf("%q: %v, %d, not %v, %d", done, f.Down(), f.Used(), m.down, m.used())
			}
			if !m.down {
				same(t, f, m, done)
			}
			if lot.Intn(4) == 0 {
				choice := anyChoice(lot)
				g, o := f.Copy(), m.copied()
				g.Reboot(choice)
				o.reboot(choice)
				same(t, g, o, append(slices.Clone(done), "a copy's reboot "+strconv.FormatInt(choice, 10)))
			}
		}
	}
}
