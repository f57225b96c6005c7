package disk

import (
	"fmt"
	"maps"
	"math/rand"
	"regexp"
	"slices"
	"strings"
	"testing"

	"gossamer/api"
)

// someDisk is what is asked of a disk, and of the model of one.
type someDisk interface {
	Append(name, s string) api.Errno
	Sync(name string) api.Errno
	Rename(from, to string) api.Errno
	Remove(name string) api.Errno
	Cut(name string, n int) api.Errno
	Read(name string) (string, api.Errno)
	Names() []string
	Sure(name string) int
	Used() int
	Ops() int
	Fuse(n int)
	Crash()
	On() bool
	Up(keep ...int)
}

// model is what the chapter's words say of a disk: of each file its sure bytes, and its unsure ones.
type model struct {
	room, ops, fuse int
	up              bool
	files           map[string]parts
}

type parts struct{ sure, unsure string }

func (f parts) whole() string { return f.sure + f.unsure }

var named = regexp.MustCompile(`\A[a-z0-9.-]{1,24}\z`)

func newModel(room int) *model {
	return &model{room: room, fuse: -1, up: true, files: map[string]parts{}}
}

func (m *model) begun(do func()) api.Errno {
	m.ops++
	if m.fuse == 0 {
		m.Crash()
		return api.ErrCrash
	}
	if m.fuse > 0 {
		m.fuse--
	}
	do()
	return api.OK
}

func (m *model) Append(name, s string) api.Errno {
	f, there := m.files[name]
	switch {
	case !m.up:
		return api.ErrCrash
	case !named.MatchString(name):
		return api.ErrArg
	case uint64(m.Used())+uint64(len(s)) > uint64(max(0, m.room)):
		return api.ErrFull
	case !there && len(m.files) >= 64:
		return api.ErrFull
	}
	m.files[name] = parts{f.sure, f.unsure + s}
	return m.begun(func() {})
}

func (m *model) Sync(name string) api.Errno {
	f, err := m.file(name)
	if err != api.OK {
		return err
	}
	return m.begun(func() { m.files[name] = parts{f.whole(), ""} })
}

func (m *model) Rename(from, to string) api.Errno {
	f, err := m.file(from)
	if err != api.OK {
		return err
	}
	if !named.MatchString(to) {
		return api.ErrArg
	}
	return m.begun(func() {
		delete(m.files, from)
		m.files[to] = f
	})
}

func (m *model) Remove(name string) api.Errno {
	_, err := m.file(name)
	if err != api.OK {
		return err
	}
	return m.begun(func() { delete(m.files, name) })
}

func (m *model) Cut(name string, n int) api.Errno {
	f, err := m.file(name)
	if err != api.OK {
		return err
	}
	if n < 0 || n > len(f.whole()) {
		return api.ErrRange
	}
	return m.begun(func() {
		if n < len(f.sure) {
			m.files[name] = parts{f.sure[:n], ""}
		} else {
			m.files[name] = parts{f.sure, f.unsure[:n-len(f.sure)]}
		}
	})
}

func (m *model) file(name string) (parts, api.Errno) {
	f, there := m.files[name]
	switch {
	case !m.up:
		return parts{}, api.ErrCrash
	case !there:
		return parts{}, api.ErrNone
	}
	return f, api.OK
}

func (m *model) Read(name string) (string, api.Errno) {
	f, err := m.file(name)
	return f.whole(), err
}

func (m *model) Names() []string { return slices.Sorted(maps.Keys(m.files)) }

func (m *model) Sure(name string) int { return len(m.files[name].sure) }

func (m *model) Used() int {
	n := 0
	for _, f := range m.files {
		n += len(f.whole())
	}
	return n
}

func (m *model) Ops() int { return m.ops }

func (m *model) Fuse(n int) { m.fuse = n }

func (m *model) Crash() { m.up, m.fuse = false, -1 }

func (m *model) On() bool { return m.up }

func (m *model) Up(keep ...int) {
	next := 0
	for _, name := range m.Names() {
		f := m.files[name]
		if f.unsure == "" {
			continue
		}
		kept := 0
		if next < len(keep) {
			kept = keep[next]
			next++
		}
		switch {
		case kept < 0:
			kept = 0
		case kept > len(f.unsure):
			kept = len(f.unsure)
		}
		m.files[name] = parts{f.sure + f.unsure[:kept], ""}
	}
	m.up, m.fuse = true, -1
}

// tell is all that is told of a disk: whether it is up, how many operations were begun, how many bytes it has, and of each file the sure bytes and the unsure ones, or, while it is not up, how many are sure.
func tell(d someDisk) string {
	var b strings.Builder
	b.WriteString(map[bool]string{true: "up", false: "down"}[d.On()])
	fmt.Fprintf(&b, " %d %d", d.Ops(), d.Used())
	for _, name := range d.Names() {
		s, err := d.Read(name)
		sure := d.Sure(name)
		switch {
		case err == api.OK && sure >= 0 && sure <= len(s):
			fmt.Fprintf(&b, " %s:%s|%s", name, s[:sure], s[sure:])
		case err == api.ErrCrash && s == "":
			fmt.Fprintf(&b, " %s:%d", name, sure)
		default:
			fmt.Fprintf(&b, " %s:%q, error %d, %d sure", name, s, err, sure)
		}
	}
	return b.String()
}

// act is something that is done to a disk.
type act struct {
	what     string
	name, to string
	s        string
	n        int
	keep     []int
}

func (a act) String() string {
	return fmt.Sprintf("%s %q to %q, %d bytes, %d, keep %d", a.what, a.name, a.to, len(a.s), a.n, a.keep)
}

// on does it, and tells its error; OK of what tells none.
func (a act) on(d someDisk) api.Errno {
	switch a.what {
	case "append":
		return d.Append(a.name, a.s)
	case "sync":
		return d.Sync(a.name)
	case "rename":
		return d.Rename(a.name, a.to)
	case "remove":
		return d.Remove(a.name)
	case "cut":
		return d.Cut(a.name, a.n)
	case "read":
		_, err := d.Read(a.name)
		return err
	case "fuse":
		d.Fuse(a.n)
	case "crash":
		d.Crash()
	case "up":
		d.Up(a.keep...)
	default:
		panic("no such act: " + a.what)
	}
	return api.OK
}

// operations are acts of each of the five kinds, none of which has an error, if there is a file of that name.
func operations(name string) []act {
	return []act{
		{what: "append", name: name, s: "xyz"},
		{what: "sync", name: name},
		{what: "rename", name: name, to: "other"},
		{what: "remove", name: name},
		{what: "cut", name: name, n: 1},
	}
}

// drawNumber is a number that is small, mostly, or at an edge.
func drawNumber(r *rand.Rand) int {
	switch r.Intn(12) {
	case 0:
		return -1 - r.Intn(3)
	case 1:
		return api.MaxInt
	case 2:
		return api.MinInt
	}
	return r.Intn(12)
}

// drawName is one of the names, mostly, or another one, that may be or may not.
func drawName(r *rand.Rand, names []string) string {
	others := []string{"", "A", "a b", "ä", "\xff", strings.Repeat("z", 24), strings.Repeat("z", 25), "none"}
	if r.Intn(12) == 0 {
		return others[r.Intn(len(others))]
	}
	return names[r.Intn(len(names))]
}

// drawAct is some act, with files of those names.
func drawAct(r *rand.Rand, names []string) act {
	a := act{name: drawName(r, names), to: drawName(r, names), n: drawNumber(r)}
	if r.Intn(6) == 0 {
		a.to = a.name
	}
	for range r.Intn(10) {
		a.s += string(rune('a' + r.Intn(26)))
	}
	for range r.Intn(len(names) + 1) {
		a.keep = append(a.keep, drawNumber(r))
	}
	kinds := []string{"append", "append", "append", "append", "append", "sync", "sync", "rename", "remove", "cut", "cut", "read"}
	a.what = kinds[r.Intn(len(kinds))]
	if r.Intn(8) == 0 {
		a.what = []string{"fuse", "crash", "up", "up"}[r.Intn(4)]
	}
	return a
}

// manyNames are more names than there may be files, not in their order.
func manyNames() []string {
	var l []string
	for k := range 75 {
		l = append(l, fmt.Sprintf("f%d", k))
	}
	return l
}

// Dk1 to Dk4: drawn acts tell, and leave, what the chapter's words say.
func TestDrawn(t *testing.T) {
	few := []string{"a", "a.", "a-", "a0", "aa", "b", "ab.c", "0", "-", ".", strings.Repeat("a", 24)}
	for seed := range int64(400) {
		r := rand.New(rand.NewSource(seed))
		names := few[:1+r.Intn(len(few))]
		room := []int{-7, 0, 1, 20, 60, 200, 1 << 20, api.MaxInt}[r.Intn(8)]
		checkAsModel(t, r, room, names, 300)
	}
}

// Dk1, Dk2: drawn acts where there are as many files as may be.
func TestDrawnManyFiles(t *testing.T) {
	for seed := range int64(8) {
		r := rand.New(rand.NewSource(seed))
		checkAsModel(t, r, 1<<20, manyNames(), 1500)
	}
}

// checkAsModel does drawn acts to a disk and to the model, and holds what they tell against one another.
func checkAsModel(t *testing.T, r *rand.Rand, room int, names []string, acts int) {
	t.Helper()
	d, m := New(room), newModel(room)
	for range acts {
		a := drawAct(r, names)
		ahead := tell(m)
		got, want := a.on(d), a.on(m)
		if got != want || tell(d) != tell(m) {
			t.Fatalf("room %d, %s\nahead  %s\ntells  %d, %s\nwanted %d, %s", room, a, ahead, got, tell(d), want, tell(m))
		}
		for _, name := range []string{a.name, a.to, "none"} {
			s, err := d.Read(name)
			modelS, modelErr := m.Read(name)
			if s != modelS || err != modelErr || d.Sure(name) != m.Sure(name) {
				t.Fatalf("behind %s: %q: %q, %d, %d sure; want %q, %d, %d sure", a, name, s, err, d.Sure(name), modelS, modelErr, m.Sure(name))
			}
		}
	}
}

// Dk4: no act takes what is sure, but what takes it by its name; no files have more bytes than there is room for.
func TestSureIsNotLost(t *testing.T) {
	names := []string{"a", "ab", "b", "c"}
	for seed := range int64(300) {
		r := rand.New(rand.NewSource(seed))
		room := 10 + r.Intn(100)
		d := New(room)
		for range 200 {
			ahead := sureBytes(d)
			a := drawAct(r, names)
			a.on(d)
			if d.Used() > room {
				t.Fatalf("%s: %d bytes, of room for %d", a, d.Used(), room)
			}
			if !d.On() {
				// What it has can be told once it is up; without a number none of what is unsure is kept.
				d.Up()
			}
			checkSureKept(t, d, a, ahead)
		}
	}
}

// sureBytes are the sure bytes of each file of a disk that is up.
func sureBytes(d *Disk) map[string]string {
	sure := map[string]string{}
	for _, name := range d.Names() {
		s, _ := d.Read(name)
		sure[name] = s[:d.Sure(name)]
	}
	return sure
}

// checkSureKept fails if a file that an act did not name has lost a byte that was sure.
func checkSureKept(t *testing.T, d *Disk, a act, ahead map[string]string) {
	t.Helper()
	takes := map[string][]string{"remove": {a.name}, "cut": {a.name}, "rename": {a.name, a.to}}[a.what]
	behind := sureBytes(d)
	for name, sure := range ahead {
		if s, there := behind[name]; !slices.Contains(takes, name) && (!there || !strings.HasPrefix(s, sure)) {
			t.Fatalf("%s: of %s %q is sure; want %q, and what was made sure", a, name, s, sure)
		}
	}
}

// Dk4: with the disk not up nothing changes, whatever is done, but by Up.
func TestNothingChangesWhileDown(t *testing.T) {
	names := []string{"a", "ab", "b"}
	for seed := range int64(100) {
		r := rand.New(rand.NewSource(seed))
		d, same := New(60), New(60)
		for range 40 {
			a := drawAct(r, names)
			a.on(d)
			a.on(same)
		}
		d.Crash()
		same.Crash()
		ahead := tell(d)
		for range 60 {
			a := drawAct(r, names)
			if a.what == "up" {
				continue
			}
			err := a.on(d)
			if tells := a.what != "fuse" && a.what != "crash"; tells && err != api.ErrCrash {
				t.Fatalf("%s tells %d", a, err)
			}
			if tell(d) != ahead {
				t.Fatalf("%s: %s; want %s", a, tell(d), ahead)
			}
		}
		d.Up(3, 1)
		same.Up(3, 1)
		if tell(d) != tell(same) {
			t.Fatalf("up again: %s; want %s", tell(d), tell(same))
		}
	}
}
