package pack

import (
	"fmt"
	"math/rand"
	"strings"
	"testing"

	"gossamer/api"
	"gossamer/vari"
)

// kind is a kind of parts.
type kind int

const (
	num kind = iota
	signed
	text
	flag
)

// part is a part that is written, or read: of each kind only one field counts.
type part struct {
	kind kind
	n    int
	s    string
	is   bool
}

// put writes parts.
func put(w *Writer, l ...part) {
	for _, p := range l {
		switch p.kind {
		case num:
			w.Num(p.n)
		case signed:
			w.Signed(p.n)
		case text:
			w.Text(p.s)
		case flag:
			w.Flag(p.is)
		}
	}
}

// bytesOf is what a new Writer has written behind parts.
func bytesOf(l ...part) string {
	var w Writer
	put(&w, l...)
	return w.Bytes()
}

// step is how a part is read: by its kind, and, if it is a text, of so many bytes at most.
type step struct {
	kind kind
	most int
}

// get reads a part.
func get(r *Reader, x step) part {
	p := part{kind: x.kind}
	switch x.kind {
	case num:
		p.n = r.Num()
	case signed:
		p.n = r.Signed()
	case text:
		p.s = r.Text(x.most)
	case flag:
		p.is = r.Flag()
	}
	return p
}

// steps are all ways to read a part, with texts of no more bytes than there can be, and of more.
func steps() []step {
	l := []step{{kind: num}, {kind: signed}, {kind: flag}}
	for _, most := range []int{api.MinInt, -1, 0, 1, 2, api.MaxInt} {
		l = append(l, step{text, most})
	}
	return l
}

// model is a reader by the chapter's words: what is left, and the first error.
type model struct {
	s   string
	err api.Errno
}

// get is the part that a step reads.
func (m *model) get(x step) part {
	p := part{kind: x.kind}
	if m.err != api.OK {
		return p
	}
	got, size, err := m.next(x)
	if err != api.OK {
		m.err = err
		return p
	}
	m.s = m.s[size:]
	return got
}

// next is the part that is next, how many bytes it has, and its error.
func (m *model) next(x step) (part, int, api.Errno) {
	p := part{kind: x.kind}
	var size int
	var err api.Errno
	switch x.kind {
	case num:
		p.n, size, err = vari.Take(m.s)
	case signed:
		p.n, size, err = vari.TakeSigned(m.s)
	case text:
		var n int
		n, size, err = vari.Take(m.s)
		if err == api.OK && n > x.most {
			err = api.ErrBig
		}
		if err == api.OK && n > len(m.s[size:]) {
			err = api.ErrShort
		}
		if err == api.OK {
			p.s = m.s[size : size+n]
			size += n
		}
	case flag:
		size = 1
		switch {
		case m.s == "":
			err = api.ErrShort
		case m.s[0] > 1:
			err = api.ErrForm
		}
		p.is = err == api.OK && m.s[0] == 1
	}
	return p, size, err
}

// end is what End tells.
func (m *model) end() api.Errno {
	if m.err == api.OK && m.s != "" {
		return api.ErrForm
	}
	return m.err
}

// same fails if a reader tells otherwise than a model of what is left, of the first error, and of the end.
func same(t *testing.T, r *Reader, m *model, at string) {
	t.Helper()
	if r.Left() != len(m.s) || r.Err() != m.err || r.End() != m.end() {
		t.Fatalf("%s: left %d, err %d, end %d; want %d, %d, %d", at, r.Left(), r.Err(), r.End(), len(m.s), m.err, m.end())
	}
}

// is fails if a reader tells otherwise than that.
func is(t *testing.T, r *Reader, left int, err, end api.Errno) {
	t.Helper()
	if r.Left() != left || r.Err() != err || r.End() != end {
		t.Errorf("left %d, err %d, end %d; want %d, %d, %d", r.Left(), r.Err(), r.End(), left, err, end)
	}
}

// edges are numbers at the edges of their lengths, rising, each with and without a sign.
func edges() []int {
	l := []int{0, api.MinInt, api.MinInt + 1, api.MaxInt - 1, api.MaxInt}
	for bits := range 62 {
		for _, by := range []int{-1, 0, 1} {
			n := 1<<bits + by
			l = append(l, n, -n)
		}
	}
	return l
}

// allBytes is a text with bytes of every value.
func allBytes() string {
	var b []byte
	for c := range 256 {
		b = append(b, byte(c))
	}
	return string(b)
}

// texts are texts of no byte, of one of every value, and of as many as the edges of their count's length have.
func texts() []string {
	l := []string{"", "ab", "\x00\x00", "\xff\xff", "ä€", allBytes()}
	for _, c := range []byte(allBytes()) {
		l = append(l, string([]byte{c}))
	}
	for _, n := range []int{126, 127, 128, 129, 255, 16383, 16384, 1 << 16} {
		l = append(l, strings.Repeat("a", n))
	}
	return l
}

// Pk1: a zero Writer has written nothing, and goes on having written nothing behind numbers that have no bytes.
func TestZeroWriter(t *testing.T) {
	var w Writer
	if s := w.Bytes(); s != "" {
		t.Errorf("%q", s)
	}
	for _, n := range []int{-1, -128, api.MinInt} {
		w.Num(n)
	}
	if s := w.Bytes(); s != "" {
		t.Errorf("%q", s)
	}
}

// Pk1: of nil nothing is written.
func TestNilWriter(t *testing.T) {
	var w *Writer
	for range 2 {
		if s := w.Bytes(); s != "" {
			t.Errorf("%q", s)
		}
		put(w, part{num, 1, "", false}, part{num, -1, "", false}, part{signed, -1, "", false})
		put(w, part{text, 0, "", false}, part{text, 0, "ab", false}, part{flag, 0, "", true}, part{flag, 0, "", false})
	}
}

// Pk1: each kind of part, by its bytes.
func TestWriteParts(t *testing.T) {
	for _, x := range []struct {
		p    part
		want string
	}{
		{part{kind: num, n: 0}, "\x00"},
		{part{kind: num, n: 1}, "\x01"},
		{part{kind: num, n: 127}, "\x7f"},
		{part{kind: num, n: 128}, "\x80\x01"},
		{part{kind: num, n: 300}, "\xac\x02"},
		{part{kind: num, n: 16383}, "\xff\x7f"},
		{part{kind: num, n: 16384}, "\x80\x80\x01"},
		{part{kind: num, n: api.MaxInt}, "\xff\xff\xff\xff\xff\xff\xff\xff\x7f"},
		{part{kind: num, n: -1}, ""},
		{part{kind: num, n: api.MinInt}, ""},
		{part{kind: signed, n: 0}, "\x00"},
		{part{kind: signed, n: -1}, "\x01"},
		{part{kind: signed, n: 1}, "\x02"},
		{part{kind: signed, n: -64}, "\x7f"},
		{part{kind: signed, n: 64}, "\x80\x01"},
		{part{kind: signed, n: -65}, "\x81\x01"},
		{part{kind: signed, n: api.MaxInt}, "\xfe\xff\xff\xff\xff\xff\xff\xff\xff\x01"},
		{part{kind: signed, n: api.MinInt}, "\xff\xff\xff\xff\xff\xff\xff\xff\xff\x01"},
		{part{kind: text, s: ""}, "\x00"},
		{part{kind: text, s: "\x00"}, "\x01\x00"},
		{part{kind: text, s: "\xff"}, "\x01\xff"},
		{part{kind: text, s: "ab"}, "\x02\x61\x62"},
		{part{kind: text, s: strings.Repeat("a", 127)}, "\x7f" + strings.Repeat("a", 127)},
		{part{kind: text, s: strings.Repeat("a", 128)}, "\x80\x01" + strings.Repeat("a", 128)},
		{part{kind: text, s: allBytes()}, "\x80\x02" + allBytes()},
		{part{kind: flag, is: false}, "\x00"},
		{part{kind: flag, is: true}, "\x01"},
	} {
		if s := bytesOf(x.p); s != x.want {
			t.Errorf("%v: %q, want %q", x.p, s, x.want)
		}
	}
}

// Pk1: numbers are written as layer 1 puts them, at all edges; texts by the count of their bytes.
func TestWriteEdges(t *testing.T) {
	for _, n := range edges() {
		if s := bytesOf(part{kind: num, n: n}); s != vari.Put(n) {
			t.Errorf("Num(%d): %q", n, s)
		}
		if s := bytesOf(part{kind: signed, n: n}); s != vari.PutSigned(n) {
			t.Errorf("Signed(%d): %q", n, s)
		}
	}
	for _, x := range texts() {
		if s := bytesOf(part{kind: text, s: x}); s != vari.Put(len(x))+x {
			t.Errorf("Text of %d bytes: %q", len(x), s)
		}
	}
}

// Pk1: each part is written behind all that was written, and Bytes can be asked at any time, again and again.
func TestWriteBehind(t *testing.T) {
	r := rand.New(rand.NewSource(1))
	for range 200 {
		var w Writer
		want := ""
		for range r.Intn(20) {
			p := drawnPart(r)
			put(&w, p)
			want += bytesOf(p)
			if r.Intn(3) == 0 && w.Bytes() != want {
				t.Fatalf("%q, want %q", w.Bytes(), want)
			}
		}
		for range 2 {
			if s := w.Bytes(); s != want {
				t.Fatalf("%q, want %q", s, want)
			}
		}
	}
}

// Pk1: what a Writer has written hangs on nothing that is written by a copy of it, nor the other way round.
func TestCopiedWriter(t *testing.T) {
	for ahead := range 20 {
		var w Writer
		for n := range ahead {
			w.Num(n)
		}
		s := w.Bytes()
		a, b := w, w
		a.Text("aa")
		b.Text("bbb")
		w.Flag(true)
		if w.Bytes() != s+"\x01" || a.Bytes() != s+"\x02aa" || b.Bytes() != s+"\x03bbb" {
			t.Fatalf("%d: %q, %q, %q", ahead, w.Bytes(), a.Bytes(), b.Bytes())
		}
		w = a
		w.Num(7)
		if w.Bytes() != s+"\x02aa\x07" || a.Bytes() != s+"\x02aa" {
			t.Fatalf("%d: %q, %q", ahead, w.Bytes(), a.Bytes())
		}
	}
}

// Pk1: what is written takes no more time, the more is there: a writer that moved all at each part would not end here.
func TestWriteMany(t *testing.T) {
	const many = 1 << 20
	var w Writer
	for range many {
		w.Text("a")
	}
	if s := w.Bytes(); s != strings.Repeat("\x01a", many) {
		t.Errorf("%d bytes", len(s))
	}
}

// Pk2: a reader reads from the beginning on: numbers as layer 1 takes them, whatever stands behind, and what was read goes.
func TestReadNumbers(t *testing.T) {
	for _, n := range edges() {
		for _, behind := range []string{"", "\x00", "\x80", "\xff\x01", "abc"} {
			if n >= 0 {
				r := New(vari.Put(n) + behind)
				if got := r.Num(); got != n || r.Left() != len(behind) || r.Err() != api.OK {
					t.Fatalf("Num of %d: %d, %d left, err %d", n, got, r.Left(), r.Err())
				}
			}
			r := New(vari.PutSigned(n) + behind)
			if got := r.Signed(); got != n || r.Left() != len(behind) || r.Err() != api.OK {
				t.Fatalf("Signed of %d: %d, %d left, err %d", n, got, r.Left(), r.Err())
			}
		}
	}
}

// Pk2: numbers that are none.
func TestReadWrongNumbers(t *testing.T) {
	long := strings.Repeat("\x80", 8)
	for _, x := range []struct {
		s           string
		num, signed api.Errno
	}{
		{"", api.ErrShort, api.ErrShort},
		{"\x80", api.ErrShort, api.ErrShort},
		{"\xff\xff", api.ErrShort, api.ErrShort},
		{"\x80\x00", api.ErrForm, api.ErrForm},
		{"\xff\x00\x01", api.ErrForm, api.ErrForm},
		{long, api.ErrShort, api.ErrShort},
		{long + "\x00", api.ErrForm, api.ErrForm},
		{long + "\x7f", api.OK, api.OK},
		{long + "\x80", api.ErrForm, api.ErrShort},
		{long + "\x80\x00", api.ErrForm, api.ErrForm},
		{long + "\x80\x01", api.ErrForm, api.OK},
		{long + "\x80\x02", api.ErrForm, api.ErrForm},
		{long + "\x80\x80", api.ErrForm, api.ErrForm},
		{long + "\x80\x80\x01", api.ErrForm, api.ErrForm},
	} {
		for _, y := range []struct {
			kind kind
			err  api.Errno
		}{{num, x.num}, {signed, x.signed}} {
			r := New(x.s)
			p := get(r, step{kind: y.kind})
			if r.Err() != y.err || y.err != api.OK && (p.n != 0 || r.Left() != len(x.s)) {
				t.Errorf("kind %d of %q: %d, err %d, %d left", y.kind, x.s, p.n, r.Err(), r.Left())
			}
		}
	}
}

// Pk2: texts of every length and with all bytes, of just most, and beyond it; cut off at each of their bytes.
func TestReadTexts(t *testing.T) {
	for _, x := range texts() {
		for _, most := range []int{len(x), len(x) + 1, api.MaxInt} {
			for _, behind := range []string{"", "\x00", "z", "\xff\xff"} {
				r := New(bytesOf(part{kind: text, s: x}) + behind)
				if s := r.Text(most); s != x || r.Left() != len(behind) || r.Err() != api.OK {
					t.Fatalf("text of %d bytes, most %d: %d bytes, err %d, %d left", len(x), most, len(s), r.Err(), r.Left())
				}
			}
		}
		whole := bytesOf(part{kind: text, s: x})
		for _, most := range []int{len(x) - 1, -1, api.MinInt} {
			r := New(whole)
			if s := r.Text(most); s != "" || r.Err() != api.ErrBig || r.Left() != len(whole) {
				t.Fatalf("text of %d bytes, most %d: %q, err %d, %d left", len(x), most, s, r.Err(), r.Left())
			}
		}
		for cut := range min(len(whole), 300) {
			r := New(whole[:cut])
			if s := r.Text(len(x)); s != "" || r.Err() != api.ErrShort || r.Left() != cut {
				t.Fatalf("text of %d bytes, cut off at %d: %q, err %d, %d left", len(x), cut, s, r.Err(), r.Left())
			}
		}
	}
}

// Pk2: texts that are none, and which of several errors goes ahead: the number's, then that it is above most, then that too few bytes are left.
func TestReadWrongTexts(t *testing.T) {
	long := strings.Repeat("\xff", 8)
	for _, x := range []struct {
		s    string
		most int
		err  api.Errno
	}{
		{"", 3, api.ErrShort},
		{"", -1, api.ErrShort},
		{"\x80", 3, api.ErrShort},
		{"\x80", -1, api.ErrShort},
		{"\x83\x00abc", 3, api.ErrForm},
		{"\x80\x00", 3, api.ErrForm},
		{"\x80\x00", -1, api.ErrForm},
		{"\x83\x80\x00abc", 3, api.ErrForm},
		{long, api.MaxInt, api.ErrShort},
		{long + "\xff\x01", api.MaxInt, api.ErrForm},
		{long + "\xff", -1, api.ErrForm},
		{long + "\x7f", api.MaxInt, api.ErrShort},
		{long + "\x7fabc", api.MaxInt, api.ErrShort},
		{long + "\x7f", api.MaxInt - 1, api.ErrBig},
		{long + "\x7fabc", 3, api.ErrBig},
		{"\x00", -1, api.ErrBig},
		{"\x00", api.MinInt, api.ErrBig},
		{"\x03ab", 3, api.ErrShort},
		{"\x03", 3, api.ErrShort},
		{"\x04abcd", 3, api.ErrBig},
		{"\x04abc", 3, api.ErrBig},
		{"\x04", 3, api.ErrBig},
	} {
		r := New(x.s)
		if s := r.Text(x.most); s != "" {
			t.Errorf("%q, most %d: %q", x.s, x.most, s)
		}
		is(t, r, len(x.s), x.err, x.err)
	}
}

// Pk2: flags of nothing, and of every byte, with and without bytes behind.
func TestReadFlags(t *testing.T) {
	r := New("")
	if r.Flag() {
		t.Error("a flag of nothing is true")
	}
	is(t, r, 0, api.ErrShort, api.ErrShort)
	for _, c := range []byte(allBytes()) {
		for _, behind := range []string{"", "\x00", "\x01", "ab"} {
			r := New(string([]byte{c}) + behind)
			got := r.Flag()
			if got != (c == 1) {
				t.Errorf("%d: %v", c, got)
			}
			switch {
			case c > 1:
				is(t, r, 1+len(behind), api.ErrForm, api.ErrForm)
			case behind == "":
				is(t, r, 0, api.OK, api.OK)
			default:
				is(t, r, len(behind), api.OK, api.ErrForm)
			}
		}
	}
}

// wrong are bytes, how a part of them is read that is none, and its error.
func wrong() []struct {
	s   string
	x   step
	err api.Errno
} {
	return []struct {
		s   string
		x   step
		err api.Errno
	}{
		{"", step{kind: num}, api.ErrShort},
		{"\x81", step{kind: num}, api.ErrShort},
		{"\x81\x00", step{kind: num}, api.ErrForm},
		{"", step{kind: signed}, api.ErrShort},
		{"\x81", step{kind: signed}, api.ErrShort},
		{"\x81\x00", step{kind: signed}, api.ErrForm},
		{"", step{text, 9}, api.ErrShort},
		{"\x02\x01", step{text, 9}, api.ErrShort},
		{"\x01\x01\x01\x01", step{text, 0}, api.ErrBig},
		{"\x81\x00\x01", step{text, 9}, api.ErrForm},
		{"", step{kind: flag}, api.ErrShort},
		{"\x02\x01\x01", step{kind: flag}, api.ErrForm},
	}
}

// Pk2: the first error stays; behind it each kind of part is a zero value, nothing goes any more, nor did anything of the part at which it came; what was read ahead is gone.
func TestFirstErrorStays(t *testing.T) {
	for _, x := range wrong() {
		for _, ahead := range []string{"", "\x01\x02\x01a"} {
			r := New(ahead + x.s)
			if ahead != "" && (!r.Flag() || r.Signed() != 1 || r.Text(1) != "a") {
				t.Fatal("what stands ahead is read otherwise")
			}
			if p := get(r, x.x); p != (part{kind: x.x.kind}) {
				t.Errorf("%q: %v", x.s, p)
			}
			is(t, r, len(x.s), x.err, x.err)
			for range 2 {
				for _, y := range steps() {
					if p := get(r, y); p != (part{kind: y.kind}) {
						t.Errorf("%q, then %v: %v", x.s, y, p)
					}
					is(t, r, len(x.s), x.err, x.err)
				}
			}
		}
	}
}

// Pk2: Left, Err and End ahead of all, and behind each kind of part, with bytes left and without; asking changes nothing.
func TestLeftErrEnd(t *testing.T) {
	r := New("\x81\x01\x03\x02ab\x01\x00z")
	for range 2 {
		is(t, r, 9, api.OK, api.ErrForm)
	}
	if n := r.Num(); n != 129 {
		t.Error(n)
	}
	is(t, r, 7, api.OK, api.ErrForm)
	if n := r.Signed(); n != -2 {
		t.Error(n)
	}
	is(t, r, 6, api.OK, api.ErrForm)
	if s := r.Text(2); s != "ab" {
		t.Error(s)
	}
	is(t, r, 3, api.OK, api.ErrForm)
	if !r.Flag() {
		t.Error("flag")
	}
	is(t, r, 2, api.OK, api.ErrForm)
	if s := r.Text(0); s != "" {
		t.Error(s)
	}
	is(t, r, 1, api.OK, api.ErrForm)
	if n := r.Signed(); n != 'z'/2 {
		t.Error(n)
	}
	for range 2 {
		is(t, r, 0, api.OK, api.OK)
	}
	if s := r.Text(api.MaxInt); s != "" {
		t.Error(s)
	}
	is(t, r, 0, api.ErrShort, api.ErrShort)
}

// Pk2: a zero Reader is as New of nothing; each kind of part comes too short.
func TestZeroReader(t *testing.T) {
	for _, x := range steps() {
		for _, r := range []*Reader{New(""), new(Reader), {}} {
			is(t, r, 0, api.OK, api.OK)
			if p := get(r, x); p != (part{kind: x.kind}) {
				t.Errorf("%v: %v", x, p)
			}
			is(t, r, 0, api.ErrShort, api.ErrShort)
		}
	}
}

// Pk2: of nil nothing is left, all that is read is a zero value, and there is no error.
func TestNilReader(t *testing.T) {
	var r *Reader
	is(t, r, 0, api.OK, api.OK)
	for _, x := range steps() {
		if p := get(r, x); p != (part{kind: x.kind}) {
			t.Errorf("%v: %v", x, p)
		}
		is(t, r, 0, api.OK, api.OK)
	}
}

// Pk2: a reader and a copy of it go on each by itself, and readers of the same bytes, too.
func TestCopiedReader(t *testing.T) {
	s := "\x01\x02ab"
	a := New(s)
	a.Flag()
	b := *a
	if a.Text(2) != "ab" || b.Left() != 3 || b.Num() != 2 || b.Flag() || b.Err() != api.ErrForm {
		t.Error("a copy is read otherwise")
	}
	is(t, a, 0, api.OK, api.OK)
	is(t, &b, 2, api.ErrForm, api.ErrForm)
	is(t, New(s), 4, api.OK, api.ErrForm)
}

// Pk2: of all short choices of bytes that count, read in all ways, a reader tells what the chapter's words say.
func TestReadAsModel(t *testing.T) {
	alphabet := "\x00\x01\x02\x03\x7f\x80\x81\xff"
	all := []string{""}
	for from, length := 0, 0; length < 4; length++ {
		to := len(all)
		for _, s := range all[from:to] {
			for i := range len(alphabet) {
				all = append(all, s+alphabet[i:i+1])
			}
		}
		from = to
	}
	for _, s := range all {
		for _, x := range steps() {
			for _, y := range steps() {
				r, m := New(s), &model{s: s}
				for _, z := range []step{x, y, x} {
					got, want := get(r, z), m.get(z)
					at := fmt.Sprintf("%q by %v, %v", s, x, y)
					if got != want {
						t.Fatalf("%s: %v, want %v", at, got, want)
					}
					same(t, r, m, at)
				}
			}
		}
	}
}

// Pk2: of drawn bytes, read in drawn ways, a reader tells what the chapter's words say.
func TestReadDrawn(t *testing.T) {
	r := rand.New(rand.NewSource(2))
	for range 20000 {
		b := make([]byte, r.Intn(30))
		for i := range b {
			b[i] = byte(r.Intn(256))
			if r.Intn(2) == 0 {
				b[i] %= 4
			}
		}
		rd, m := New(string(b)), &model{s: string(b)}
		for range 1 + r.Intn(12) {
			x := step{kind(r.Intn(4)), r.Intn(12) - 1}
			got, want := get(rd, x), m.get(x)
			at := fmt.Sprintf("%q by %v", b, x)
			if got != want {
				t.Fatalf("%s: %v, want %v", at, got, want)
			}
			same(t, rd, m, at)
		}
	}
}

// drawnPart is a part of any kind, of any length, that has bytes.
func drawnPart(r *rand.Rand) part {
	p := part{kind: kind(r.Intn(4))}
	switch p.kind {
	case num:
		p.n = r.Int() >> r.Intn(63)
	case signed:
		p.n = int(r.Uint64()) >> r.Intn(64)
	case text:
		b := make([]byte, r.Intn(8)*r.Intn(40))
		r.Read(b)
		p.s = string(b)
	case flag:
		p.is = r.Intn(2) == 1
	}
	return p
}

// Pk3: what is written is read as it was, part by part, in its order; and the end is reached.
func TestReadAsWritten(t *testing.T) {
	r := rand.New(rand.NewSource(3))
	for range 2000 {
		l := make([]part, r.Intn(20))
		for i := range l {
			l[i] = drawnPart(r)
		}
		rd := New(bytesOf(l...))
		for i, p := range l {
			if got := get(rd, step{p.kind, len(p.s)}); got != p {
				t.Fatalf("part %d: %v, want %v", i, got, p)
			}
		}
		is(t, rd, 0, api.OK, api.OK)
	}
}

// Pk3: cut off anywhere, what was written is read as it was up to the part that is cut, and is too short there.
func TestCutOff(t *testing.T) {
	mixed := []part{
		{kind: num, n: 300}, {kind: signed, n: -1}, {kind: text, s: "ab"}, {kind: flag, is: true},
		{kind: num, n: api.MaxInt}, {kind: signed, n: api.MinInt}, {kind: text, s: allBytes()}, {kind: flag},
		{kind: text, s: "\x00"}, {kind: text}, {kind: num}, {kind: signed, n: 1 << 40}, {kind: flag, is: true},
	}
	cutOff(t, mixed)
	r := rand.New(rand.NewSource(4))
	for range 50 {
		l := make([]part, 1+r.Intn(8))
		for i := range l {
			l[i] = drawnPart(r)
		}
		cutOff(t, l)
	}
}

// cutOff cuts parts off at every byte.
func cutOff(t *testing.T, l []part) {
	t.Helper()
	whole := bytesOf(l...)
	for cut := range len(whole) {
		r := New(whole[:cut])
		ahead := 0
		for i, p := range l {
			got, size := get(r, step{p.kind, len(p.s)}), len(bytesOf(p))
			if ahead+size > cut {
				if got != (part{kind: p.kind}) {
					t.Fatalf("cut off at %d: part %d is %v", cut, i, got)
				}
				is(t, r, cut-ahead, api.ErrShort, api.ErrShort)
				break
			}
			if got != p {
				t.Fatalf("cut off at %d: part %d is %v, want %v", cut, i, got, p)
			}
			ahead += size
		}
		if r.End() != api.ErrShort {
			t.Fatalf("cut off at %d: end %d", cut, r.End())
		}
	}
}
