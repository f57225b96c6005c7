package vari

import (
	"math/rand"
	"slices"
	"strings"
	"testing"

	"gossamer/api"
)

var (
	nine = strings.Repeat("\xff", 9)
	ten  = strings.Repeat("\xff", 10)
)

type taken struct {
	in   string
	n    int
	size int
	err  api.Errno
}

type taker struct {
	name string
	take func(string) (int, int, api.Errno)
}

var takers = []taker{{"Take", Take}, {"TakeSigned", TakeSigned}}

func checkTaken(t *testing.T, by taker, want taken) {
	t.Helper()
	n, size, err := by.take(want.in)
	if n != want.n || size != want.size || err != want.err {
		t.Errorf("%s(%x) = %d, %d, %d; want %d, %d, %d", by.name, want.in, n, size, err, want.n, want.size, want.err)
	}
}

// samples are 0, all numbers next to a power of two, some drawn ones of every length, and minus each.
func samples() []int {
	l := []int{0, api.MaxInt, api.MinInt}
	r := rand.New(rand.NewSource(1))
	for bit := range 63 {
		p := 1 << bit
		for _, n := range []int{p - 2, p - 1, p, p + 1, p + r.Intn(p)} {
			l = append(l, n, -n)
		}
	}
	return l
}

// Va1: Put.
func TestPut(t *testing.T) {
	for _, x := range []struct {
		n    int
		want string
	}{
		{0, "\x00"},
		{1, "\x01"},
		{127, "\x7f"},
		{128, "\x80\x01"},
		{129, "\x81\x01"},
		{255, "\xff\x01"},
		{256, "\x80\x02"},
		{300, "\xac\x02"},
		{128*128 - 1, "\xff\x7f"},
		{128 * 128, "\x80\x80\x01"},
		{1<<56 - 1, nine[:7] + "\x7f"},
		{1 << 56, strings.Repeat("\x80", 8) + "\x01"},
		{api.MaxInt - 1, "\xfe" + nine[:7] + "\x7f"},
		{api.MaxInt, nine[:8] + "\x7f"},
		{-1, ""},
		{-128, ""},
		{api.MinInt, ""},
	} {
		if s := Put(x.n); s != x.want {
			t.Errorf("Put(%d) = %x; want %x", x.n, s, x.want)
		}
	}
}

// Va1: PutSigned.
func TestPutSigned(t *testing.T) {
	for _, x := range []struct {
		n    int
		want string
	}{
		{0, "\x00"},
		{-1, "\x01"},
		{1, "\x02"},
		{-2, "\x03"},
		{63, "\x7e"},
		{-64, "\x7f"},
		{64, "\x80\x01"},
		{-65, "\x81\x01"},
		{150, "\xac\x02"},
		{8191, "\xfe\x7f"},
		{-8192, "\xff\x7f"},
		{8192, "\x80\x80\x01"},
		{1<<62 - 1, "\xfe" + nine[:7] + "\x7f"},
		{-1 << 62, nine[:8] + "\x7f"},
		{1 << 62, strings.Repeat("\x80", 9) + "\x01"},
		{-1<<62 - 1, "\x81" + strings.Repeat("\x80", 8) + "\x01"},
		{api.MaxInt, "\xfe" + nine[:8] + "\x01"},
		{api.MinInt, nine + "\x01"},
	} {
		if s := PutSigned(x.n); s != x.want {
			t.Errorf("PutSigned(%d) = %x; want %x", x.n, s, x.want)
		}
	}
}

// Va1: All.
func TestAll(t *testing.T) {
	if s := All(); s != "" {
		t.Errorf("All() = %x", s)
	}
	if s := All(nil...); s != "" {
		t.Errorf("All(nil...) = %x", s)
	}
	if s := All(-1, api.MinInt); s != "" {
		t.Errorf("All of numbers below 0 = %x", s)
	}
	l := []int{1, -5, 128, 0, api.MaxInt, 300}
	if s, want := All(l...), "\x01\x80\x01\x00"+nine[:8]+"\x7f\xac\x02"; s != want {
		t.Errorf("All(%d) = %x; want %x", l, s, want)
	}
	if l[0] != 1 || l[1] != -5 || l[5] != 300 {
		t.Errorf("All changed what was handed in: %d", l)
	}
	var each strings.Builder
	for _, n := range samples() {
		each.WriteString(Put(n))
	}
	if s := All(samples()...); s != each.String() {
		t.Errorf("All of the samples = %x; want %x", s, each.String())
	}
}

// Va1: Take, of what is a number and of what is none.
func TestTake(t *testing.T) {
	for _, want := range []taken{
		{"\x00", 0, 1, api.OK},
		{"\x7f", 127, 1, api.OK},
		{"\x80\x01", 128, 2, api.OK},
		{"\xac\x02", 300, 2, api.OK},
		{"\xac\x02\xff", 300, 2, api.OK},
		{"\x01\x00", 1, 1, api.OK},
		{"\x00\x00", 0, 1, api.OK},
		{"\x00\xff", 0, 1, api.OK},
		{nine[:8] + "\x7f", api.MaxInt, 9, api.OK},
		{nine[:8] + "\x01", 1<<57 - 1, 9, api.OK},
		{nine[:8] + "\x7f" + ten, api.MaxInt, 9, api.OK},
		{nine[:8] + "\x7f\x00", api.MaxInt, 9, api.OK},

		{"", 0, 0, api.ErrShort},
		{"\x80", 0, 0, api.ErrShort},
		{"\xff", 0, 0, api.ErrShort},
		{"\x80\x80", 0, 0, api.ErrShort},
		{nine[:8], 0, 0, api.ErrShort},

		{"\x80\x00", 0, 0, api.ErrForm},
		{"\x81\x00", 0, 0, api.ErrForm},
		{"\x80\x00\x01", 0, 0, api.ErrForm},
		{"\xff\x80\x00\x01", 0, 0, api.ErrForm},
		{nine[:8] + "\x00", 0, 0, api.ErrForm},
		{nine, 0, 0, api.ErrForm},
		{strings.Repeat("\x80", 9), 0, 0, api.ErrForm},
		{nine[:8] + "\x80", 0, 0, api.ErrForm},
		{nine + "\x00", 0, 0, api.ErrForm},
		{nine + "\x01", 0, 0, api.ErrForm},
		{ten, 0, 0, api.ErrForm},
		{strings.Repeat("\x80", 70) + "\x01", 0, 0, api.ErrForm},
	} {
		checkTaken(t, takers[0], want)
	}
}

// Va1: TakeSigned, likewise.
func TestTakeSigned(t *testing.T) {
	for _, want := range []taken{
		{"\x00", 0, 1, api.OK},
		{"\x01", -1, 1, api.OK},
		{"\x02", 1, 1, api.OK},
		{"\x7f", -64, 1, api.OK},
		{"\x80\x01", 64, 2, api.OK},
		{"\xac\x02\xff", 150, 2, api.OK},
		{"\x01\x00", -1, 1, api.OK},
		{nine[:8] + "\x7f", -1 << 62, 9, api.OK},
		{nine + "\x01", api.MinInt, 10, api.OK},
		{nine + "\x01\x00", api.MinInt, 10, api.OK},
		{"\xfe" + nine[:8] + "\x01" + ten, api.MaxInt, 10, api.OK},
		{nine[:8] + "\x7f\x02", -1 << 62, 9, api.OK},

		{"", 0, 0, api.ErrShort},
		{"\x80", 0, 0, api.ErrShort},
		{nine[:8], 0, 0, api.ErrShort},
		{nine, 0, 0, api.ErrShort},
		{strings.Repeat("\x80", 9), 0, 0, api.ErrShort},

		{"\x80\x00", 0, 0, api.ErrForm},
		{"\xff\x80\x00\x01", 0, 0, api.ErrForm},
		{nine[:8] + "\x00", 0, 0, api.ErrForm},
		{nine + "\x00", 0, 0, api.ErrForm},
		{nine + "\x02", 0, 0, api.ErrForm},
		{nine + "\x03", 0, 0, api.ErrForm},
		{nine + "\x7f", 0, 0, api.ErrForm},
		{nine + "\x80", 0, 0, api.ErrForm},
		{ten, 0, 0, api.ErrForm},
		{ten + "\x01", 0, 0, api.ErrForm},
		{strings.Repeat("\x80", 70) + "\x01", 0, 0, api.ErrForm},
	} {
		checkTaken(t, takers[1], want)
	}
}

// Va2: what is put is taken as it was, whatever stands behind.
func TestPutIsTaken(t *testing.T) {
	for _, n := range samples() {
		for _, behind := range []string{"", "\x00", "\x01", "\x7f", "\x80", "\xff", "\x80\x00", ten, Put(300)} {
			if s := Put(n); n >= 0 {
				checkTaken(t, takers[0], taken{s + behind, n, len(s), api.OK})
			}
			s := PutSigned(n)
			checkTaken(t, takers[1], taken{s + behind, n, len(s), api.OK})
		}
	}
}

// Va2: numbers that were put one behind the other are taken one by one.
func TestAllIsTaken(t *testing.T) {
	s := All(samples()...)
	for _, want := range samples() {
		if want < 0 {
			continue
		}
		n, size, err := Take(s)
		if n != want || err != api.OK {
			t.Fatalf("taken %d, %d; want %d", n, err, want)
		}
		s = s[size:]
	}
	if s != "" {
		t.Errorf("left: %x", s)
	}
}

// Va2: no part of what is put, but for the whole, is a number.
func TestCutIsShort(t *testing.T) {
	for _, n := range samples() {
		plain, signed := Put(n), PutSigned(n)
		for i := range len(plain) {
			checkTaken(t, takers[0], taken{plain[:i], 0, 0, api.ErrShort})
		}
		for i := range len(signed) {
			checkTaken(t, takers[1], taken{signed[:i], 0, 0, api.ErrShort})
		}
	}
}

// modelErr is the error that the chapter names of s, word for word; most is 9, or 10 of numbers that may be below 0.
func modelErr(s string, most int) api.Errno {
	last := slices.IndexFunc([]byte(s), func(c byte) bool { return c < 128 })
	switch {
	case len(s) >= most && (last < 0 || last >= most):
		return api.ErrForm
	case last > 0 && s[last] == 0:
		return api.ErrForm
	case most == 10 && last == 9 && s[last] > 1:
		return api.ErrForm
	case last < 0:
		return api.ErrShort
	}
	return api.OK
}

// checkBytes holds what is taken of s against the model, and whatever is taken against what is put.
func checkBytes(t *testing.T, s string) {
	t.Helper()
	for i, put := range []func(int) string{Put, PutSigned} {
		by := takers[i]
		n, size, err := by.take(s)
		if want := modelErr(s, 9+i); err != want {
			t.Fatalf("%s(%x): error %d; want %d", by.name, s, err, want)
		}
		if err != api.OK {
			if n != 0 || size != 0 {
				t.Fatalf("%s(%x) = %d, %d beside error %d", by.name, s, n, size, err)
			}
			continue
		}
		if size < 1 || size > len(s) || put(n) != s[:size] {
			t.Fatalf("%s(%x) = %d of %d bytes, but its bytes are %x", by.name, s, n, size, put(n))
		}
	}
}

// Va1 and Va2: whatever is taken was put so; all texts of up to two bytes, and the edges at every place of longer ones.
func TestTakenWasPut(t *testing.T) {
	checkBytes(t, "")
	for a := range 256 {
		checkBytes(t, string([]byte{byte(a)}))
		for b := range 256 {
			checkBytes(t, string([]byte{byte(a), byte(b)}))
		}
	}
	for size := range 13 {
		for _, fill := range []string{"\x80", "\x81", "\xff"} {
			for _, last := range []string{"\x00", "\x01", "\x02", "\x7e", "\x7f", "\x80", "\xfe", "\xff"} {
				for _, behind := range []string{"", "\x00", "\x01", "\x80"} {
					checkBytes(t, strings.Repeat(fill, size)+last+behind)
				}
			}
		}
	}
}

// Va1 and Va2: likewise, of drawn bytes of which most are digits that others follow.
func TestTakenOfDrawnBytes(t *testing.T) {
	r := rand.New(rand.NewSource(2))
	edges := []byte{0, 1, 2, 127, 128, 129, 254, 255}
	for range 200_000 {
		b := make([]byte, r.Intn(14))
		for i := range b {
			switch r.Intn(8) {
			case 0:
				b[i] = edges[r.Intn(len(edges))]
			case 1:
				b[i] = byte(r.Intn(256))
			default:
				b[i] = byte(128 + r.Intn(128))
			}
		}
		checkBytes(t, string(b))
	}
}

// Va2: a number has not fewer bytes than a lesser one, and has as few as its bits need.
func TestBytesRise(t *testing.T) {
	last := len(Put(-1))
	for n := range 70_000 {
		if len(Put(n)) < last {
			t.Fatalf("%d has %d bytes, a lesser one %d", n, len(Put(n)), last)
		}
		last = len(Put(n))
	}
	for bit := range 63 {
		lesser, n := len(Put(1<<bit-1)), len(Put(1<<bit))
		if want := bit/7 + 1; n != want || lesser > n {
			t.Errorf("2^%d has %d bytes, the one ahead %d; want %d", bit, n, lesser, want)
		}
	}
	if n := len(Put(api.MaxInt)); n != 9 {
		t.Errorf("the greatest number has %d bytes", n)
	}
}

// Va2: likewise of numbers that may be below 0, as far as they are on one side of 0.
func TestSignedBytesRise(t *testing.T) {
	for n := range 70_000 {
		if len(PutSigned(n+1)) < len(PutSigned(n)) || len(PutSigned(-n-1)) < len(PutSigned(-n)) {
			t.Fatalf("%d, or minus that, has more bytes than the next one away from 0", n)
		}
	}
	for bit := range 63 {
		want := (bit+1)/7 + 1
		if up, down := len(PutSigned(1<<bit)), len(PutSigned(-1<<bit-1)); up != want || down != want {
			t.Errorf("2^%d has %d bytes, and minus that less 1 has %d; want %d", bit, up, down, want)
		}
	}
}
