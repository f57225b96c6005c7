package frame

import (
	"encoding/binary"
	"hash/crc32"
	"math/rand"
	"slices"
	"strings"
	"testing"
	"unsafe"

	"gossamer/api"
	"gossamer/crc"
)

// sumOf is the sum of a frame's count, number and data, as Go's library makes it, of which the program knows nothing.
func sumOf(count uint32, seq int, data string) uint32 {
	var b []byte
	b = binary.BigEndian.AppendUint32(b, count)
	b = binary.BigEndian.AppendUint64(b, uint64(seq))
	b = append(b, data...)
	return crc32.Checksum(b, crc32.MakeTable(crc32.Castagnoli))
}

// raw are the bytes of a frame, whether it may be or not, with any count and any sum.
func raw(count, sum uint32, seq int, data string) string {
	var b []byte
	b = binary.BigEndian.AppendUint32(b, count)
	b = binary.BigEndian.AppendUint32(b, sum)
	b = binary.BigEndian.AppendUint64(b, uint64(seq))
	return string(append(b, data...))
}

// summed are the bytes of a frame, whether it may be or not, with the sum that is right for its count, its number and its data.
func summed(count uint32, seq int, data string) string {
	return raw(count, sumOf(count, seq, data), seq, data)
}

// built are the bytes of a frame of a number and data, whether it may be or not.
func built(seq int, data string) string { return summed(uint32(len(data)), seq, data) }

// modelTake is what the chapter's words take.
func modelTake(s string) (api.Frame, int, api.Errno) {
	if len(s) < 16 {
		return api.Frame{}, 0, api.ErrShort
	}
	b := []byte(s)
	count := uint64(binary.BigEndian.Uint32(b))
	if count > 65536 {
		return api.Frame{}, 0, api.ErrBig
	}
	if uint64(len(s)) < 16+count {
		return api.Frame{}, 0, api.ErrShort
	}
	seq, data := int(int64(binary.BigEndian.Uint64(b[8:]))), s[16:16+count]
	if sumOf(uint32(count), seq, data) != binary.BigEndian.Uint32(b[4:]) {
		return api.Frame{}, 0, api.ErrSum
	}
	if seq < 1 {
		return api.Frame{}, 0, api.ErrForm
	}
	return api.Frame{Seq: seq, Data: data}, int(16 + count), api.OK
}

// modelAll is what the chapter's words take one behind the other.
func modelAll(s string) ([]api.Frame, int, api.Errno) {
	var l []api.Frame
	size := 0
	for size < len(s) {
		f, n, err := modelTake(s[size:])
		if err != api.OK {
			return l, size, err
		}
		l, size = append(l, f), size+n
	}
	return l, size, api.OK
}

// drawn are so many drawn bytes.
func drawn(r *rand.Rand, size int) string {
	b := make([]byte, size)
	r.Read(b)
	return string(b)
}

// allBytes is a text with bytes of every value.
func allBytes() string {
	var b []byte
	for c := range 256 {
		b = append(b, byte(c))
	}
	return string(b)
}

// numbers are numbers that a frame may have: at each edge of their lengths, and the ends.
func numbers() []int {
	l := []int{1, 2, 3, 258, api.MaxSeq, api.MaxInt - 1, api.MaxInt}
	for bit := 2; bit < 63; bit++ {
		l = append(l, 1<<bit-1, 1<<bit, 1<<bit+1)
	}
	return l
}

// below are numbers that a frame may not have.
func below() []int {
	return []int{0, -1, -2, -255, -256, -1 << 31, -1 << 32, -api.MaxInt, api.MinInt + 1, api.MinInt}
}

// texts are data that a frame may have: of no byte, of one, of bytes of every value, and up to as many as may be.
func texts() []string {
	l := []string{"", "\x00", "a", "\xff", "abc", "ä€", allBytes(), strings.Repeat("\x00", 16), strings.Repeat("\xff", 16)}
	for _, n := range []int{255, 256, 257, 1000, 65535, 65536} {
		l = append(l, strings.Repeat("x", n))
	}
	return append(l, drawn(rand.New(rand.NewSource(1)), 65536))
}

// short is a text for what is told of a failure.
func short(s string) string {
	if len(s) > 40 {
		return s[:40] + ".."
	}
	return s
}

// checkPut holds what is put against what is wanted.
func checkPut(t *testing.T, seq int, data, want string, wantErr api.Errno) {
	t.Helper()
	if s, err := Put(seq, data); s != want || err != wantErr {
		t.Errorf("Put(%d, %d bytes) = %x of %d bytes, %d; want %x of %d bytes, %d", seq, len(data), short(s), len(s), err, short(want), len(want), wantErr)
	}
}

// checkTake holds what is taken of s against what is wanted.
func checkTake(t *testing.T, s string, want api.Frame, wantSize int, wantErr api.Errno) {
	t.Helper()
	if f, size, err := Take(s); f != want || size != wantSize || err != wantErr {
		t.Errorf("Take(%x) of %d bytes = %d, %d bytes, %d, %d; want %d, %d bytes, %d, %d", short(s), len(s), f.Seq, len(f.Data), size, err, want.Seq, len(want.Data), wantSize, wantErr)
	}
}

// checkNone fails if s begins with a frame, or tells another error.
func checkNone(t *testing.T, s string, want api.Errno) {
	t.Helper()
	checkTake(t, s, api.Frame{}, 0, want)
	checkAll(t, s, nil, 0, want)
}

// each are the frames that Each gives.
func each(s string) []api.Frame {
	var l []api.Frame
	for f := range Each(s) {
		l = append(l, f)
	}
	return l
}

// checkAll holds what is told of frames one behind the other, by All and by Each, against what is wanted.
func checkAll(t *testing.T, s string, want []api.Frame, wantSize int, wantErr api.Errno) {
	t.Helper()
	l, size, err := All(s)
	if !slices.Equal(l, want) || size != wantSize || err != wantErr {
		t.Errorf("All(%x) of %d bytes = %d frames, %d, %d; want %d frames, %d, %d", short(s), len(s), len(l), size, err, len(want), wantSize, wantErr)
	}
	if l := each(s); !slices.Equal(l, want) {
		t.Errorf("Each(%x) of %d bytes gives %d frames; want %d", short(s), len(s), len(l), len(want))
	}
}

// some are frames, one behind the other: the texts of several, their bytes, and where each begins and the last one ends.
func some(texts ...string) ([]api.Frame, string, []int) {
	var l []api.Frame
	s, at := "", []int{0}
	for i, data := range texts {
		l = append(l, api.Frame{Seq: i + 7, Data: data})
		s += built(i+7, data)
		at = append(at, len(s))
	}
	return l, s, at
}

// Fr1: each byte of a frame at its place: the count of data's bytes, the sum, the number, the data.
func TestBytes(t *testing.T) {
	for _, x := range []struct {
		seq  int
		data string
		want string
	}{
		{1, "", "\x00\x00\x00\x00" + "\xd9\x0b\x36\x5e" + "\x00\x00\x00\x00\x00\x00\x00\x01"},
		{0x0102030405060708, "abc", "\x00\x00\x00\x03" + "\x90\x98\xdf\xbc" + "\x01\x02\x03\x04\x05\x06\x07\x08" + "abc"},
		{api.MaxInt, "\x00\xff", "\x00\x00\x00\x02" + "\x3e\xf1\x1a\x16" + "\x7f\xff\xff\xff\xff\xff\xff\xff" + "\x00\xff"},
	} {
		checkPut(t, x.seq, x.data, x.want, api.OK)
		checkTake(t, x.want, api.Frame{Seq: x.seq, Data: x.data}, len(x.want), api.OK)
	}
}

// Fr1: counts of one, of two and of three bytes, the greatest first.
func TestCount(t *testing.T) {
	for many, want := range map[int]string{0: "\x00\x00\x00\x00", 1: "\x00\x00\x00\x01", 255: "\x00\x00\x00\xff", 258: "\x00\x00\x01\x02", 65535: "\x00\x00\xff\xff", 65536: "\x00\x01\x00\x00"} {
		s, err := Put(5, strings.Repeat("x", many))
		if err != api.OK || len(s) != 16+many || s[:4] != want {
			t.Errorf("of %d bytes: %x of %d bytes, %d; want %x", many, short(s), len(s), err, want)
		}
	}
}

// Fr1: the sum is layer 2's, of the count, the number and the data, the greatest byte first.
func TestSum(t *testing.T) {
	for _, seq := range numbers() {
		s, _ := Put(seq, "data")
		if len(s) != 20 {
			t.Fatalf("Put(%d, data) = %x", seq, s)
		}
		if sum := crc.Sum(s[:4], s[8:]); sum != int(binary.BigEndian.Uint32([]byte(s[4:]))) {
			t.Errorf("Put(%d, data) = %x, whose sum is %x", seq, s, sum)
		}
	}
}

// Fr1: all numbers and data that may be, put, and taken, with nothing behind and with something.
func TestMayBe(t *testing.T) {
	for _, data := range texts() {
		for _, seq := range []int{1, 2, 258, api.MaxSeq, api.MaxInt} {
			s := built(seq, data)
			checkPut(t, seq, data, s, api.OK)
			for _, behind := range []string{"", "\x00", "more", s} {
				checkTake(t, s+behind, api.Frame{Seq: seq, Data: data}, len(s), api.OK)
			}
		}
	}
	for _, seq := range numbers() {
		for _, data := range []string{"", "abc"} {
			s := built(seq, data)
			checkPut(t, seq, data, s, api.OK)
			checkTake(t, s, api.Frame{Seq: seq, Data: data}, len(s), api.OK)
		}
	}
}

// Fr1: a number below 1 is told ahead of data of too many bytes.
func TestMayNotBe(t *testing.T) {
	full := strings.Repeat("x", 65536)
	for _, seq := range below() {
		for _, data := range []string{"", "a", full, full + "x", full + full} {
			checkPut(t, seq, data, "", api.ErrArg)
		}
	}
	for _, seq := range []int{1, 2, api.MaxInt} {
		checkPut(t, seq, full, built(seq, full), api.OK)
		checkPut(t, seq, full+"x", "", api.ErrBig)
		checkPut(t, seq, full+full, "", api.ErrBig)
	}
}

// Fr1: fewer than 16 bytes are too few, whatever they are, a count above 65536 among it.
func TestTooShort(t *testing.T) {
	checkTake(t, "", api.Frame{}, 0, api.ErrShort)
	for n := 1; n < 16; n++ {
		for _, s := range []string{strings.Repeat("\x00", n), strings.Repeat("\xff", n), built(1, "")[:n], built(1, "abc")[:n], summed(65537, 1, "")[:n], built(0, "")[:n]} {
			checkNone(t, s, api.ErrShort)
		}
	}
}

// Fr1: a count above 65536 is told ahead of all else: with and without as many bytes there, with a right sum, a wrong one and a number below 1.
func TestCountTooBig(t *testing.T) {
	many := strings.Repeat("x", 1<<17)
	for _, count := range []uint32{65537, 65538, 1 << 17, 1 << 24, 1<<24 + 3, 1<<31 - 1, 1 << 31, 1<<32 - 1} {
		for _, data := range []string{"", "a", many[:65536], many[:65537], many} {
			for _, seq := range []int{1, 0, -1, api.MinInt} {
				checkNone(t, summed(count, seq, data), api.ErrBig)
				checkNone(t, raw(count, 0, seq, data), api.ErrBig)
			}
		}
	}
	checkTake(t, built(1, many[:65536])+many, api.Frame{Seq: 1, Data: many[:65536]}, 16+65536, api.OK)
}

// Fr1: a count of more bytes than there are is told ahead of the sum and the number.
func TestCountTooFar(t *testing.T) {
	for _, count := range []int{1, 2, 3, 15, 16, 17, 255, 256, 65535, 65536} {
		for _, there := range []int{0, 1, count / 2, count - 1} {
			data := strings.Repeat("x", min(there, count-1))
			for _, seq := range []int{1, 0, -1, api.MinInt} {
				checkNone(t, summed(uint32(count), seq, data), api.ErrShort)
				checkNone(t, raw(uint32(count), 0, seq, data), api.ErrShort)
			}
		}
	}
}

// Fr1: another sum is told, also together with a number below 1, which is told if the sum is right.
func TestWrongSum(t *testing.T) {
	for _, data := range []string{"", "a", "abc", allBytes(), strings.Repeat("x", 65536)} {
		for _, seq := range append(below(), 1, 2, 258, api.MaxInt) {
			count := uint32(len(data))
			sum := sumOf(count, seq, data)
			for bit := range 32 {
				checkNone(t, raw(count, sum^1<<bit, seq, data), api.ErrSum)
			}
			for _, other := range []uint32{^sum, sum + 1, sum - 1, sum<<8 | sum>>24} {
				checkNone(t, raw(count, other, seq, data), api.ErrSum)
			}
			if seq < 1 {
				checkNone(t, raw(count, sum, seq, data), api.ErrForm)
				checkNone(t, raw(count, sum, seq, data)+built(1, ""), api.ErrForm)
			}
		}
	}
}

// Fr1: bytes of 0 are no frame: their sum is another one.
func TestZeroBytes(t *testing.T) {
	for n := 16; n < 50; n++ {
		checkNone(t, strings.Repeat("\x00", n), api.ErrSum)
	}
}

// Fr1, Fr2: what is told of drawn bytes, of frames with some bytes changed, and of such with a right sum, is what the chapter's words tell.
func TestDrawn(t *testing.T) {
	r := rand.New(rand.NewSource(2))
	counts := []uint32{0, 1, 2, 3, 5, 40, 65536, 65537}
	for range 20000 {
		s := ""
		for range r.Intn(5) {
			data := drawn(r, r.Intn(5))
			seq := int(r.Uint64()) >> r.Intn(64)
			switch r.Intn(6) {
			case 0:
				s += drawn(r, r.Intn(40))
			case 1:
				s += summed(counts[r.Intn(len(counts))], seq, data)
			case 2:
				s += raw(uint32(len(data)), r.Uint32(), seq, data)
			default:
				s += built(max(seq, -seq), data)
			}
		}
		s = s[:max(0, len(s)-r.Intn(60)*r.Intn(2))]
		f, size, err := modelTake(s)
		checkTake(t, s, f, size, err)
		l, size, err := modelAll(s)
		checkAll(t, s, l, size, err)
		if t.Failed() {
			return
		}
	}
}

// Fr2: nothing is no frame, and no error.
func TestAllOfNothing(t *testing.T) {
	checkAll(t, "", nil, 0, api.OK)
}

// Fr2: one frame, and several, of any data.
func TestAll(t *testing.T) {
	for _, data := range texts() {
		l, s, _ := some(data)
		checkAll(t, s, l, len(s), api.OK)
	}
	l, s, _ := some(texts()...)
	checkAll(t, s, l, len(s), api.OK)
	// Numbers need not rise, nor differ.
	s = built(9, "a") + built(3, "") + built(3, "") + built(api.MaxInt, "b") + built(1, "a")
	checkAll(t, s, []api.Frame{{Seq: 9, Data: "a"}, {Seq: 3}, {Seq: 3}, {Seq: api.MaxInt, Data: "b"}, {Seq: 1, Data: "a"}}, len(s), api.OK)
}

// Fr2: what is broken ends it, at each place, with whole frames behind; those ahead, their bytes and the error are told.
func TestAllBroken(t *testing.T) {
	l, s, at := some("abc", "", "d", allBytes(), "")
	for broken, err := range map[string]api.Errno{
		raw(1, 0, 10, "x"):     api.ErrSum,
		raw(0, 0, 0, ""):       api.ErrSum,
		built(0, "x"):          api.ErrForm,
		built(-1, ""):          api.ErrForm,
		built(api.MinInt, ""):  api.ErrForm,
		summed(65537, 10, "x"): api.ErrBig,
		summed(65536, 10, "x"): api.ErrShort,
	} {
		for i, from := range at {
			checkAll(t, s[:from]+broken+s[from:], l[:i], from, err)
		}
	}
	for i, from := range at {
		checkAll(t, s[:from]+"x", l[:i], from, api.ErrShort)
	}
}

// Fr2, Fr3: cut off at each byte, the whole frames are told, how many bytes they have, and that what is left is too short.
func TestAllCut(t *testing.T) {
	for _, texts := range [][]string{{""}, {"a"}, {"abc", "", "d"}, {"", "", ""}, {allBytes(), "", allBytes()}} {
		l, s, at := some(texts...)
		for cut := range len(s) + 1 {
			whole := 0
			for whole < len(l) && at[whole+1] <= cut {
				whole++
			}
			err := api.ErrShort
			if at[whole] == cut {
				err = api.OK
			}
			checkAll(t, s[:cut], l[:whole], at[whole], err)
		}
	}
}

// Fr2: as many frames as one likes: what took each from the beginning anew would not end here.
func TestAllMany(t *testing.T) {
	const many = 1 << 17
	var b strings.Builder
	for i := range many {
		b.WriteString(built(i+1, "ab"))
	}
	l, size, err := All(b.String())
	if len(l) != many || size != b.Len() || err != api.OK {
		t.Fatalf("%d frames, %d, %d", len(l), size, err)
	}
	for i, f := range l {
		if f.Seq != i+1 || f.Data != "ab" {
			t.Fatalf("frame %d is %#v", i, f)
		}
	}
}

// Fr2: one that takes frames may stop behind any of them, the first and the last one among them, and begin anew.
func TestEachStops(t *testing.T) {
	l, whole, _ := some("abc", "", "d", allBytes(), "e")
	for _, s := range []string{whole, whole + "x", whole + raw(0, 0, 1, "") + built(1, "")} {
		given := Each(s)
		for most := 1; most <= len(l)+1; most++ {
			var got []api.Frame
			for f := range given {
				got = append(got, f)
				if len(got) == most {
					break
				}
			}
			if want := l[:min(most, len(l))]; !slices.Equal(got, want) {
				t.Errorf("up to %d of %d frames: %#v", most, len(l), got)
			}
		}
	}
}

// Fr2: Each gives no more once no more is wanted, and tells frames again as often as it is ranged over, also within itself.
func TestEachAgain(t *testing.T) {
	l, s, _ := some("a", "", "bc")
	given := Each(s)
	calls := 0
	given(func(api.Frame) bool {
		calls++
		return calls < 2
	})
	if calls != 2 {
		t.Errorf("%d calls; want 2", calls)
	}
	var got []api.Frame
	for f := range given {
		got = append(got, f)
		if inner := slices.Collect(given); !slices.Equal(inner, l) {
			t.Errorf("within itself: %#v", inner)
		}
	}
	if !slices.Equal(got, l) {
		t.Errorf("%#v; want %#v", got, l)
	}
}

// Fr2: a function that is ranged over is never nil, and gives nothing if there is nothing.
func TestEachOfNothing(t *testing.T) {
	for _, s := range []string{"", "x", strings.Repeat("\x00", 16), built(0, "")} {
		given := Each(s)
		if given == nil {
			t.Fatalf("Each(%x) is nil", s)
		}
		for f := range given {
			t.Errorf("Each(%x) gives %#v", s, f)
		}
	}
}

// Fr1, Fr2: an answer is new memory: it holds on to none of what is handed in.
func TestNewMemory(t *testing.T) {
	_, s, _ := some("abc", "def")
	first, last := unsafe.StringData(s), uintptr(len(s))
	check := func(f api.Frame) {
		t.Helper()
		if at := uintptr(unsafe.Pointer(unsafe.StringData(f.Data))) - uintptr(unsafe.Pointer(first)); at < last {
			t.Errorf("the data of frame %d are those at %d of what was handed in", f.Seq, at)
		}
	}
	f, _, _ := Take(s)
	check(f)
	l, _, _ := All(s)
	for _, f := range append(l, each(s)...) {
		check(f)
	}
	l[0] = api.Frame{}
	if again, _, _ := All(s); again[0].Data != "abc" {
		t.Errorf("a second answer is %#v", again)
	}
}

// Fr3: what is put is taken as it was, whatever stands behind, and is too short wherever it is cut off.
func TestPutTaken(t *testing.T) {
	r := rand.New(rand.NewSource(3))
	for range 500 {
		seq, data := max(1, r.Int()>>r.Intn(63)), drawn(r, r.Intn(60))
		s, err := Put(seq, data)
		if err != api.OK {
			t.Fatalf("Put(%d, %x): %d", seq, data, err)
		}
		checkTake(t, s+drawn(r, r.Intn(40)), api.Frame{Seq: seq, Data: data}, len(s), api.OK)
		for cut := range len(s) {
			checkTake(t, s[:cut], api.Frame{}, 0, api.ErrShort)
		}
	}
	full, _ := Put(1, strings.Repeat("x", 65536))
	for _, cut := range []int{0, 15, 16, 17, 300, 65536, len(full) - 1} {
		checkTake(t, full[:cut], api.Frame{}, 0, api.ErrShort)
	}
}

// Fr3: what is taken is put as it was.
func TestTakenPut(t *testing.T) {
	_, s, _ := some(texts()...)
	put := ""
	for f := range Each(s) {
		p, err := Put(f.Seq, f.Data)
		if err != api.OK {
			t.Errorf("Put(%d, %d bytes): %d", f.Seq, len(f.Data), err)
		}
		put += p
	}
	if put != s {
		t.Errorf("put again: %d bytes; want the %d that were read", len(put), len(s))
	}
}

// turn is s with those bits turned that are 1 in change, from the bit of that number on; the lowest one of a byte is the first, as sums take them.
func turn(s string, from int, change uint32) string {
	b := []byte(s)
	for i := range 32 {
		if change>>i&1 == 1 {
			at := from + i
			b[at/8] ^= 1 << (at % 8)
		}
	}
	return string(b)
}

// checkTurned fails if a frame of the number 1 or above is one still with bits of its number and its data turned.
func checkTurned(t *testing.T, s string, from int, change uint32) {
	t.Helper()
	other := turn(s, 8*8+from, change)
	if f, size, err := Take(other); f != (api.Frame{}) || size != 0 || err != api.ErrSum {
		t.Fatalf("%x is %x with bits turned, and tells %#v, %d, %d", other, s, f, size, err)
	}
	if l, size, err := All(other + s); l != nil || size != 0 || err != api.ErrSum {
		t.Fatalf("%x is %x with bits turned, and tells %#v, %d, %d", other, s, l, size, err)
	}
}

// Fr3: each change of up to 8 bits that follow one another, wherever it is in the number and the data.
func TestFewBitsTurned(t *testing.T) {
	for _, s := range []string{built(1, ""), built(api.MaxInt, "a"), built(258, "abcdef")} {
		bits := 8 * (len(s) - 8)
		for change := uint32(1); change < 1<<8; change += 2 {
			for from := range bits - 7 {
				checkTurned(t, s, from, change)
			}
		}
	}
}

// Fr3: changes of 9 to 32 bits: all of them turned, the first and the last one alone, every second one, and drawn ones.
func TestManyBitsTurned(t *testing.T) {
	r := rand.New(rand.NewSource(4))
	for _, size := range []int{0, 1, 4, 20} {
		s := built(r.Int()|1, drawn(r, size))
		for many := 9; many <= 32; many++ {
			ends := uint32(1) | 1<<(many-1)
			whole := uint32(1)<<many - 1
			changes := []uint32{ends, whole, whole & 0x55555555, whole &^ 0x55555555}
			for range 5 {
				changes = append(changes, ends|r.Uint32()&whole)
			}
			for from := range 8*(len(s)-8) - many + 1 {
				for _, change := range changes {
					checkTurned(t, s, from, change)
				}
			}
		}
	}
}
