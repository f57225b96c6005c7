package name

import (
	"fmt"
	"math/rand"
	"regexp"
	"slices"
	"strconv"
	"strings"
	"testing"

	"gossamer/api"
)

// greatest is the greatest number of 18 digits.
const greatest = 999_999_999_999_999_999

// kinds are all kinds that files have, numbers that are none, and the ends.
func kinds() []int {
	return []int{api.MinInt, -3, -2, -1, Other, Log, Image, Main, Fresh, 5, 6, 257, 1<<32 + 1, api.MaxInt}
}

// numbers are the edges of what a file may have, from below 0 to the end, rising.
func numbers() []int {
	l := []int{
		api.MinInt, -1_000_000_000_000_000_001, -1_000_000_000_000_000_000, -greatest, -10, -9, -2, -1,
		0, 1, 2, 7, 1<<32 - 1, 1 << 32, 1<<32 + 1, api.MaxInt - 1, api.MaxInt,
	}
	for n := 1; n <= greatest; {
		n *= 10
		l = append(l, n-1, n, n+1)
	}
	slices.Sort(l)
	return slices.Compact(l)
}

// drawn are numbers of every length, about as many below 0 as not.
func drawn(r *rand.Rand) int { return int(r.Uint64()) >> r.Intn(64) }

// modelOf is the chapter's words, one by one.
func modelOf(kind, n int) string {
	switch {
	case kind == 1 && n >= 1 && n <= greatest:
		return fmt.Sprintf("log.%d", n)
	case kind == 2 && n >= 1 && n <= greatest:
		return fmt.Sprintf("image.%d", n)
	case kind == 3:
		return "main"
	case kind == 4:
		return "main.new"
	}
	return ""
}

var numberedName = regexp.MustCompile(`\A(log|image)\.([1-9][0-9]{0,17})\z`)

// modelKind is the chapter's words, as a pattern.
func modelKind(name string) (int, int) {
	switch name {
	case "main":
		return 3, 0
	case "main.new":
		return 4, 0
	}
	parts := numberedName.FindStringSubmatch(name)
	if parts == nil {
		return 0, 0
	}
	n, err := strconv.Atoi(parts[2])
	if err != nil {
		panic(err)
	}
	return map[string]int{"log": 1, "image": 2}[parts[1]], n
}

// modelNumbers are those of the kind, each put in its place as it comes.
func modelNumbers(kind int, names []string) []int {
	var l []int
	for _, name := range names {
		k, n := modelKind(name)
		if k != kind {
			continue
		}
		at := 0
		for at < len(l) && l[at] <= n {
			at++
		}
		l = slices.Insert(l, at, n)
	}
	return l
}

// checkKind holds what is told of a name against what is wanted.
func checkKind(t *testing.T, name string, kind, n int) {
	t.Helper()
	if k, got := Kind(name); k != kind || got != n {
		t.Errorf("Kind(%q) = %d, %d; want %d, %d", name, k, got, kind, n)
	}
}

// checkModel holds what is told of a name against the chapter's words.
func checkModel(t *testing.T, name string) {
	t.Helper()
	kind, n := modelKind(name)
	checkKind(t, name, kind, n)
}

// checkNumbers holds the numbers of names against those that are wanted.
func checkNumbers(t *testing.T, kind int, names []string, want ...int) {
	t.Helper()
	if l := Numbers(kind, names...); !slices.Equal(l, want) {
		t.Errorf("Numbers(%d, %q) = %d; want %d", kind, names, l, want)
	}
}

// Nm1: the kinds' numbers are those of the chapter.
func TestKinds(t *testing.T) {
	if got, want := [...]int{Other, Log, Image, Main, Fresh}, [...]int{0, 1, 2, 3, 4}; got != want {
		t.Errorf("%d; want %d", got, want)
	}
}

// Nm1: Of, of each kind, and of those that are none, at the edges of the numbers.
func TestOf(t *testing.T) {
	for _, x := range []struct {
		kind, n int
		want    string
	}{
		{Log, 1, "log.1"},
		{Log, 9, "log.9"},
		{Log, 10, "log.10"},
		{Log, 100, "log.100"},
		{Log, 123_456_789, "log.123456789"},
		{Log, 1_234_567_890, "log.1234567890"},
		{Log, 4_294_967_297, "log.4294967297"},
		{Log, 99_999_999_999_999_999, "log.99999999999999999"},
		{Log, 100_000_000_000_000_000, "log.100000000000000000"},
		{Log, 123_456_789_012_345_678, "log.123456789012345678"},
		{Log, greatest, "log.999999999999999999"},
		{Log, greatest + 1, ""},
		{Log, 1_234_567_890_123_456_789, ""},
		{Log, api.MaxInt, ""},
		{Log, 0, ""},
		{Log, -1, ""},
		{Log, -7, ""},
		{Log, -123_456_789, ""},
		{Log, -greatest, ""},
		{Log, api.MinInt, ""},

		{Image, 1, "image.1"},
		{Image, 20, "image.20"},
		{Image, 123_456_789, "image.123456789"},
		{Image, 1_234_567_890, "image.1234567890"},
		{Image, 100_000_000_000_000_000, "image.100000000000000000"},
		{Image, greatest, "image.999999999999999999"},
		{Image, greatest + 1, ""},
		{Image, api.MaxInt, ""},
		{Image, 0, ""},
		{Image, -1, ""},
		{Image, api.MinInt, ""},
	} {
		if s := Of(x.kind, x.n); s != x.want {
			t.Errorf("Of(%d, %d) = %q; want %q", x.kind, x.n, s, x.want)
		}
	}
	for _, n := range numbers() {
		if s := Of(Main, n); s != "main" {
			t.Errorf("Main, %d: %q", n, s)
		}
		if s := Of(Fresh, n); s != "main.new" {
			t.Errorf("Fresh, %d: %q", n, s)
		}
		for _, kind := range []int{api.MinInt, -2, -1, Other, 5, 6, 257, 258, 1<<32 + 1, api.MaxInt} {
			if s := Of(kind, n); s != "" {
				t.Errorf("%d, %d: %q", kind, n, s)
			}
		}
	}
}

// Nm1: Of is the chapter's words, at the edges and at drawn numbers.
func TestOfModel(t *testing.T) {
	r := rand.New(rand.NewSource(1))
	l := numbers()
	for range 20_000 {
		l = append(l, drawn(r))
	}
	for _, n := range l {
		for _, kind := range kinds() {
			if got, want := Of(kind, n), modelOf(kind, n); got != want {
				t.Errorf("Of(%d, %d) = %q; want %q", kind, n, got, want)
			}
		}
	}
}

// Nm1: Kind, of names that files have.
func TestKindOfNames(t *testing.T) {
	for _, x := range []struct {
		name    string
		kind, n int
	}{
		{"log.1", Log, 1},
		{"log.7", Log, 7},
		{"log.10", Log, 10},
		{"log.101", Log, 101},
		{"log.900", Log, 900},
		{"log.4294967297", Log, 4_294_967_297},
		{"log.12345678901234567", Log, 12_345_678_901_234_567},
		{"log.100000000000000000", Log, 100_000_000_000_000_000},
		{"log.123456789012345678", Log, 123_456_789_012_345_678},
		{"log.999999999999999999", Log, greatest},
		{"image.1", Image, 1},
		{"image.20", Image, 20},
		{"image.908070605040302010", Image, 908_070_605_040_302_010},
		{"image.999999999999999999", Image, greatest},
		{"main", Main, 0},
		{"main.new", Fresh, 0},
	} {
		checkKind(t, x.name, x.kind, x.n)
	}
}

// Nm1: Kind, of the words alone, and of what is like a name.
func TestKindOfOtherWords(t *testing.T) {
	for _, name := range []string{
		"", " ", ".", "0", "1", "7", "new", ".new", ".7",
		"log", "log.", "image", "image.", "main.", "main.ne", "main.new.",
		"Log.7", "LOG.7", "lOg.7", "loG.7", "Image.7", "IMAGE.7", "imagE.7",
		"Main", "MAIN", "maiN", "Main.new", "MAIN.NEW", "main.New", "main.neW",
		"main.new.1", "main.new1", "main.newer", "main.new.new", "main.new ", "main.new\x00", "main.newmain.new",
		"main.1", "main1", "main7", "main-new", "mainnew", "main .new", "main. new", " main", "main ", "main\n", "main\x00", "xmain", "mainmain", " main.new", "xmain.new",
		"log7", "log-7", "log 7", "log,7", "log/7", "log..7", "log.7.", "log.7.8", "log.log.7", "logs.7", "lo.7", "og.7", "l.7",
		"image7", "image-7", "image..7", "image.7.", "image.image.7", "images.7", "imag.7", "mage.7", "log.image.7", "image.log.7",
		"log.main", "image.new", "log.new", "log\x007", "\x00log.7",
	} {
		checkKind(t, name, Other, 0)
	}
}

// Nm1: Kind, of digits that tell no number above 0, and of what no number has.
func TestKindOfOtherNumbers(t *testing.T) {
	for _, digits := range []string{
		"", "0", "00", "000000000000000000", "0000000000000000000", "07", "01", "010", "007", "0000000000000000001", "000000000000000001",
		"-1", "-7", "+1", "+7", "-", "+", "--7", "-0", "+0", "7-", "7+", "1-2", "1+2",
		" ", " 7", "7 ", "1 2", "\t7", "7\t", "\n7", "7\n", "7\r\n", "\x007", "7\x00", "1\x002",
		"a", "x7", "7x", "1x2", "0x7", "a12", "12a", "1a2", "7.", ".7", "1.2", "1,2", "1_000", "1e3", "1'2", "7L", "7log", "/7", "7/", ":7", "7:", "1/2", "1:2", "/", ":",
		"७", "٧", "7٧", "٧7", "1٧2", "７", "7７", "1７2", "²", "2²", "Ⅶ", "𝟕", "½", "\xb7", "7\xb7", "\xb77", "\xff", "1\xff2", "\xb0\xb1",
		"1000000000000000000", "1000000000000000001", "9999999999999999999", "9223372036854775807", "9223372036854775808", "18446744073709551615", "18446744073709551616", "18446744073709551617", "18446744073709551623",
		"340282366920938463463374607431768211457", "12345678901234567890", "0999999999999999999", "999999999999999999 ", " 999999999999999999", "99999999999999999x", "x99999999999999999", "-99999999999999999", "-999999999999999999",
		strings.Repeat("1", 19), strings.Repeat("9", 19), strings.Repeat("1", 64), strings.Repeat("9", 1000), "1" + strings.Repeat("0", 100_000), strings.Repeat("0", 100_000) + "1",
	} {
		checkKind(t, "log."+digits, Other, 0)
		checkKind(t, "image."+digits, Other, 0)
	}
}

// Nm1: Kind, of each count of digits, however many.
func TestKindOfManyDigits(t *testing.T) {
	for many := 1; many <= 80; many++ {
		for _, digits := range []string{strings.Repeat("1", many), strings.Repeat("9", many), "1" + strings.Repeat("0", many-1), strings.Repeat("1234567890", 8)[:many]} {
			checkModel(t, "log."+digits)
			checkModel(t, "image."+digits)
			if kind, _ := Kind("log." + digits); (kind == Log) != (many <= 18) {
				t.Errorf("%d digits: kind %d", many, kind)
			}
		}
	}
}

// Nm1: Kind is the chapter's words, for all short texts behind, and instead of, what names begin with.
func TestKindOfShortTexts(t *testing.T) {
	letters := "0129-. aglmnoew\xb7"
	short := []string{""}
	for at := 0; at < len(short); at++ {
		if s := short[at]; len(s) < 3 {
			for i := range len(letters) {
				short = append(short, s+letters[i:i+1])
			}
		}
	}
	for _, s := range short {
		for _, head := range []string{"", "log", "log.", "log.1", "image", "image.", "image.9", "main", "main.", "main.new", "log.1000000000000000", "image.99999999999999999"} {
			checkModel(t, head+s)
			checkModel(t, s+head)
		}
	}
}

// Nm1: Kind is the chapter's words, for each name with a byte more, a byte less, or another one.
func TestKindOfChangedNames(t *testing.T) {
	for _, name := range []string{"log.1", "log.7", "log.10", "log.12", "log.99999999999999999", "log.999999999999999999", "image.3", "image.30", "image.100000000000000000", "main", "main.new"} {
		for at := range len(name) + 1 {
			for b := range 256 {
				checkModel(t, name[:at]+string([]byte{byte(b)})+name[at:])
				if at < len(name) {
					checkModel(t, name[:at]+string([]byte{byte(b)})+name[at+1:])
				}
			}
			if at < len(name) {
				checkModel(t, name[:at]+name[at+1:])
			}
			checkModel(t, name[:at])
			checkModel(t, name[at:])
		}
	}
}

// Nm1: Numbers, of no names, of names of other kinds among them, of the same one several times, and of names that do not rise.
func TestNumbers(t *testing.T) {
	for _, kind := range kinds() {
		checkNumbers(t, kind, nil)
		checkNumbers(t, kind, []string{})
	}
	mixed := []string{"log.10", "main", "log.9", "image.3", "log.10", "", "log.x", "main.new", "image.20", "log.1", "main", "log.07", "image.3", "log.1000000000000000000", "image.100", "log.999999999999999999", "main.1"}
	checkNumbers(t, Log, mixed, 1, 9, 10, 10, greatest)
	checkNumbers(t, Image, mixed, 3, 3, 20, 100)
	checkNumbers(t, Main, mixed, 0, 0)
	checkNumbers(t, Fresh, mixed, 0)
	checkNumbers(t, Other, mixed, 0, 0, 0, 0, 0)
	for _, kind := range []int{api.MinInt, -1, 5, 257, api.MaxInt} {
		checkNumbers(t, kind, mixed)
	}

	checkNumbers(t, Log, []string{"log.7"}, 7)
	checkNumbers(t, Log, []string{"image.7"})
	checkNumbers(t, Log, []string{"log.07", "Log.7", "log.", "log.0", "log.-7"})
	checkNumbers(t, Log, []string{"log.7", "log.7", "log.7"}, 7, 7, 7)
	checkNumbers(t, Log, []string{"log.2", "log.1", "log.2", "log.1"}, 1, 1, 2, 2)
	checkNumbers(t, Log, []string{"log.5", "log.4", "log.3", "log.2", "log.1"}, 1, 2, 3, 4, 5)
	checkNumbers(t, Log, []string{"log.1", "log.10", "log.100", "log.2", "log.20", "log.9"}, 1, 2, 9, 10, 20, 100)
	checkNumbers(t, Image, []string{"image.999999999999999999", "image.1", "image.1000000000000000000"}, 1, greatest)
	checkNumbers(t, Main, []string{"main", "main", "main"}, 0, 0, 0)
	checkNumbers(t, Main, []string{"main.new", "log.1", "Main"})
	checkNumbers(t, Fresh, []string{"main.new", "main", "main.new"}, 0, 0)
	checkNumbers(t, Other, []string{"", "x", "x", "log.1", "log.0"}, 0, 0, 0, 0)
	checkNumbers(t, Other, []string{"log.1", "image.1", "main", "main.new"})
}

// Nm1: Numbers is the chapter's words, of drawn names in any order.
func TestNumbersModel(t *testing.T) {
	r := rand.New(rand.NewSource(2))
	for range 3000 {
		var names []string
		for range r.Intn(40) {
			name := Of(Log+r.Intn(4), 1+r.Intn(1<<r.Intn(60)))
			if r.Intn(4) == 0 && name != "" {
				at := r.Intn(len(name))
				name = name[:at] + name[at+1:]
			}
			names = append(names, name)
		}
		for _, kind := range kinds() {
			want := modelNumbers(kind, names)
			checkNumbers(t, kind, names, want...)
			r.Shuffle(len(names), func(i, j int) { names[i], names[j] = names[j], names[i] })
			checkNumbers(t, kind, names, want...)
		}
	}
}

// R3: Numbers neither changes the names nor reads behind their end, and what it answers is new.
func TestNumbersMemory(t *testing.T) {
	names := []string{"log.3", "main", "log.1", "log.2", "log.4"}
	ahead := slices.Clone(names)
	first := Numbers(Log, names[:3]...)
	if !slices.Equal(first, []int{1, 3}) || !slices.Equal(names, ahead) {
		t.Errorf("%d, %q", first, names)
	}
	second := Numbers(Log, names[:3]...)
	clear(first[:cap(first)])
	if !slices.Equal(second, []int{1, 3}) || !slices.Equal(names, ahead) {
		t.Errorf("%d, %q", second, names)
	}
	checkNumbers(t, Log, names[:3], 1, 3)
	checkNumbers(t, Log, names, 1, 2, 3, 4)
}

// Nm2: a name is of its kind and number.
func TestNameTellsItsNumber(t *testing.T) {
	r := rand.New(rand.NewSource(3))
	l := numbers()
	for range 20_000 {
		l = append(l, drawn(r))
	}
	for _, n := range l {
		for _, kind := range []int{Log, Image} {
			name := Of(kind, n)
			if (name != "") != (n >= 1 && n <= greatest) {
				t.Errorf("Of(%d, %d) = %q", kind, n, name)
			}
			if name != "" {
				checkKind(t, name, kind, n)
				checkNumbers(t, kind, []string{"main", name, "log.0"}, n)
			}
		}
		checkKind(t, Of(Main, n), Main, 0)
		checkKind(t, Of(Fresh, n), Fresh, 0)
		for _, kind := range []int{-1, Other, 5} {
			checkKind(t, Of(kind, n), Other, 0)
		}
	}
}

// Nm2: what is no Other is named just as its kind and number are, so no number has a second name.
func TestNumberTellsItsName(t *testing.T) {
	r := rand.New(rand.NewSource(4))
	letters := "00123456789.-"
	for range 200_000 {
		name := []string{"log.", "image.", "main", "main.", "log", ""}[r.Intn(6)]
		for range r.Intn(21) {
			at := r.Intn(len(letters))
			name += letters[at : at+1]
		}
		kind, n := Kind(name)
		switch {
		case kind == Other && n != 0:
			t.Errorf("Kind(%q) = %d, %d", name, kind, n)
		case kind != Other && Of(kind, n) != name:
			t.Errorf("Of%v = %q; want %q", []int{kind, n}, Of(kind, n), name)
		}
	}
}

// Nm2: no two have one name, and none is longer than a file's may be.
func TestNamesDiffer(t *testing.T) {
	type file struct{ kind, n int }
	r := rand.New(rand.NewSource(5))
	l := numbers()
	for n := range 3000 {
		l = append(l, n, r.Intn(1<<r.Intn(60)+1))
	}
	slices.Sort(l)
	names := map[string]file{}
	for _, n := range slices.Compact(l) {
		for _, kind := range []int{Log, Image} {
			name := Of(kind, n)
			if name == "" {
				continue
			}
			if other, there := names[name]; there {
				t.Errorf("%q: %v and %v", name, other, file{kind, n})
			}
			names[name] = file{kind, n}
		}
	}
	for _, kind := range []int{Main, Fresh} {
		name := Of(kind, 0)
		if other, there := names[name]; there {
			t.Errorf("%q: %v and %v", name, other, file{kind, 0})
		}
		names[name] = file{kind, 0}
	}
	for name := range names {
		if len(name) < 1 || len(name) > api.MaxName {
			t.Errorf("%q has %d bytes", name, len(name))
		}
	}
}

// Nm2: numbers rise though the names, byte by byte, do not.
func TestNumbersRise(t *testing.T) {
	var names []string
	var want []int
	for n := 1; n <= 1200; n++ {
		names = append(names, Of(Log, n))
		want = append(want, n)
	}
	slices.Sort(names)
	if slices.IsSortedFunc(names, func(a, b string) int { return len(a) - len(b) }) {
		t.Fatal("the names rise as their numbers do")
	}
	checkNumbers(t, Log, names, want...)
	slices.Reverse(names)
	checkNumbers(t, Log, names, want...)
}
