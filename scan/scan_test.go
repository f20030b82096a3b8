package scan

import (
	"math"
	"math/big"
	"regexp"
	"slices"
	"strings"
	"testing"
)

// textsOf calls f with every text of at most length bytes out of alphabet.
func textsOf(alphabet string, length int, f func(s string)) {
	var grow func(s string)
	grow = func(s string) {
		f(s)
		if len(s) == length {
			return
		}
		for i := range len(alphabet) {
			grow(s + alphabet[i:i+1])
		}
	}
	grow("")
}

func TestWords(t *testing.T) {
	for _, c := range []struct {
		s    string
		want []string
	}{
		{"", nil},
		{" ", nil},
		{"     ", nil},
		{"a", []string{"a"}},
		{"add 3 0 1", []string{"add", "3", "0", "1"}},
		{" a", []string{"a"}},
		{"   a", []string{"a"}},
		{"a ", []string{"a"}},
		{"a   ", []string{"a"}},
		{"a    b", []string{"a", "b"}},
		{"  one   two three    ", []string{"one", "two", "three"}},
		{"a a a", []string{"a", "a", "a"}},
		{"a\tb", []string{"a\tb"}},
		{"\t", []string{"\t"}},
		{"a\nb \r\n", []string{"a\nb", "\r\n"}},
		{"\v \f", []string{"\v", "\f"}},
		{"a\x00b \x00", []string{"a\x00b", "\x00"}},
		{"a\u00a0b\u2003c\u3000d", []string{"a\u00a0b\u2003c\u3000d"}},
		{"a\x85b \xa0", []string{"a\x85b", "\xa0"}},
		{"\xff \xc3 \xe2\x80 x", []string{"\xff", "\xc3", "\xe2\x80", "x"}},
		{"gr\u00fc\u00df dich", []string{"gr\u00fc\u00df", "dich"}},
	} {
		if got := Words(c.s); !slices.Equal(got, c.want) {
			t.Errorf("Words(%q) = %q; want %q", c.s, got, c.want)
		}
	}
}

// Every byte but 32 is a part of a word, wherever it stands.
func TestWordsOfEachByte(t *testing.T) {
	for b := range 256 {
		part := string([]byte{byte(b)})
		want := []string{part, "x" + part + "y", part}
		if b == 32 {
			want = []string{"x", "y"}
		}
		if got := Words(part + " x" + part + "y " + part); !slices.Equal(got, want) {
			t.Errorf("byte %d: %q; want %q", b, got, want)
		}
	}
}

func TestWordsOfAllShortTexts(t *testing.T) {
	textsOf(" a\xe2", 8, func(s string) {
		want := slices.DeleteFunc(strings.Split(s, " "), func(part string) bool { return part == "" })
		if got := Words(s); !slices.Equal(got, want) {
			t.Fatalf("Words(%q) = %q; want %q", s, got, want)
		}
	})
}

func TestWordsOfALongText(t *testing.T) {
	const count = 100000
	got := Words(strings.Repeat("  ab c", count))
	if len(got) != 2*count {
		t.Fatalf("%d words; want %d", len(got), 2*count)
	}
	for i, word := range got {
		if want := []string{"ab", "c"}[i%2]; word != want {
			t.Fatalf("word %d is %q; want %q", i, word, want)
		}
	}
}

func TestWordsAreNewEachTime(t *testing.T) {
	const s = "a b c"
	first := Words(s)
	first[0] = "changed"
	_ = append(first[:1], "changed")
	if got := Words(s); !slices.Equal(got, []string{"a", "b", "c"}) {
		t.Errorf("Words(%q) = %q behind a change of its first answer", s, got)
	}
}

func TestInt(t *testing.T) {
	for _, c := range []struct {
		s    string
		want int
	}{
		{"0", 0},
		{"1", 1},
		{"9", 9},
		{"-1", -1},
		{"-9", -9},
		{"-12", -12},
		{"10", 10},
		{"-10", -10},
		{"100", 100},
		{"1001", 1001},
		{"2147483648", 1 << 31},
		{"4294967296", 1 << 32},
		{"-2147483649", -1<<31 - 1},
		{"123456789012345678", 123456789012345678},
		{"-123456789012345678", -123456789012345678},
		{"99999999999999999", 99999999999999999},
		{"100000000000000000", 100000000000000000},
		{"-100000000000000000", -100000000000000000},
		{"999999999999999999", 999999999999999999},
		{"-999999999999999999", -999999999999999999},
	} {
		if got, ok := Int(c.s); got != c.want || !ok {
			t.Errorf("Int(%q) = %d, %v; want %d, true", c.s, got, ok, c.want)
		}
	}
}

func TestIntOfWhatIsNone(t *testing.T) {
	for _, s := range []string{
		"", " ", "-", "--", "+", "-0", "00", "-00", "01", "-01", "007", "000000000000000000",
		"1000000000000000000", "-1000000000000000000", "9999999999999999999", "0000000000000000001",
		"9223372036854775807", "-9223372036854775808", "18446744073709551617",
		"+1", "+0", "--1", "-+1", "1-", "1-1", " 1", "1 ", "- 1", "1 2", "\t1", "1\n", "1\r",
		"a", "1a", "a1", "1a1", "-a", "-1a", "99999999999999999a", "a99999999999999999",
		"1.0", "1e3", "1_000", "1,000", "0x1", "0b1", "0o7", "0x", "inf", "NaN",
		"\x00", "1\x00", "\x001", "\xff", "1\xff", "/", ":", "1/", "1:",
		"\u0661", "1\u0661", "\uff11", "\u22121", "\u00b2",
	} {
		if got, ok := Int(s); got != 0 || ok {
			t.Errorf("Int(%q) = %d, %v; want 0, false", s, got, ok)
		}
	}
}

// One byte that is no digit makes a text no number, at each place of it.
func TestIntOfEachByteAtEachPlace(t *testing.T) {
	const digits = "123456789123456789"
	for at := range len(digits) {
		for b := range 256 {
			s := digits[:at] + string([]byte{byte(b)}) + digits[at+1:]
			want, wantOK := promised(s)
			if got, ok := Int(s); got != want || ok != wantOK {
				t.Fatalf("Int(%q) = %d, %v; want %d, %v", s, got, ok, want, wantOK)
			}
		}
	}
}

func TestIntOfEachLength(t *testing.T) {
	for _, sign := range []string{"", "-"} {
		for _, digit := range "123456789" {
			for length := range 70 {
				s := sign + strings.Repeat(string(digit), length)
				want, wantOK := promised(s)
				if got, ok := Int(s); got != want || ok != wantOK || ok != (length >= 1 && length <= 18) {
					t.Fatalf("Int(%q) = %d, %v; want %d, %v", s, got, ok, want, wantOK)
				}
			}
		}
	}
}

func TestIntOfAllShortTexts(t *testing.T) {
	textsOf("-+019 a/:", 5, func(s string) {
		want, wantOK := promised(s)
		if got, ok := Int(s); got != want || ok != wantOK {
			t.Fatalf("Int(%q) = %d, %v; want %d, %v", s, got, ok, want, wantOK)
		}
	})
}

var number = regexp.MustCompile(`\A(0|-?[1-9][0-9]{0,17})\z`)

// promised tells Int's promise anew, by a form and by an unbounded number.
func promised(s string) (int, bool) {
	if !number.MatchString(s) {
		return 0, false
	}
	n, ok := new(big.Int).SetString(s, 10)
	if !ok {
		return 0, false
	}
	return int(n.Int64()), true
}

func TestIntOfALongText(t *testing.T) {
	for _, s := range []string{strings.Repeat("1", 1<<20), strings.Repeat("0", 1<<20), strings.Repeat("-", 1<<20)} {
		if got, ok := Int(s); got != 0 || ok {
			t.Errorf("Int of %d times %q = %d, %v; want 0, false", len(s), s[:1], got, ok)
		}
	}
}

func TestDigits(t *testing.T) {
	for _, c := range []struct {
		n    int
		want string
	}{
		{0, "0"},
		{1, "1"},
		{-1, "-1"},
		{9, "9"},
		{10, "10"},
		{-10, "-10"},
		{99, "99"},
		{100, "100"},
		{1200, "1200"},
		{-1200, "-1200"},
		{999999999999999999, "999999999999999999"},
		{1000000000000000000, "1000000000000000000"},
		{math.MaxInt64, "9223372036854775807"},
		{math.MinInt64 + 1, "-9223372036854775807"},
		{math.MinInt64, "-9223372036854775808"},
	} {
		if got := Digits(c.n); got != c.want {
			t.Errorf("Digits(%d) = %q; want %q", c.n, got, c.want)
		}
	}
}

// edges are numbers at which the count of digits changes, to the base 10 and to the base 2, and those beside them.
func edges() []int {
	list := []int{0, math.MaxInt64, math.MinInt64}
	for power := 1; power <= 1e18/10; power *= 10 {
		list = append(list, power*10-1, power*10, power*10+1, 7*power)
	}
	for shift := range 63 {
		list = append(list, 1<<shift-1, 1<<shift, 1<<shift+1)
	}
	for _, n := range list {
		list = append(list, -n)
	}
	return list
}

func TestDigitsAgainstUnboundedNumbers(t *testing.T) {
	for _, n := range edges() {
		if got, want := Digits(n), big.NewInt(int64(n)).String(); got != want {
			t.Errorf("Digits(%d) = %q; want %q", n, got, want)
		}
	}
}

// Int answers every number of at most 18 digits, and no other one, of what Digits writes.
func TestIntOfDigits(t *testing.T) {
	list := edges()
	for n := -2000; n <= 2000; n++ {
		list = append(list, n)
	}
	for _, n := range list {
		want, wantOK := n, n >= -999999999999999999 && n <= 999999999999999999
		if !wantOK {
			want = 0
		}
		if got, ok := Int(Digits(n)); got != want || ok != wantOK {
			t.Errorf("Int(Digits(%d)) = %d, %v; want %d, %v", n, got, ok, want, wantOK)
		}
	}
}
