package civil_test

import (
	"fmt"
	"strings"
	"testing"
	"time"

	"quitrent/api"
	"quitrent/civil"
)

// P8.4: Text, Parse.

// byTheBook is the date whose text s is, and whether there is one.
func byTheBook(s string) (api.Date, bool) {
	at, err := time.Parse("2006-01-02", s)
	d := api.Date{Year: at.Year(), Month: int(at.Month()), Day: at.Day()}
	return d, err == nil && d.Year >= 1 // of the year 0 the library has days, too
}

// reads fails where Parse of s is not what the book has.
func reads(t testing.TB, s string) {
	t.Helper()
	want, ok := byTheBook(s)
	if !ok {
		noText(t, s)
		return
	}
	if got, e := civil.Parse(s); got != want || e != api.OK {
		t.Errorf("Parse(%q): %v, %v, not %v", s, got, e, want)
	}
}

func TestTextAndParse(t *testing.T) {
	for d := range dates() {
		s := civil.Text(d)
		// A text built by hand: Sprintf would take its time over all dates.
		want := [...]byte{
			'0' + byte(d.Year/1000), '0' + byte(d.Year/100%10), '0' + byte(d.Year/10%10), '0' + byte(d.Year%10), '-',
			'0' + byte(d.Month/10), '0' + byte(d.Month%10), '-', '0' + byte(d.Day/10), '0' + byte(d.Day%10),
		}
		if s != string(want[:]) {
			t.Fatalf("Text(%v): %q, not %q", d, s, want)
		}
		if back, e := civil.Parse(s); back != d || e != api.OK {
			t.Fatalf("Parse(%q): %v, %v, not %v", s, back, e, d)
		}
	}
}

func TestKnownTexts(t *testing.T) {
	for s, d := range map[string]api.Date{
		"0001-01-01": {Year: 1, Month: 1, Day: 1},
		"0012-03-04": {Year: 12, Month: 3, Day: 4},
		"0987-10-09": {Year: 987, Month: 10, Day: 9},
		"1970-01-01": {Year: 1970, Month: 1, Day: 1},
		"2024-02-29": {Year: 2024, Month: 2, Day: 29},
		"9999-12-31": {Year: 9999, Month: 12, Day: 31},
	} {
		if got := civil.Text(d); got != s {
			t.Errorf("Text(%v): %q, not %q", d, got, s)
		}
		if got, e := civil.Parse(s); got != d || e != api.OK {
			t.Errorf("Parse(%q): %v, %v, not %v", s, got, e, d)
		}
	}
}

func TestTextsOfNoDate(t *testing.T) {
	for _, year := range []int{0, 1, 4, 100, 400, 1900, 2000, 2023, 2024, 9999} {
		for month := range 100 {
			for day := range 100 {
				reads(t, fmt.Sprintf("%04d-%02d-%02d", year, month, day))
			}
		}
	}
	for year := range 10000 {
		for _, rest := range []string{"-00-01", "-01-00", "-00-00", "-02-29", "-02-30", "-04-31", "-12-32", "-13-01", "-99-99"} {
			reads(t, fmt.Sprintf("%04d%s", year, rest))
		}
	}
	for year := -1000; year <= 11000; year += 250 { // of three signs and more, and of five digits
		if year < 1 || year > 9999 {
			noText(t, fmt.Sprintf("%04d-01-01", year))
		}
	}
}

func TestAnotherByteInEachPlace(t *testing.T) {
	for _, s := range []string{"0001-01-01", "1970-01-01", "2024-02-29", "2000-10-10", "9999-12-31"} {
		for place := range len(s) {
			for b := range 256 {
				changed := s[:place] + string([]byte{byte(b)}) + s[place+1:]
				digit := b >= '0' && b <= '9'
				if changed != s && (place == 4 || place == 7 || !digit) {
					noText(t, changed)
				}
				reads(t, changed)
			}
		}
	}
}

func TestTwoBytesInEachPlace(t *testing.T) {
	const some = "0123456789-+_. :/xeabAF\x00\t\n\x80\xb0\xff"
	for _, s := range []string{"0010-01-01", "2024-02-29"} {
		for i := range len(s) {
			for j := range i {
				for _, a := range []byte(some) {
					for _, b := range []byte(some) {
						changed := []byte(s)
						changed[i], changed[j] = a, b
						reads(t, string(changed))
					}
				}
			}
		}
	}
}

func TestSizesOfTexts(t *testing.T) {
	for _, s := range []string{"0001-01-01", "2024-02-29", "9999-12-31"} {
		for n := range len(s) {
			noText(t, s[:n])
			noText(t, s[len(s)-n:])
			noText(t, s[:n]+s[n+1:]) // one byte is missing
			for _, b := range []string{"0", "1", "9", "-", "+", " ", "\x00", "\n", "a", "\xff"} {
				noText(t, s[:n]+b+s[n:]) // there is one more
			}
		}
		for _, b := range []string{"0", "9", "-", " ", "\x00", "\n", "\r\n", "a", "\xff", "T00:00:00Z", s} {
			noText(t, s+b)
		}
		noText(t, strings.Repeat(s, 1000))
	}
	noText(t, "")
}

func TestOddTexts(t *testing.T) {
	for _, s := range []string{
		"          ", "0000000000", "----------", "\x00\x00\x00\x00\x00\x00\x00\x00\x00\x00",
		"yyyy-mm-dd", "+001-01-01", "-001-01-01", "2024-+1-01", "2024-01-+1", "2024--1-01", "2024-01--1", " 024-01-01", "202 -01-01", "2024- 1-01", "2024-01- 1", "2024-1 -01",
		"2024/01/01", "2024.01.01", "2024:01:01", "2024-01/01", "2024_01_01", "20240101", "2024-01-1", "2024-1-01", "24-01-01", "12024-01-0", "10000-01-01",
		"0x10-01-01", "1_70-01-01", "1e03-01-01", "01-01-2024", "31-12-2024", "2024-0b-01", "2024-Ja-01",
		"2024-01-0\u0661", "202\uff14-01-0", "\u06612-01-01", "2024\u201001-0", "\xef\xbb\xbf2024-01",
	} {
		noText(t, s)
	}
}

// FuzzParse seeks a text that Parse takes otherwise than the library.
func FuzzParse(f *testing.F) {
	for _, s := range []string{"", "1970-01-01", "2024-02-30", "24-2-3", "0000-01-01", "+001-01-01"} {
		f.Add(s)
	}
	f.Fuzz(func(t *testing.T, s string) {
		reads(t, s)
		if d, e := civil.Parse(s); e == api.OK && civil.Text(d) != s {
			t.Fatalf("Text(Parse(%q)): %q", s, civil.Text(d))
		}
	})
}
