package der_test

import (
	"bytes"
	"fmt"
	"math"
	"math/rand"
	"strings"
	"testing"
	"time"

	"drawbridge/api"
	"drawbridge/der"
)

const (
	shortForm = "060102150405Z"
	longForm  = "20060102150405Z"
)

// noTime: Time takes no such text.
func noTime(t *testing.T, tag byte, s string) {
	t.Helper()
	if n, e := der.Time(tag, []byte(s)); n != 0 || e != api.ErrDerValue {
		t.Fatalf("Time(%d, %q): %d, %d, want ErrDerValue", tag, s, n, e)
	}
}

// isTime: Time tells these seconds.
func isTime(t *testing.T, tag byte, s string, want int64) {
	t.Helper()
	if n, e := der.Time(tag, []byte(s)); n != want || e != api.OK {
		t.Fatalf("Time(%d, %q): %d, %d, want %d", tag, s, n, e, want)
	}
}

// rightItem is the item of a time, by the library.
func rightItem(at time.Time) []byte {
	if at.Year() >= 1950 && at.Year() <= 2049 {
		return []byte("\x17\x0d" + at.Format(shortForm))
	}
	return []byte("\x18\x0f" + at.Format(longForm))
}

// putTime: is a time's item the library's, and read as it was?
func putTime(t *testing.T, n int64) {
	t.Helper()
	got, want := der.PutTime(n), rightItem(time.Unix(n, 0).UTC())
	if !bytes.Equal(got, want) {
		t.Fatalf("PutTime(%d): %q, want %q", n, got, want)
	}
	isTime(t, got[0], string(got[2:]), n)
}

func TestExamplesOfTimes(t *testing.T) {
	isTime(t, 23, "700101000001Z", 1)
	isTime(t, 23, "500101000000Z", -631152000)
	isTime(t, 23, "700101000000Z", 0)
	isTime(t, 23, "691231235959Z", -1)
	isTime(t, 23, "491231235959Z", 2524607999)
	isTime(t, 23, "991231235959Z", 946684799)
	isTime(t, 23, "000101000000Z", 946684800)
	isTime(t, 24, "19700101000001Z", 1)
	isTime(t, 24, "00010101000000Z", -62135596800)
	isTime(t, 24, "99991231235959Z", 253402300799)
	if b := der.PutTime(2524608000); string(b) != "\x18\x0f20500101000000Z" {
		t.Errorf("%q", b)
	}
}

// TestEveryDay: from the first to the last, a time of it that is drawn.
func TestEveryDay(t *testing.T) {
	r := rand.New(rand.NewSource(30))
	const first, last = -62135596800, 253402300799
	for n := int64(first); n <= last; n += 86400 {
		putTime(t, n+r.Int63n(86400))
	}
	for year := 1; year <= 10000; year++ {
		n := time.Date(year, 1, 1, 0, 0, 0, 0, time.UTC).Unix()
		putTime(t, max(n-1, first))
		putTime(t, min(n, last))
	}
}

// TestEverySecondOfADay: hours, minutes and seconds.
func TestEverySecondOfADay(t *testing.T) {
	for _, day := range []int64{0, -1, 20000, -719162, 2932896} {
		for n := range int64(86400) {
			putTime(t, 86400*day+n)
		}
	}
}

// TestTimesThatNoDigitsTell: PutTime of them is nothing.
func TestTimesThatNoDigitsTell(t *testing.T) {
	for _, n := range []int64{-62135596801, 253402300800, math.MinInt64, math.MinInt64 + 1, math.MaxInt64, math.MaxInt64 - 1, -1 << 40, 1 << 40, -62135596800 - 1<<32, 253402300800 + 1<<32, -62167219200, -1 << 62, 1 << 62} {
		if b := der.PutTime(n); len(b) != 0 {
			t.Errorf("PutTime(%d): %q", n, b)
		}
	}
}

// TestWhereTheYearGetsShort: two digits from 1950 to 2049, four ahead of it and behind it.
func TestWhereTheYearGetsShort(t *testing.T) {
	for _, c := range []struct {
		n    int64
		want string
	}{
		{-631152001, "\x18\x0f19491231235959Z"}, {-631152000, "\x17\x0d500101000000Z"}, {2524607999, "\x17\x0d491231235959Z"}, {2524608000, "\x18\x0f20500101000000Z"}, {-62135596800, "\x18\x0f00010101000000Z"}, {253402300799, "\x18\x0f99991231235959Z"},
	} {
		if b := der.PutTime(c.n); string(b) != c.want {
			t.Errorf("PutTime(%d): %q", c.n, b)
		}
	}
}

// TestYearsOfTwoDigits: each of them, held against its four.
func TestYearsOfTwoDigits(t *testing.T) {
	for y := range 100 {
		year := 2000 + y
		if y >= 50 {
			year = 1900 + y
		}
		isTime(t, 23, fmt.Sprintf("%02d0704123456Z", y), time.Date(year, 7, 4, 12, 34, 56, 0, time.UTC).Unix())
		isTime(t, 24, fmt.Sprintf("%04d0704123456Z", year), time.Date(year, 7, 4, 12, 34, 56, 0, time.UTC).Unix())
	}
}

// TestDatesOfAllDigits: every month and day of two digits, in years of all kinds.
func TestDatesOfAllDigits(t *testing.T) {
	for _, year := range []int{0, 1, 3, 4, 100, 200, 300, 400, 1600, 1700, 1899, 1900, 1904, 1950, 1999, 2000, 2001, 2023, 2024, 2049, 2050, 2100, 2400, 9996, 9999} {
		for month := range 100 {
			for day := range 100 {
				at := time.Date(year, time.Month(month), day, 1, 2, 3, 0, time.UTC)
				is := year > 0 && at.Year() == year && int(at.Month()) == month && at.Day() == day
				date := fmt.Sprintf("%04d%02d%02d010203Z", year, month, day)
				if !is {
					noTime(t, 24, date)
				} else {
					isTime(t, 24, date, at.Unix())
				}
				if year >= 1950 && year <= 2049 {
					if !is {
						noTime(t, 23, date[2:])
					} else {
						isTime(t, 23, date[2:], at.Unix())
					}
				}
			}
		}
	}
}

// TestHoursOfAllDigits: minutes and seconds too.
func TestHoursOfAllDigits(t *testing.T) {
	for a := range 100 {
		for b := range 100 {
			for _, c := range [][3]int{{a, b, 7}, {a, 7, b}, {7, a, b}} {
				clock := fmt.Sprintf("%02d%02d%02dZ", c[0], c[1], c[2])
				if c[0] > 23 || c[1] > 59 || c[2] > 59 {
					noTime(t, 23, "700101"+clock)
					noTime(t, 24, "19700101"+clock)
					continue
				}
				isTime(t, 23, "700101"+clock, int64(3600*c[0]+60*c[1]+c[2]))
				isTime(t, 24, "19700101"+clock, int64(3600*c[0]+60*c[1]+c[2]))
			}
		}
	}
}

// TestEachByteOfATime: no byte but a digit, and at the end no byte but a Z.
func TestEachByteOfATime(t *testing.T) {
	for tag, s := range map[byte]string{23: "111111111111Z", 24: "11111111111111Z"} {
		for at := range len(s) {
			for c := range 256 {
				b := []byte(s)
				b[at] = byte(c)
				digit := c >= '0' && c <= '9'
				if at == len(s)-1 && c != 'Z' || at < len(s)-1 && !digit {
					noTime(t, tag, string(b))
				}
			}
		}
	}
}

func TestTimesOfOtherLengths(t *testing.T) {
	for n := range 40 {
		for _, s := range []string{strings.Repeat("1", n), strings.Repeat("1", n) + "Z", strings.Repeat("Z", n)} {
			if len(s) != 13 || s[12] != 'Z' || s[0] == 'Z' {
				noTime(t, 23, s)
			}
			if len(s) != 15 || s[14] != 'Z' || s[0] == 'Z' {
				noTime(t, 24, s)
			}
		}
	}
	for _, s := range []string{"", "7001010000Z", "700101000001z", "700101000001+0000", "700101000001Z ", "19700101000001.5Z", "19700101000001Z0", "19700101000001", "+9700101000001Z", "-0010101000000Z"} {
		noTime(t, 23, s)
		noTime(t, 24, s)
	}
	if _, e := der.Time(23, nil); e != api.ErrDerValue {
		t.Error(e)
	}
}

func TestTimesOfOtherTags(t *testing.T) {
	for tag := range 256 {
		if tag != 23 {
			noTime(t, byte(tag), "700101000001Z")
		}
		if tag != 24 {
			noTime(t, byte(tag), "19700101000001Z")
		}
	}
}

func TestTimesChangeNothing(t *testing.T) {
	whole := []byte("700101000001Z and more")
	if n, e := der.Time(23, whole[:13]); n != 1 || e != api.OK || string(whole) != "700101000001Z and more" {
		t.Errorf("%d, %d, %q", n, e, whole)
	}
	a, b := der.PutTime(1), der.PutTime(1)
	spoil(a)
	if string(b) != "\x17\x0d700101000001Z" {
		t.Errorf("%q", b)
	}
}
