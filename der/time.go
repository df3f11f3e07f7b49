package der

import "drawbridge/api"

const secondsOfDay = 86400

// The first and the last time that four digits of a year can tell.
const (
	firstTime = -62135596800
	lastTime  = 253402300799
)

// longTime is how many bytes a time with four digits of the year has; of one with two they are two fewer.
const longTime = 15

// moment is a time as its digits tell it.
type moment struct {
	year, month, day, hour, minute, second int
}

// Time reads a time, whose tag says how many digits its year has.
func Time(tag byte, b []byte) (int64, api.Errno) {
	text, is := longText(tag, b)
	if !is {
		return 0, api.ErrDerValue
	}
	m := momentOf(text)
	if !m.right() {
		return 0, api.ErrDerValue
	}
	return m.seconds(), api.OK
}

// longText is a time's text with four digits of the year, if it is one of digits.
func longText(tag byte, b []byte) (text [longTime]byte, is bool) {
	switch {
	case tag == tagShortTime && len(b) == longTime-2:
		copy(text[:], "20")
		if b[0] >= '5' {
			copy(text[:], "19")
		}
		copy(text[2:], b)
	case tag == tagLongTime && len(b) == longTime:
		copy(text[:], b)
	default:
		return text, false
	}
	for i := range longTime - 1 {
		if text[i] < '0' || text[i] > '9' {
			return text, false
		}
	}
	return text, text[longTime-1] == 'Z'
}

// momentOf is what digits tell.
func momentOf(text [longTime]byte) moment {
	two := func(at int) int { return 10*int(text[at]-'0') + int(text[at+1]-'0') }
	return moment{100*two(0) + two(2), two(4), two(6), two(8), two(10), two(12)}
}

// right: is there such a time?
func (m moment) right() bool {
	return m.year >= 1 && m.month >= 1 && m.month <= 12 &&
		m.day >= 1 && m.day <= daysIn(m.year, m.month) &&
		m.hour <= 23 && m.minute <= 59 && m.second <= 59
}

// seconds are those since the beginning of 1970.
func (m moment) seconds() int64 {
	days := daysAhead(m.year) + m.day - 1
	for month := 1; month < m.month; month++ {
		days += daysIn(m.year, month)
	}
	return firstTime + int64(days)*secondsOfDay + int64(3600*m.hour+60*m.minute+m.second)
}

// momentAt is the moment whose seconds they are, from firstTime to lastTime.
func momentAt(t int64) moment {
	days, rest := int((t-firstTime)/secondsOfDay), int((t-firstTime)%secondsOfDay)
	// As no year has more days, it is this one or one behind it.
	year := 1 + days/366
	for daysAhead(year+1) <= days {
		year++
	}
	days -= daysAhead(year)
	month := 1
	for days >= daysIn(year, month) {
		days -= daysIn(year, month)
		month++
	}
	return moment{year, month, days + 1, rest / 3600, rest / 60 % 60, rest % 60}
}

// text is a moment with four digits of the year.
func (m moment) text() []byte {
	b := make([]byte, 0, longTime)
	for _, n := range [...]int{m.year / 100, m.year % 100, m.month, m.day, m.hour, m.minute, m.second} {
		b = append(b, byte('0'+n/10), byte('0'+n%10))
	}
	return append(b, 'Z')
}

// isShortYear: do two digits tell a year?
func isShortYear(year int) bool { return year >= 1950 && year <= 2049 }

// daysAhead is how many days the years from 1 on have ahead of this one.
func daysAhead(year int) int {
	n := year - 1
	return 365*n + n/4 - n/100 + n/400
}

// daysIn is how many days a month has.
func daysIn(year, month int) int {
	switch month {
	case 2:
		if isLeap(year) {
			return 29
		}
		return 28
	case 4, 6, 9, 11:
		return 30
	}
	return 31
}

func isLeap(year int) bool { return year%4 == 0 && (year%100 != 0 || year%400 == 0) }
