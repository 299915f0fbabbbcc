package tests

import (
	"math"
	"math/rand"
	"strings"
	"testing"
	"time"

	"loop.example/g00256/impl"
)

const lastDay = 2932896

// The forms of text, as the library tells them.
const (
	usualForm = "Mon, 02 Jan 2006 15:04:05 GMT"
	longForm  = "Monday, 02-Jan-06 15:04:05 GMT"
	oldForm   = "Mon Jan _2 15:04:05 2006"
)

func secondsOf(t *testing.T, d impl.Date) int {
	t.Helper()
	n, ok := impl.SecondsOf(d)
	if !ok {
		t.Fatalf("SecondsOf(%+v) tells false", d)
	}
	return n
}

func newYear(t *testing.T, year int) int {
	t.Helper()
	return secondsOf(t, impl.Date{Year: year, Month: 1, Day: 1})
}

func libraryTime(d impl.Date) time.Time {
	return time.Date(d.Year, time.Month(d.Month), d.Day, d.Hour, d.Minute, d.Second, 0, time.UTC)
}

func libraryDate(at time.Time) impl.Date {
	return impl.Date{Year: at.Year(), Month: int(at.Month()), Day: at.Day(), Hour: at.Hour(), Minute: at.Minute(), Second: at.Second()}
}

func checkRead(t *testing.T, s string, now int, want impl.Date) {
	t.Helper()
	if d, ok := impl.ReadDate(s, now); !ok || d != want {
		t.Errorf("ReadDate(%q, %d) = %+v, %v, not %+v", s, now, d, ok, want)
	}
}

func checkUnread(t *testing.T, s string, now int) {
	t.Helper()
	if d, ok := impl.ReadDate(s, now); ok || d != (impl.Date{}) {
		t.Errorf("ReadDate(%q, %d) = %+v, %v", s, now, d, ok)
	}
}

func TestEachDayComesBack(t *testing.T) {
	for days := 0; days <= lastDay; days++ {
		seconds := days*86400 + days*7919%86400
		at := time.Unix(int64(seconds), 0).UTC()
		want := libraryDate(at)
		d, ok := impl.DateAt(seconds)
		if !ok || d != want || !impl.GoodDate(d) {
			t.Fatalf("DateAt(%d) = %+v, %v, not %+v", seconds, d, ok, want)
		}
		if n, ok := impl.SecondsOf(d); !ok || n != seconds {
			t.Fatalf("SecondsOf(%+v) = %d, %v, not %d", d, n, ok, seconds)
		}
		if n, ok := impl.DaysOf(d.Year, d.Month, d.Day); !ok || n != days {
			t.Fatalf("DaysOf(%+v) = %d, %v, not %d", d, n, ok, days)
		}
		if w, ok := impl.WeekdayOf(days); !ok || w != int(at.Weekday()) {
			t.Fatalf("WeekdayOf(%d) = %d, %v", days, w, ok)
		}
	}
}

func TestEachSecondOfADayComesBack(t *testing.T) {
	for _, days := range []int{0, 58, 11016, 47540, lastDay} {
		for rest := 0; rest < 86400; rest++ {
			d, ok := impl.DateAt(days*86400 + rest)
			if !ok || d.Hour != rest/3600 || d.Minute != rest%3600/60 || d.Second != rest%60 {
				t.Fatalf("DateAt of day %d, second %d: %+v, %v", days, rest, d, ok)
			}
			if n := secondsOf(t, d); n != days*86400+rest {
				t.Fatalf("SecondsOf(%+v) = %d", d, n)
			}
		}
	}
}

func TestEdgesOfTime(t *testing.T) {
	first := impl.Date{Year: 1970, Month: 1, Day: 1}
	last := impl.Date{Year: 9999, Month: 12, Day: 31, Hour: 23, Minute: 59, Second: 59}
	for n, want := range map[int]impl.Date{
		0:                  first,
		1:                  {Year: 1970, Month: 1, Day: 1, Second: 1},
		59:                 {Year: 1970, Month: 1, Day: 1, Second: 59},
		60:                 {Year: 1970, Month: 1, Day: 1, Minute: 1},
		3599:               {Year: 1970, Month: 1, Day: 1, Minute: 59, Second: 59},
		3600:               {Year: 1970, Month: 1, Day: 1, Hour: 1},
		86399:              {Year: 1970, Month: 1, Day: 1, Hour: 23, Minute: 59, Second: 59},
		86400:              {Year: 1970, Month: 1, Day: 2},
		784111777:          {Year: 1994, Month: 11, Day: 6, Hour: 8, Minute: 49, Second: 37},
		951782400:          {Year: 2000, Month: 2, Day: 29},
		impl.MaxSecond - 1: {Year: 9999, Month: 12, Day: 31, Hour: 23, Minute: 59, Second: 58},
		impl.MaxSecond:     last,
	} {
		if d, ok := impl.DateAt(n); !ok || d != want {
			t.Errorf("DateAt(%d) = %+v, %v", n, d, ok)
		}
		if back := secondsOf(t, want); back != n {
			t.Errorf("SecondsOf(%+v) = %d", want, back)
		}
	}
	if impl.MaxSecond != 253402300799 {
		t.Error("MaxSecond", impl.MaxSecond)
	}
	if n, ok := impl.DaysOf(1970, 1, 1); n != 0 || !ok {
		t.Error("the first day", n, ok)
	}
	if n, ok := impl.DaysOf(9999, 12, 31); n != lastDay || !ok {
		t.Error("the last day", n, ok)
	}
	for _, n := range []int{-1, impl.MaxSecond + 1, -86400, -impl.MaxSecond, impl.MaxSecond * 2, math.MinInt, math.MinInt + 1, math.MaxInt, math.MaxInt - 1} {
		if d, ok := impl.DateAt(n); ok || d != (impl.Date{}) {
			t.Errorf("DateAt(%d) = %+v, %v", n, d, ok)
		}
	}
}

func TestSecondsFollowOneAnother(t *testing.T) {
	day := func(year, month, day int) impl.Date {
		return impl.Date{Year: year, Month: month, Day: day}
	}
	follows := [][2]impl.Date{
		{day(1970, 1, 1), day(1970, 1, 2)},
		{day(1970, 2, 28), day(1970, 3, 1)},
		{day(1972, 2, 28), day(1972, 2, 29)},
		{day(1972, 2, 29), day(1972, 3, 1)},
		{day(1994, 11, 6), day(1994, 11, 7)},
		{day(1999, 12, 31), day(2000, 1, 1)},
		{day(2000, 2, 28), day(2000, 2, 29)},
		{day(2000, 2, 29), day(2000, 3, 1)},
		{day(2000, 12, 31), day(2001, 1, 1)},
		{day(2001, 2, 28), day(2001, 3, 1)},
		{day(2004, 2, 29), day(2004, 3, 1)},
		{day(2004, 12, 31), day(2005, 1, 1)},
		{day(2100, 2, 28), day(2100, 3, 1)},
		{day(2100, 12, 31), day(2101, 1, 1)},
		{day(2200, 2, 28), day(2200, 3, 1)},
		{day(2300, 2, 28), day(2300, 3, 1)},
		{day(2400, 2, 28), day(2400, 2, 29)},
		{day(2400, 2, 29), day(2400, 3, 1)},
		{day(2400, 12, 31), day(2401, 1, 1)},
		{day(9996, 2, 29), day(9996, 3, 1)},
		{day(9998, 12, 31), day(9999, 1, 1)},
		{day(9999, 12, 30), day(9999, 12, 31)},
	}
	for month, last := range []int{31, 28, 31, 30, 31, 30, 31, 31, 30, 31, 30} {
		follows = append(follows, [2]impl.Date{day(2023, month+1, last), day(2023, month+2, 1)})
	}
	for year := 1970; year < 9999; year++ {
		follows = append(follows, [2]impl.Date{day(year, 12, 31), day(year+1, 1, 1)})
	}
	for _, f := range follows {
		end := f[0]
		end.Hour, end.Minute, end.Second = 23, 59, 59
		n := secondsOf(t, end)
		if next := secondsOf(t, f[1]); next != n+1 {
			t.Errorf("%+v is at %d, %+v at %d", end, n, f[1], next)
		}
		if d, ok := impl.DateAt(n); !ok || d != end {
			t.Errorf("DateAt(%d) = %+v, %v, not %+v", n, d, ok, end)
		}
		if d, ok := impl.DateAt(n + 1); !ok || d != f[1] {
			t.Errorf("DateAt(%d) = %+v, %v, not %+v", n+1, d, ok, f[1])
		}
	}
}

func TestIsLeap(t *testing.T) {
	for year, want := range map[int]bool{
		1970: false, 1971: false, 1972: true, 1996: true, 1999: false, 2000: true, 2001: false, 2004: true, 2023: false, 2024: true,
		2096: true, 2100: false, 2104: true, 2200: false, 2300: false, 2400: true, 2800: true, 4000: true, 9600: true, 9900: false, 9996: true, 9999: false,
	} {
		if leap, ok := impl.IsLeap(year); !ok || leap != want {
			t.Errorf("IsLeap(%d) = %v, %v", year, leap, ok)
		}
	}
	for year := 1970; year <= 9999; year++ {
		leap, ok := impl.IsLeap(year)
		if want := time.Date(year, 12, 31, 0, 0, 0, 0, time.UTC).YearDay() == 366; !ok || leap != want {
			t.Errorf("IsLeap(%d) = %v, %v", year, leap, ok)
		}
		if n, ok := impl.DaysOf(year, 2, 29); ok != leap || !ok && n != 0 {
			t.Errorf("DaysOf(%d, 2, 29) = %d, %v", year, n, ok)
		}
	}
	for _, year := range []int{1969, 10000, 1968, 10004, 1900, 1600, 4, 0, -4, -400, -2000, 12000, math.MinInt, math.MaxInt} {
		if leap, ok := impl.IsLeap(year); ok || leap {
			t.Errorf("IsLeap(%d) = %v, %v", year, leap, ok)
		}
	}
}

func TestWeekdaysFollowOneAnother(t *testing.T) {
	before := 3
	for days := 0; days <= lastDay; days++ {
		w, ok := impl.WeekdayOf(days)
		if !ok || w != (before+1)%7 {
			t.Fatalf("WeekdayOf(%d) = %d, %v", days, w, ok)
		}
		before = w
	}
	for days, want := range map[int]int{0: 4, 1: 5, 2: 6, 3: 0, 4: 1, 9075: 0, 10957: 6, lastDay: 5} {
		if w, ok := impl.WeekdayOf(days); !ok || w != want {
			t.Errorf("WeekdayOf(%d) = %d, %v", days, w, ok)
		}
	}
	for _, days := range []int{-1, -4, -7, lastDay + 1, lastDay + 7, math.MinInt, math.MaxInt} {
		if w, ok := impl.WeekdayOf(days); ok || w != 0 {
			t.Errorf("WeekdayOf(%d) = %d, %v", days, w, ok)
		}
	}
}

func TestGoodDates(t *testing.T) {
	for month, last := range []int{31, 28, 31, 30, 31, 30, 31, 31, 30, 31, 30, 31} {
		for _, year := range []int{1970, 2000, 2024, 2100, 2400, 9999} {
			most := last
			if leap, _ := impl.IsLeap(year); leap && month == 1 {
				most = 29
			}
			for day := -1; day <= 33; day++ {
				d := impl.Date{Year: year, Month: month + 1, Day: day}
				want := day >= 1 && day <= most
				if impl.GoodDate(d) != want {
					t.Errorf("GoodDate(%+v) is not %v", d, want)
				}
				if n, ok := impl.DaysOf(year, month+1, day); ok != want || !ok && n != 0 {
					t.Errorf("DaysOf(%d, %d, %d) = %d, %v", year, month+1, day, n, ok)
				}
			}
		}
	}
	good := impl.Date{Year: 2024, Month: 5, Day: 17}
	for n := -1; n <= 100; n++ {
		hour, minute, second := good, good, good
		hour.Hour, minute.Minute, second.Second = n, n, n
		if impl.GoodDate(hour) != (n >= 0 && n <= 23) {
			t.Error("hour", n)
		}
		if impl.GoodDate(minute) != (n >= 0 && n <= 59) {
			t.Error("minute", n)
		}
		if impl.GoodDate(second) != (n >= 0 && n <= 59) {
			t.Error("second", n)
		}
	}
}

// badDates are dates that are not good, each but for one thing.
func badDates() []impl.Date {
	bad := []impl.Date{
		{},
		{Year: 1969, Month: 12, Day: 31, Hour: 23, Minute: 59, Second: 59},
		{Year: 10000, Month: 1, Day: 1},
		{Year: 1900, Month: 2, Day: 28},
		{Year: 2023, Month: 2, Day: 29},
		{Year: 2100, Month: 2, Day: 29},
		{Year: 2000, Month: 2, Day: 30},
		{Year: 2024, Month: 4, Day: 31},
		{Year: 1994, Month: 11, Day: 6, Hour: 24},
		{Year: 1994, Month: 11, Day: 6, Minute: 60},
		{Year: 1994, Month: 11, Day: 6, Second: 60},
	}
	for _, n := range []int{-1, -60, 10000, 1 << 32, 1<<32 + 7, -1<<32 + 7, math.MinInt, math.MinInt + 1, math.MaxInt, math.MaxInt - 1} {
		for part := range 6 {
			d := impl.Date{Year: 1994, Month: 11, Day: 6, Hour: 8, Minute: 49, Second: 37}
			*[]*int{&d.Year, &d.Month, &d.Day, &d.Hour, &d.Minute, &d.Second}[part] = n
			bad = append(bad, d)
		}
	}
	for part := range 3 {
		d := impl.Date{Year: 1994, Month: 11, Day: 6}
		*[]*int{&d.Year, &d.Month, &d.Day}[part] = 0
		bad = append(bad, d)
	}
	return append(bad, impl.Date{Year: 1994, Month: 13, Day: 6}, impl.Date{Year: 1994, Month: 1, Day: 32})
}

func TestBadDatesAreRefused(t *testing.T) {
	for _, d := range badDates() {
		if impl.GoodDate(d) {
			t.Errorf("GoodDate(%+v)", d)
		}
		if n, ok := impl.SecondsOf(d); ok || n != 0 {
			t.Errorf("SecondsOf(%+v) = %d, %v", d, n, ok)
		}
		if s, ok := impl.DateText(d); ok || s != "" {
			t.Errorf("DateText(%+v) = %q, %v", d, s, ok)
		}
		day := impl.Date{Year: d.Year, Month: d.Month, Day: d.Day}
		if n, ok := impl.DaysOf(d.Year, d.Month, d.Day); ok != impl.GoodDate(day) || !ok && n != 0 {
			t.Errorf("DaysOf(%d, %d, %d) = %d, %v", d.Year, d.Month, d.Day, n, ok)
		}
	}
}

func TestDateText(t *testing.T) {
	for want, d := range map[string]impl.Date{
		"Sun, 06 Nov 1994 08:49:37 GMT": {Year: 1994, Month: 11, Day: 6, Hour: 8, Minute: 49, Second: 37},
		"Thu, 01 Jan 1970 00:00:00 GMT": {Year: 1970, Month: 1, Day: 1},
		"Fri, 31 Dec 9999 23:59:59 GMT": {Year: 9999, Month: 12, Day: 31, Hour: 23, Minute: 59, Second: 59},
		"Tue, 29 Feb 2000 09:10:00 GMT": {Year: 2000, Month: 2, Day: 29, Hour: 9, Minute: 10},
		"Mon, 01 Mar 2100 10:09:01 GMT": {Year: 2100, Month: 3, Day: 1, Hour: 10, Minute: 9, Second: 1},
		"Sat, 30 Apr 2022 00:00:09 GMT": {Year: 2022, Month: 4, Day: 30, Second: 9},
		"Wed, 10 May 2023 00:00:10 GMT": {Year: 2023, Month: 5, Day: 10, Second: 10},
		"Mon, 09 Jun 2025 00:00:00 GMT": {Year: 2025, Month: 6, Day: 9},
		"Fri, 04 Jul 2008 00:00:00 GMT": {Year: 2008, Month: 7, Day: 4},
		"Thu, 15 Aug 2019 00:00:00 GMT": {Year: 2019, Month: 8, Day: 15},
		"Sat, 20 Sep 2014 00:00:00 GMT": {Year: 2014, Month: 9, Day: 20},
		"Tue, 11 Oct 2033 00:00:00 GMT": {Year: 2033, Month: 10, Day: 11},
	} {
		if s, ok := impl.DateText(d); !ok || s != want {
			t.Errorf("DateText(%+v) = %q, %v, not %q", d, s, ok, want)
		}
		checkRead(t, want, 0, d)
		checkRead(t, want, impl.MaxSecond, d)
	}
}

func randomDate(r *rand.Rand) impl.Date {
	seconds := r.Int63n(impl.MaxSecond + 1)
	if r.Intn(2) == 0 {
		seconds = r.Int63n(86400 * 366 * 150)
	}
	return libraryDate(time.Unix(seconds, 0).UTC())
}

func TestDatesComeBackFromEachForm(t *testing.T) {
	r := rand.New(rand.NewSource(21))
	for range 100000 {
		d := randomDate(r)
		at := libraryTime(d)
		if s, ok := impl.DateText(d); !ok || s != at.Format(usualForm) {
			t.Fatalf("DateText(%+v) = %q, %v", d, s, ok)
		}
		for _, form := range []string{usualForm, longForm, oldForm} {
			s := at.Format(form)
			if read, ok := impl.ReadDate(s, secondsOf(t, d)); !ok || read != d {
				t.Fatalf("ReadDate(%q) at its own time: %+v, %v", s, read, ok)
			}
			if form == longForm {
				continue
			}
			if read, ok := impl.ReadDate(s, r.Intn(impl.MaxSecond+1)); !ok || read != d {
				t.Fatalf("ReadDate(%q) = %+v, %v", s, read, ok)
			}
		}
	}
}

func TestEachDayOfSomeYearsInEachForm(t *testing.T) {
	for _, year := range []int{1970, 1999, 2000, 2024, 2100, 2400, 9999} {
		for at := time.Date(year, 1, 1, 7, 8, 9, 0, time.UTC); at.Year() == year; at = at.AddDate(0, 0, 1) {
			for _, form := range []string{usualForm, longForm, oldForm} {
				checkRead(t, at.Format(form), int(at.Unix()), libraryDate(at))
			}
		}
	}
}

func TestFormsOfTheDay(t *testing.T) {
	low := impl.Date{Year: 1994, Month: 11, Day: 6, Hour: 8, Minute: 49, Second: 37}
	high := impl.Date{Year: 1994, Month: 11, Day: 16, Hour: 8, Minute: 49, Second: 37}
	now := secondsOf(t, low)
	checkRead(t, "Sun, 06 Nov 1994 08:49:37 GMT", now, low)
	checkRead(t, "Sunday, 06-Nov-94 08:49:37 GMT", now, low)
	checkRead(t, "Sun Nov  6 08:49:37 1994", now, low)
	checkRead(t, "Wed, 16 Nov 1994 08:49:37 GMT", now, high)
	checkRead(t, "Wednesday, 16-Nov-94 08:49:37 GMT", now, high)
	checkRead(t, "Wed Nov 16 08:49:37 1994", now, high)
	for _, s := range []string{
		"Sun,  6 Nov 1994 08:49:37 GMT", "Sun, 6 Nov 1994 08:49:37 GMT", "Sun, 006 Nov 1994 08:49:37 GMT",
		"Sunday,  6-Nov-94 08:49:37 GMT", "Sunday, 6-Nov-94 08:49:37 GMT",
		"Sun Nov 06 08:49:37 1994", "Sun Nov 6 08:49:37 1994", "Sun Nov 6  08:49:37 1994", "Sun Nov   6 08:49:37 1994", "Sun Nov\t 6 08:49:37 1994",
		"Wed Nov  16 08:49:37 1994", "Wed Nov 016 08:49:37 1994", "Wed Nov    08:49:37 1994", "Wed Nov 1  08:49:37 1994",
	} {
		checkUnread(t, s, now)
	}
}

// yearOfEnding looks at both years that there may be, in the words of the
// document: of now's century and of the one ahead of it.
func yearOfEnding(digits int, thisYear int) (int, bool) {
	century := thisYear / 100 * 100
	for _, year := range []int{century + digits, century - 100 + digits} {
		if year <= thisYear+50 {
			return year, year >= 1970
		}
	}
	return 0, false
}

func TestYearsOfTwoDigits(t *testing.T) {
	nows := []int{9899, 9900, 9949, 9950, 9951, 9999}
	for year := 1970; year <= 2310; year++ {
		nows = append(nows, year)
	}
	for _, thisYear := range nows {
		begin := newYear(t, thisYear)
		end := secondsOf(t, impl.Date{Year: thisYear, Month: 12, Day: 31, Hour: 23, Minute: 59, Second: 59})
		for digits := range 100 {
			year, good := yearOfEnding(digits, thisYear)
			at := time.Date(year, 6, 15, 1, 2, 3, 0, time.UTC)
			for _, now := range []int{begin, end} {
				if good {
					checkRead(t, at.Format(longForm), now, libraryDate(at))
				} else {
					checkUnread(t, at.Format(longForm), now)
				}
				// With the names of days of other centuries' years it is no date; some years' are the same.
				for _, other := range []int{year - 100, year + 100} {
					wrong := time.Date(other, 6, 15, 1, 2, 3, 0, time.UTC)
					if wrong.Weekday() != at.Weekday() {
						checkUnread(t, wrong.Format(longForm), now)
					}
				}
			}
		}
	}
}

func TestFiftyYearsBeyond(t *testing.T) {
	for _, c := range []struct{ thisYear, digits, want int }{
		{2020, 70, 2070}, {2020, 71, 1971}, {2020, 20, 2020}, {2020, 19, 2019}, {2020, 0, 2000}, {2020, 99, 1999},
		{2019, 70, 1970}, {2026, 76, 2076}, {2026, 77, 1977}, {2026, 26, 2026},
		{2049, 99, 2099}, {2048, 99, 1999}, {2050, 99, 2099}, {2050, 0, 2000}, {2060, 5, 2005}, {2099, 99, 2099}, {2099, 0, 2000}, {2099, 50, 2050},
		{2100, 0, 2100}, {2100, 50, 2150}, {2100, 51, 2051}, {2100, 99, 2099}, {1994, 94, 1994}, {1994, 70, 1970}, {1994, 99, 1999}, {1970, 99, 1999},
		{9999, 99, 9999}, {9999, 0, 9900}, {9949, 99, 9999}, {9948, 99, 9899},
	} {
		at := time.Date(c.want, 3, 1, 23, 59, 59, 0, time.UTC)
		if at.Year()%100 != c.digits {
			t.Fatal(c)
		}
		checkRead(t, at.Format(longForm), newYear(t, c.thisYear), libraryDate(at))
	}
	// Years ahead of 1970 are none, whatever their day.
	for _, c := range [][2]int{{2010, 1965}, {2018, 1969}, {2000, 1951}, {1994, 1944}, {1970, 1969}, {1970, 1920}} {
		at := time.Date(c[1], 3, 1, 23, 59, 59, 0, time.UTC)
		checkUnread(t, at.Format(longForm), newYear(t, c[0]))
	}
}

func TestReadDateAsksForAGoodNow(t *testing.T) {
	texts := []string{"Thu, 01 Jan 1970 00:00:00 GMT", "Thursday, 01-Jan-70 00:00:00 GMT", "Thu Jan  1 00:00:00 1970"}
	for _, s := range texts {
		checkRead(t, s, 0, impl.Date{Year: 1970, Month: 1, Day: 1})
		for _, now := range []int{-1, impl.MaxSecond + 1, math.MinInt, math.MaxInt} {
			checkUnread(t, s, now)
		}
	}
	last := impl.Date{Year: 9999, Month: 12, Day: 31, Hour: 23, Minute: 59, Second: 59}
	for _, s := range []string{"Fri, 31 Dec 9999 23:59:59 GMT", "Friday, 31-Dec-99 23:59:59 GMT", "Fri Dec 31 23:59:59 9999"} {
		checkRead(t, s, impl.MaxSecond, last)
		for _, now := range []int{-1, impl.MaxSecond + 1, math.MinInt, math.MaxInt} {
			checkUnread(t, s, now)
		}
	}
}

func TestReadDateRefuses(t *testing.T) {
	now := newYear(t, 2018)
	for _, s := range []string{
		"", " ", ",", ", ", "GMT", "Sun", "Sunday, ", "Sun, ", "now", "784111777", "1994-11-06T08:49:37Z",
		// Small and great letters.
		"sun, 06 Nov 1994 08:49:37 GMT", "SUN, 06 Nov 1994 08:49:37 GMT", "Sun, 06 nov 1994 08:49:37 GMT", "Sun, 06 NOV 1994 08:49:37 GMT", "Sun, 06 Nov 1994 08:49:37 gmt", "Sun, 06 Nov 1994 08:49:37 Gmt",
		"sunday, 06-Nov-94 08:49:37 GMT", "SUNDAY, 06-Nov-94 08:49:37 GMT", "Sunday, 06-nov-94 08:49:37 GMT", "Sunday, 06-NOV-94 08:49:37 GMT", "Sunday, 06-Nov-94 08:49:37 gmt",
		"sun Nov  6 08:49:37 1994", "SUN Nov  6 08:49:37 1994", "Sun nov  6 08:49:37 1994", "Sun NOV  6 08:49:37 1994",
		// Blanks.
		" Sun, 06 Nov 1994 08:49:37 GMT", "Sun, 06 Nov 1994 08:49:37 GMT ", "Sun,  06 Nov 1994 08:49:37 GMT", "Sun,06 Nov 1994 08:49:37 GMT", "Sun, 06  Nov 1994 08:49:37 GMT", "Sun, 06 Nov  1994 08:49:37 GMT", "Sun, 06 Nov 1994  08:49:37 GMT", "Sun, 06 Nov 1994 08:49:37  GMT", "Sun, 06 Nov 1994 08:49:37GMT", "Sun , 06 Nov 1994 08:49:37 GMT", "Sun, 06 Nov 1994  8:49:37 GMT", "Sun, 06 Nov 1994 08: 9:37 GMT", "Sun, 06 Nov 1994 08:49: 7 GMT", "Sun,\t06 Nov 1994 08:49:37 GMT", "Sun, 06 Nov 1994 08:49:37\tGMT", "Sun, 06 Nov 1994 08:49:37 GMT\n",
		" Sunday, 06-Nov-94 08:49:37 GMT", "Sunday, 06-Nov-94 08:49:37 GMT ", "Sunday,06-Nov-94 08:49:37 GMT", "Sunday,  06-Nov-94 08:49:37 GMT", "Sunday, 06-Nov-94  08:49:37 GMT", "Sunday, 06-Nov-94 08:49:37  GMT", "Sunday, 06 -Nov-94 08:49:37 GMT", "Sunday, 06-Nov-94  8:49:37 GMT",
		" Sun Nov  6 08:49:37 1994", "Sun Nov  6 08:49:37 1994 ", "Sun  Nov  6 08:49:37 1994", "Sun Nov  6  08:49:37 1994", "Sun Nov  6 08:49:37  1994", "SunNov  6 08:49:37 1994", "Sun Nov  608:49:37 1994", "Sun Nov  6  8:49:37 1994",
		// Other signs.
		"Sun; 06 Nov 1994 08:49:37 GMT", "Sun. 06 Nov 1994 08:49:37 GMT", "Sun, 06-Nov-1994 08:49:37 GMT", "Sun, 06 Nov 1994 08.49.37 GMT", "Sun, 06 Nov 1994 08:49.37 GMT", "Sun, 06 Nov 1994T08:49:37 GMT", "Sun, 06 Nov 1994 08:49:37-GMT", "Sun, +6 Nov 1994 08:49:37 GMT", "Sun, 06 Nov +994 08:49:37 GMT", "Sun, 06 Nov 1994 +8:49:37 GMT", "Sun, 06 Nov 1994 08:-9:37 GMT", "Sun, 0x Nov 1994 08:49:37 GMT",
		"Sunday; 06-Nov-94 08:49:37 GMT", "Sunday, 06 Nov 94 08:49:37 GMT", "Sunday, 06/Nov/94 08:49:37 GMT", "Sunday, 06-Nov 94 08:49:37 GMT", "Sunday, 06-Nov-94-08:49:37 GMT", "Sunday, 06-Nov-+4 08:49:37 GMT", "Sunday, 06-Nov--4 08:49:37 GMT", "Sunday, 06-Nov- 4 08:49:37 GMT", "Sunday, 06-Nov-9x 08:49:37 GMT",
		"Sun, Nov  6 08:49:37 1994", "Sun-Nov- 6-08:49:37-1994", "Sun Nov  6 08-49-37 1994", "Sun Nov +6 08:49:37 1994", "Sun Nov -6 08:49:37 1994", "Sun Nov  6 08:49:37 +994", "Sun Nov  6 08:49:37 -994",
		// Other zones, more and less.
		"Sun, 06 Nov 1994 08:49:37 UTC", "Sun, 06 Nov 1994 08:49:37 UT", "Sun, 06 Nov 1994 08:49:37 +0000", "Sun, 06 Nov 1994 08:49:37 Z", "Sun, 06 Nov 1994 08:49:37", "06 Nov 1994 08:49:37 GMT", "Sun, 06 Nov 1994", "Sun, 06 Nov 1994 08:49 GMT", "Sun, 06 Nov 1994 08:49:37.0 GMT",
		"Sunday, 06-Nov-94 08:49:37 UTC", "Sunday, 06-Nov-94 08:49:37", "06-Nov-94 08:49:37 GMT", ", 06-Nov-94 08:49:37 GMT", "Sun Nov  6 08:49:37 1994 GMT", "Nov  6 08:49:37 1994", "Sun Nov  6 1994", "Sun Nov  6 08:49:37",
		// Names and years of another form.
		"Sunday, 06 Nov 1994 08:49:37 GMT", "Sun, 06-Nov-94 08:49:37 GMT", "Sun, 06 Nov 94 08:49:37 GMT", "Sunday, 06-Nov-1994 08:49:37 GMT", "Sunday Nov  6 08:49:37 1994", "Sun Nov  6 08:49:37 94", "Sun, 06 November 1994 08:49:37 GMT", "Sunday, 06-November-94 08:49:37 GMT", "Sun November  6 08:49:37 1994", "Sun, 06 11 1994 08:49:37 GMT", "Sunday, 06-11-94 08:49:37 GMT",
		// Other names.
		"Son, 06 Nov 1994 08:49:37 GMT", "Sonntag, 06-Nov-94 08:49:37 GMT", "Sun, 06 Now 1994 08:49:37 GMT", "Sunday, 06-Now-94 08:49:37 GMT", "Sun Now  6 08:49:37 1994", "\x00un, 06 Nov 1994 08:49:37 GMT", "Sun, 06 \xff\xff\xff 1994 08:49:37 GMT", "Sun, 06     1994 08:49:37 GMT",
		// Another day's name.
		"Mon, 06 Nov 1994 08:49:37 GMT", "Sat, 06 Nov 1994 08:49:37 GMT", "Monday, 06-Nov-94 08:49:37 GMT", "Saturday, 06-Nov-94 08:49:37 GMT", "Mon Nov  6 08:49:37 1994", "Sat Nov  6 08:49:37 1994", "Sun, 06 Nov 1995 08:49:37 GMT", "Sun, 07 Nov 1994 08:49:37 GMT",
		// What is no date.
		"Wed, 30 Feb 2000 00:00:00 GMT", "Wed, 29 Feb 2023 00:00:00 GMT", "Mon, 29 Feb 2100 00:00:00 GMT", "Tue, 00 Nov 1994 08:49:37 GMT", "Thu, 31 Nov 1994 08:49:37 GMT", "Sun, 32 Nov 1994 08:49:37 GMT", "Sun, 06 Nov 1994 24:00:00 GMT", "Sun, 06 Nov 1994 08:60:37 GMT", "Sun, 06 Nov 1994 08:49:60 GMT", "Sun, 06 Nov 1994 99:99:99 GMT",
		"Wednesday, 30-Feb-00 00:00:00 GMT", "Wednesday, 01-Feb-23 24:00:00 GMT", "Wednesday, 01-Feb-23 00:60:00 GMT", "Wednesday, 01-Feb-23 00:00:60 GMT", "Tuesday, 00-Nov-94 08:49:37 GMT",
		"Wed Feb 30 00:00:00 2000", "Sun Nov  6 24:00:00 1994", "Sun Nov  6 08:60:37 1994", "Sun Nov  6 08:49:60 1994", "Mon Oct 32 08:49:37 1994", "Tue Nov  0 08:49:37 1994",
		"Wed, 31 Dec 1969 23:59:59 GMT", "Sat, 01 Jan 10000 00:00:00 GMT", "Sat, 01 Jan 0000 00:00:00 GMT", "Wed, 28 Feb 1900 00:00:00 GMT", "Wed Dec 31 23:59:59 1969", "Sat Jan  1 00:00:00 10000", "Sat Jan  1 00:00:00 0000", "Wed Feb 28 00:00:00 1900",
		strings.Repeat("0", 24), strings.Repeat("0", 29), strings.Repeat("9", 30), strings.Repeat(" ", 24), strings.Repeat(" ", 29), strings.Repeat("\xff", 24), strings.Repeat("\xff", 29), strings.Repeat("\x00", 33),
		strings.Repeat("Sun, 06 Nov 1994 08:49:37 GMT", 2), strings.Repeat("Sunday, ", 2) + "06-Nov-94 08:49:37 GMT", strings.Repeat("x", 100000) + ", 06-Nov-94 08:49:37 GMT", strings.Repeat(", ", 100000),
	} {
		checkUnread(t, s, now)
	}
}

func TestCutAndLongerTextsAreNoDates(t *testing.T) {
	now := newYear(t, 1994)
	for _, s := range []string{"Sun, 06 Nov 1994 08:49:37 GMT", "Sunday, 06-Nov-94 08:49:37 GMT", "Sun Nov  6 08:49:37 1994"} {
		for i := range len(s) {
			checkUnread(t, s[:i], now)
			checkUnread(t, s[i+1:], now)
			checkUnread(t, s[:i]+s[i+1:], now)
			checkUnread(t, s[:i]+s[i:i+1]+s[i:], now)
			checkUnread(t, s[:i]+" "+s[i:], now)
			checkUnread(t, s[:i]+"0"+s[i:], now)
		}
	}
}

// readByTheLibrary takes what the library reads and tells again just so. It
// takes two digits for 1969..2068, as a now in 2018 does.
func readByTheLibrary(s string) (impl.Date, bool) {
	for _, form := range []string{usualForm, longForm, oldForm} {
		at, err := time.Parse(form, s)
		if err == nil && at.Format(form) == s && at.Year() >= 1970 {
			return libraryDate(at), true
		}
	}
	return impl.Date{}, false
}

func TestEachByteInEachPlaceOfADate(t *testing.T) {
	now := newYear(t, 2018)
	for _, s := range []string{
		"Sun, 06 Nov 1994 08:49:37 GMT", "Sunday, 06-Nov-94 08:49:37 GMT", "Sun Nov  6 08:49:37 1994",
		"Tue, 29 Feb 2000 23:59:59 GMT", "Wednesday, 31-Dec-69 00:00:00 GMT", "Tue Feb 29 19:00:09 2000", "Monday, 31-Dec-68 10:11:12 GMT",
	} {
		for at := range len(s) {
			for b := range 256 {
				text := s[:at] + string([]byte{byte(b)}) + s[at+1:]
				want, good := readByTheLibrary(text)
				if d, ok := impl.ReadDate(text, now); ok != good || d != want {
					t.Errorf("ReadDate(%q) = %+v, %v, not %+v, %v", text, d, ok, want, good)
				}
			}
		}
	}
}

func TestNearlyDatesBesideTheLibrary(t *testing.T) {
	r := rand.New(rand.NewSource(22))
	now := newYear(t, 2018)
	two := []string{"00", "01", "06", "09", "10", "23", "24", "28", "29", "30", "31", "32", "59", "60", "68", "69", "70", "99", " 1", "1 ", "0x"}
	one := func(l []string) string { return l[r.Intn(len(l))] }
	days := []string{"Sun", "Mon", "Tue", "Wed", "Thu", "Fri", "Sat"}
	rest := []string{"day", "day", "sday", "nesday", "rsday", "day", "urday"}
	months := []string{"Jan", "Feb", "Mar", "Apr", "May", "Jun", "Jul", "Aug", "Sep", "Oct", "Nov", "Dec", "jan", "Foo"}
	years := []string{"1969", "1970", "1994", "2000", "2023", "2024", "2100", "9999", "0000"}
	good := 0
	for range 300000 {
		clock := one(two[:14]) + ":" + one(two[:14]) + ":" + one(two[:14])
		day := r.Intn(7)
		s := ""
		switch r.Intn(3) {
		case 0:
			s = days[day] + ", " + one(two) + " " + one(months) + " " + one(years) + " " + clock + " GMT"
		case 1:
			s = days[day] + rest[day] + ", " + one(two) + "-" + one(months) + "-" + one(two) + " " + clock + " GMT"
		default:
			s = days[day] + " " + one(months) + " " + one(two) + " " + clock + " " + one(years)
		}
		want, is := readByTheLibrary(s)
		if d, ok := impl.ReadDate(s, now); ok != is || d != want {
			t.Fatalf("ReadDate(%q) = %+v, %v, not %+v, %v", s, d, ok, want, is)
		}
		if is {
			good++
		}
	}
	if good < 1000 {
		t.Error("too few of them are dates:", good)
	}
}

// Any numbers and bytes, at each function: no panic, and zero beside a false.
func TestDateFunctionsAnswerAtAnything(t *testing.T) {
	r := rand.New(rand.NewSource(23))
	edges := []int{0, 1, 2, 12, 13, 23, 24, 28, 29, 30, 31, 32, 59, 60, -1, 1969, 1970, 2000, 2100, 9999, 10000, lastDay, lastDay + 1, impl.MaxSecond, impl.MaxSecond + 1, 1 << 32, math.MinInt, math.MaxInt}
	number := func() int {
		if r.Intn(4) == 0 {
			return int(r.Uint64())
		}
		return edges[r.Intn(len(edges))]
	}
	bits := []string{"Sun", "Sunday", "Thu", "Thursday", ", ", ",", " ", "-", "01", "06", " 6", "Jan", "Nov", "1970", "1994", "94", "70", "00:00:00", "08:49:37", ":", " GMT", "\xff", "\x00"}
	for range 100000 {
		d := impl.Date{Year: number(), Month: number(), Day: number(), Hour: number(), Minute: number(), Second: number()}
		if r.Intn(2) == 0 {
			d.Year, d.Month, d.Day = 1970+r.Intn(8030), r.Intn(14), r.Intn(33)
		}
		good := impl.GoodDate(d)
		if n, ok := impl.SecondsOf(d); ok != good || !ok && n != 0 || n < 0 || n > impl.MaxSecond {
			t.Fatalf("SecondsOf(%+v) = %d, %v", d, n, ok)
		}
		if s, ok := impl.DateText(d); ok != good || !ok && s != "" {
			t.Fatalf("DateText(%+v) = %q, %v", d, s, ok)
		}
		if n, ok := impl.DaysOf(d.Year, d.Month, d.Day); good && !ok || !ok && n != 0 || n < 0 || n > lastDay {
			t.Fatalf("DaysOf(%+v) = %d, %v", d, n, ok)
		}
		n := number()
		if at, ok := impl.DateAt(n); ok != (n >= 0 && n <= impl.MaxSecond) || ok != impl.GoodDate(at) || !ok && at != (impl.Date{}) {
			t.Fatalf("DateAt(%d) = %+v, %v", n, at, ok)
		}
		if w, ok := impl.WeekdayOf(n); ok != (n >= 0 && n <= lastDay) || !ok && w != 0 || w < 0 || w > 6 {
			t.Fatalf("WeekdayOf(%d) = %d, %v", n, w, ok)
		}
		if leap, ok := impl.IsLeap(n); ok != (n >= 1970 && n <= 9999) || !ok && leap {
			t.Fatalf("IsLeap(%d) = %v, %v", n, leap, ok)
		}
		s := randomOf(r, bits, 8)
		if read, ok := impl.ReadDate(s, n); ok != impl.GoodDate(read) || !ok && read != (impl.Date{}) || ok && (n < 0 || n > impl.MaxSecond) {
			t.Fatalf("ReadDate(%q, %d) = %+v, %v", s, n, read, ok)
		}
	}
}
