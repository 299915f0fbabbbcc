package tests

import (
	"math"
	"math/rand"
	"regexp"
	"slices"
	"strconv"
	"strings"
	"testing"

	"loop.example/g00256/impl"
)

func span(from int, to int) impl.Span {
	return impl.Span{From: from, To: to}
}

// stepSpans are n spans of one byte with one byte between.
func stepSpans(n int) []impl.Span {
	l := []impl.Span{}
	for i := range n {
		l = append(l, span(2*i, 2*i+1))
	}
	return l
}

func isSpanOf(s impl.Span, end int) bool {
	return s.From >= 0 && s.To > s.From && s.To <= end
}

func areSpansOf(l []impl.Span, end int) bool {
	return len(l) <= 12 && !slices.ContainsFunc(l, func(s impl.Span) bool { return !isSpanOf(s, end) })
}

func badSpans() []impl.Span {
	return []impl.Span{{}, span(1, 1), span(5, 4), span(5, 0), span(-1, 1), span(-5, -1), span(0, -1), span(0, 1000001), span(999999, 1000001), span(1000000, 1000000), span(1000000, 1000001), span(2000000, 3000000), span(math.MinInt, math.MaxInt), span(math.MinInt, 1), span(0, math.MaxInt), span(math.MaxInt, math.MinInt), span(math.MinInt, math.MinInt), span(-math.MaxInt, 5)}
}

// wantRange also looks that there is nothing beside a code that is not 0.
func wantRange(t *testing.T, s string, size int, code int, want ...impl.Span) {
	t.Helper()
	l, got := impl.ReadRange(s, size)
	if got != code || !slices.Equal(l, want) {
		t.Errorf("ReadRange(%q, %d) = %v, %d, not %v, %d", s, size, l, got, want, code)
	}
}

func TestRangeNumbers(t *testing.T) {
	if impl.MaxRanges != 12 {
		t.Error(impl.MaxRanges)
	}
}

func TestSpansComeBackFromTheirTexts(t *testing.T) {
	for told, l := range map[string][]impl.Span{
		"bytes=0-0":                         {span(0, 1)},
		"bytes=0-9":                         {span(0, 10)},
		"bytes=9-9":                         {span(9, 10)},
		"bytes=0-999999":                    {span(0, 1000000)},
		"bytes=999999-999999":               {span(999999, 1000000)},
		"bytes=5-6,0-1,5-6,2-8":             {span(5, 7), span(0, 2), span(5, 7), span(2, 9)},
		"bytes=100-199,10-19":               {span(100, 200), span(10, 20)},
		"bytes=0-0,2-2,4-4,6-6,8-8,10-10":   stepSpans(6),
		"bytes=0-0,0-1,0-2,0-3,1-3,2-3,3-3": {span(0, 1), span(0, 2), span(0, 3), span(0, 4), span(1, 4), span(2, 4), span(3, 4)},
	} {
		if s, ok := impl.RangeText(l); s != told || !ok {
			t.Errorf("RangeText(%v) = %q, %v", l, s, ok)
		}
		for _, size := range []int{1000000, 999999, 100, 10, 9, 8, 7, 6, 5, 4, 3, 2, 1, 0} {
			there := []impl.Span{}
			for _, s := range l {
				if s.From < size {
					there = append(there, span(s.From, min(s.To, size)))
				}
			}
			code := 0
			if len(there) == 0 {
				code = 1
			}
			wantRange(t, told, size, code, there...)
		}
	}
}

func TestRandomSpansComeBack(t *testing.T) {
	r := rand.New(rand.NewSource(61))
	for range 20000 {
		l, end := []impl.Span{}, 0
		most := []int{3, 30, 1000, 1000000}[r.Intn(4)]
		for range 1 + r.Intn(12) {
			from := r.Intn(most)
			s := span(from, from+1+r.Intn(most-from))
			l, end = append(l, s), max(end, s.To)
		}
		told, ok := impl.RangeText(l)
		if !ok {
			t.Fatalf("RangeText(%v) = %q", l, told)
		}
		for _, size := range []int{end, end + r.Intn(1000001-end), 1000000} {
			wantRange(t, told, size, 0, l...)
		}
		size := r.Intn(most)
		there, code := impl.ReadRange(told, size)
		if again, _ := impl.RangeText(there); code == 0 {
			wantRange(t, again, size, 0, there...)
		}
	}
}

// Each form alone, behind another range, ahead of one, and with blanks.
func TestEachFormOfARange(t *testing.T) {
	none := impl.Span{}
	for part, want := range map[string]impl.Span{
		"0-0": span(0, 1), "0-1": span(0, 2), "3-5": span(3, 6), "0-8": span(0, 9),
		"0-9": span(0, 10), "0-10": span(0, 10), "0-999999999": span(0, 10), "9-9": span(9, 10), "9-10": span(9, 10), "9-999999999": span(9, 10), "4-4": span(4, 5), "4-5": span(4, 6),
		"10-10": none, "10-11": none, "11-12": none, "999999999-999999999": none, "10-999999999": none,
		"0-": span(0, 10), "1-": span(1, 10), "8-": span(8, 10), "9-": span(9, 10), "10-": none, "11-": none, "999999999-": none, "1000000-": none,
		"-1": span(9, 10), "-2": span(8, 10), "-9": span(1, 10), "-10": span(0, 10), "-11": span(0, 10), "-999999999": span(0, 10), "-0": none,
		"00-00": span(0, 1), "007-0008": span(7, 9), "-00": none, "-000": none, "-003": span(7, 10), "0009-": span(9, 10), "010-": none,
		"000000001-000000002": span(1, 3), "-000000001": span(9, 10), "000000000-": span(0, 10), "-000000000": none, "000000010-": none,
	} {
		for _, told := range []string{part, " " + part, part + " ", "   " + part + "   ", "," + part, part + ",", ", ,, " + part + " , ,,"} {
			for _, around := range [][2]string{{"", ""}, {"2-3,", ""}, {"", ",2-3"}, {"2-3, ", " ,-4"}, {"50-,", ",-0"}} {
				l := []impl.Span{}
				if around[0] == "2-3," || around[0] == "2-3, " {
					l = append(l, span(2, 4))
				}
				if want != none {
					l = append(l, want)
				}
				switch around[1] {
				case ",2-3":
					l = append(l, span(2, 4))
				case " ,-4":
					l = append(l, span(6, 10))
				}
				code := 0
				if len(l) == 0 {
					code = 1
				}
				wantRange(t, "bytes="+around[0]+told+around[1], 10, code, l...)
			}
		}
	}
}

func wrongRanges() []string {
	return []string{
		"-", "--", "--1", "0--1", "-1-", "0-1-", "-0-1", "1-2-3", "1-2-", "--", "---", "0", "5", "10", "05",
		"1-0", "4-2", "9-8", "10-9", "11-10", "999999999-0", "999999999-999999998", "4-3", "05-4", "5-04",
		"+1-2", "1-+2", "+1-", "-+1", "+-1", "-1+", "a", "a-", "-a", "a-b", "1-b", "a-2", "1a-2", "1-2a", "0x1-2", "1-0x2", "1e1-", "1.0-2", "1-2.0", "1_0-", "-1_0", "1:2", "1;2", "1-2;q=1", "1/2", "*", "1-*", "*-2", "-*",
		"1 -2", "1- 2", "1 - 2", "- 1", "1 -", "1 2", "1-2 3-4", "1-2;3-4",
		`"`, `""`, `"1-2"`, `1-"2"`, `"1"-2`, `1-2"`, `"1-2`, `\`, `\1-2`, `1\-2`, `1-2\`, `"\"`, `",`,
		"bytes=1-2", "bytes", "=", "=1-2", "1-2=",
		"\t", "1-2\t", "\t1-2", "\x00", "1-2\x00", "\x001-2", "1\x00-2", "\n", "1-2\n", "\r\n", "1-2\r", "\x7f", "1-\x7f", "\x80", "1-2\xff", "\xff", "1\x80-", "٣-٥", "１-２", "1–2", "1\u00a0-2", "\u00a01-2",
		"1000000000-", "1000000000-2000000000", "0-1000000000", "-1000000000", "1-9999999999", "9999999999-", "-9999999999", "0-9223372036854775807", "0-9223372036854775808", "0-18446744073709551616", "-18446744073709551617", "0-18446744073709551621",
		"0-01000000000", "-0001000000000", "0000001000000000-", strings.Repeat("9", 1000) + "-", "0-" + strings.Repeat("1", 1000), "-" + strings.Repeat("0", 1000) + "1000000000",
	}
}

func TestRangesThatAreNotRight(t *testing.T) {
	for _, part := range wrongRanges() {
		for _, size := range []int{0, 1, 10, 1000000} {
			for _, around := range [][2]string{{"", ""}, {"  ", "  "}, {"0-0,", ""}, {"", ",0-0"}, {"0-, ", " ,-1"}, {",", ","}, {"50-,", ""}, {"", ",50-"}, {"-0,", ",-0"}, {"1000000-,", ",1000000-"}} {
				wantRange(t, "bytes="+around[0]+part+around[1], size, 2)
			}
		}
	}
}

func TestEachByteInARange(t *testing.T) {
	for n := range 256 {
		s := string([]byte{byte(n)})
		digit, isDigit := n-'0', n >= '0' && n <= '9'
		for part, want := range map[string]impl.Span{s + "-": span(digit, 20), "-" + s: span(20-digit, 20), "0-1" + s: span(0, 11+digit), "1" + s + "-19": span(10+digit, 20), s + "-9": span(digit, 10)} {
			switch {
			case isDigit && part == "-0":
				wantRange(t, "bytes="+part, 20, 1)
			case isDigit:
				wantRange(t, "bytes="+part, 20, 0, want)
			case s == " " && part == "0-1 ":
				wantRange(t, "bytes="+part, 20, 0, span(0, 2))
			case s == "," && part == "0-1,":
				wantRange(t, "bytes="+part, 20, 0, span(0, 2))
			case s == " " && part == " -9":
				wantRange(t, "bytes="+part, 20, 0, span(11, 20))
			case s == "," && part == ",-9":
				wantRange(t, "bytes="+part, 20, 0, span(11, 20))
			default:
				wantRange(t, "bytes="+part, 20, 2)
			}
		}
		// Alone between commas a byte is nothing only where it is a blank.
		if s == " " || s == "," {
			wantRange(t, "bytes=0-1,"+s+",2-3", 20, 0, span(0, 2), span(2, 4))
		} else {
			wantRange(t, "bytes=0-1,"+s+",2-3", 20, 2)
		}
	}
}

func TestNumbersOfNineDigits(t *testing.T) {
	wantRange(t, "bytes=0-999999999", 5, 0, span(0, 5))
	wantRange(t, "bytes=0-1000000000", 5, 2)
	wantRange(t, "bytes=999999999-", 5, 1)
	wantRange(t, "bytes=1000000000-", 5, 2)
	wantRange(t, "bytes=-999999999", 5, 0, span(0, 5))
	wantRange(t, "bytes=-1000000000", 5, 2)
	// Noughts ahead do not count, however many they are.
	for _, n := range []int{0, 1, 2, 7, 8, 9, 10, 11, 100, 2000, 100000} {
		noughts := strings.Repeat("0", n)
		wantRange(t, "bytes="+noughts+"1-"+noughts+"3", 5, 0, span(1, 4))
		wantRange(t, "bytes="+noughts+"4-", 5, 0, span(4, 5))
		wantRange(t, "bytes="+noughts+"5-", 5, 1)
		wantRange(t, "bytes=-"+noughts+"2", 5, 0, span(3, 5))
		wantRange(t, "bytes=-0"+noughts, 5, 1)
		wantRange(t, "bytes=0"+noughts+"-0"+noughts, 5, 0, span(0, 1))
		wantRange(t, "bytes=0-"+noughts+"999999999", 5, 0, span(0, 5))
		wantRange(t, "bytes=0-"+noughts+"1000000000", 5, 2)
		wantRange(t, "bytes="+noughts+"3-"+noughts+"2", 5, 2)
	}
}

func TestWhatStandsAheadOfTheRanges(t *testing.T) {
	for _, ahead := range []string{"", "Bytes=", "BYTES=", "byteS=", " bytes=", "bytes =", "\tbytes=", "bytes", "bytes:", "bytes ", "byte=", "bytess=", "=", "items=", "bytes\x00=", "xbytes=", "bytes=bytes=", "bytes==", `"bytes"=`, "bytes%3D", ",bytes=", "bytes, ", "bytes=x,", "\xffbytes="} {
		wantRange(t, ahead+"0-1", 10, 2)
		wantRange(t, ahead+"50-", 10, 2)
	}
	for _, s := range []string{"", "b", "bytes", "bytes=", "bytes= ", "bytes=,", "bytes=,,,,", "bytes= , ,  , ", "bytes=" + strings.Repeat(",", 13), "bytes=" + strings.Repeat(" ,", 5000), "bytes=" + strings.Repeat(" ", 5000)} {
		for _, size := range []int{0, 1, 10, 1000000} {
			wantRange(t, s, size, 2)
		}
	}
	wantRange(t, "bytes= 0-1", 10, 0, span(0, 2))
	wantRange(t, "bytes=   0-1   ", 10, 0, span(0, 2))
	wantRange(t, "bytes=0-1 ", 10, 0, span(0, 2))
}

func TestSizesOfABody(t *testing.T) {
	for _, size := range []int{-1, -2, -1000000, 1000001, 1000002, 1 << 32, math.MaxInt, math.MinInt} {
		for _, s := range []string{"bytes=0-0", "bytes=0-", "bytes=-1", "bytes=-0", "bytes=50-", "bytes=1000000-", "", "x"} {
			wantRange(t, s, size, 2)
		}
	}
	for _, size := range []int{1, 2, 11, 999999, 1000000} {
		last := strconv.Itoa(size - 1)
		wantRange(t, "bytes=0-", size, 0, span(0, size))
		wantRange(t, "bytes="+last+"-", size, 0, span(size-1, size))
		wantRange(t, "bytes="+strconv.Itoa(size)+"-", size, 1)
		wantRange(t, "bytes="+last+"-"+last, size, 0, span(size-1, size))
		wantRange(t, "bytes="+last+"-"+strconv.Itoa(size), size, 0, span(size-1, size))
		wantRange(t, "bytes=0-"+last, size, 0, span(0, size))
		wantRange(t, "bytes=0-"+strconv.Itoa(size), size, 0, span(0, size))
		wantRange(t, "bytes=-1", size, 0, span(size-1, size))
		if size > 1 {
			wantRange(t, "bytes=-"+last, size, 0, span(1, size))
		}
		wantRange(t, "bytes=-"+strconv.Itoa(size), size, 0, span(0, size))
		wantRange(t, "bytes=-"+strconv.Itoa(size+1), size, 0, span(0, size))
		wantRange(t, "bytes=-0", size, 1)
	}
	// Of nothing there is nothing.
	for _, s := range []string{"bytes=0-0", "bytes=0-", "bytes=-1", "bytes=-0", "bytes=-999999999", "bytes=0-5,-5,5-"} {
		wantRange(t, s, 0, 1)
	}
}

func TestTwelveRangesAndOneMore(t *testing.T) {
	list := func(parts ...string) string { return "bytes=" + strings.Join(parts, ",") }
	repeat := func(part string, n int) []string { return slices.Repeat([]string{part}, n) }
	wantRange(t, list(repeat("1-2", 12)...), 10, 0, slices.Repeat([]impl.Span{span(1, 3)}, 12)...)
	wantRange(t, list(repeat("1-2", 13)...), 10, 2)
	wantRange(t, list(repeat("1-2", 1000)...), 10, 2)
	wantRange(t, list(repeat("50-", 12)...), 10, 1)
	wantRange(t, list(repeat("50-", 13)...), 10, 2)
	wantRange(t, list(repeat("-0", 12)...), 10, 1)
	wantRange(t, list(repeat("-0", 13)...), 10, 2)
	for n := 1; n < 12; n++ {
		// Those that are none count, too.
		wantRange(t, list(append(repeat("1-2", n), repeat("50-", 12-n)...)...), 10, 0, slices.Repeat([]impl.Span{span(1, 3)}, n)...)
		wantRange(t, list(append(repeat("50-", 12-n), repeat("1-2", n)...)...), 10, 0, slices.Repeat([]impl.Span{span(1, 3)}, n)...)
		wantRange(t, list(append(repeat("1-2", n), repeat("50-", 13-n)...)...), 10, 2)
		wantRange(t, list(append(repeat("-0", 13-n), repeat("1-2", n)...)...), 10, 2)
	}
	// What is empty does not.
	wantRange(t, list(append(repeat("", 500), repeat("1-2,, ", 12)...)...), 10, 0, slices.Repeat([]impl.Span{span(1, 3)}, 12)...)
	wantRange(t, list(append(repeat("", 500), repeat("1-2,, ", 13)...)...), 10, 2)
	// Nor does where a fault stands.
	wantRange(t, list(append(repeat("1-2", 13), "x")...), 10, 2)
	wantRange(t, list(append([]string{"x"}, repeat("50-", 13)...)...), 10, 2)
}

func TestLongValuesAreRead(t *testing.T) {
	for _, n := range []int{180, 195, 200, 290, 300, 301, 1990, 2001, 5000, 1000000} {
		blanks, commas, noughts := strings.Repeat(" ", n), strings.Repeat(",", n), strings.Repeat("0", n)
		for _, told := range []string{blanks + "1-2", "1-2" + blanks, "1-2" + commas, commas + "1-2", noughts + "1-2", "1-" + noughts + "2", "1-2," + blanks + ",50-", commas + blanks + "1-2"} {
			wantRange(t, "bytes="+told, 10, 0, span(1, 3))
			wantRange(t, "bytes="+told+",x", 10, 2)
			wantRange(t, "bytes="+told, 1, 1)
		}
	}
	part := "000100-000200"
	wantRange(t, "bytes="+strings.Repeat(part+" , ", 12), 1000, 0, slices.Repeat([]impl.Span{span(100, 201)}, 12)...)
}

// What is not right is 2, whatever the other ranges are.
func TestWhichCodeOfTwo(t *testing.T) {
	for _, s := range []string{"50-,x", "x,50-", "-0,1-0", "1-0,-0", "50-,", "50-,60-59", "50-,-", "-,50-", "50-,\"", "50-,1000000000-"} {
		want := 2
		if s == "50-," {
			want = 1
		}
		wantRange(t, "bytes="+s, 10, want)
		wantRange(t, "bytes="+s, -1, 2)
		wantRange(t, "Bytes="+s, 10, 2)
	}
	wantRange(t, "bytes=50-,3-4,-0", 10, 0, span(3, 5))
}

var rangeForm = regexp.MustCompile(`^0*([0-9]{1,9})-0*([0-9]{1,9})$|^0*([0-9]{1,9})-$|^-0*([0-9]{1,9})$`)

// rangeByForm reads a value a second way: by the bytes that each range has of
// those that there are.
func rangeByForm(s string, size int) ([]impl.Span, int) {
	told, ok := strings.CutPrefix(s, "bytes=")
	if !ok || size < 0 || size > 1000000 {
		return nil, 2
	}
	spans, count := []impl.Span{}, 0
	for _, part := range strings.Split(told, ",") {
		part = strings.Trim(part, " ")
		if part == "" {
			continue
		}
		count++
		m := rangeForm.FindStringSubmatch(part)
		if m == nil {
			return nil, 2
		}
		number := func(i int) int { n, _ := strconv.Atoi(m[i]); return n }
		first, last := number(1), number(2)
		switch {
		case m[3] != "":
			first, last = number(3), math.MaxInt
		case m[4] != "":
			first, last = size-number(4), math.MaxInt
		case last < first:
			return nil, 2
		}
		there := []int{}
		for i := range min(size, 100) {
			if i >= first && i <= last {
				there = append(there, i)
			}
		}
		if len(there) > 0 {
			spans = append(spans, span(there[0], there[len(there)-1]+1))
		}
	}
	switch {
	case count < 1 || count > 12:
		return nil, 2
	case len(spans) == 0:
		return nil, 1
	}
	return spans, 0
}

func checkByForm6(t *testing.T, s string, size int) int {
	t.Helper()
	l, code := impl.ReadRange(s, size)
	want, wantCode := rangeByForm(s, size)
	if code != wantCode || !slices.Equal(l, want) {
		t.Fatalf("ReadRange(%q, %d) = %v, %d, not %v, %d", s, size, l, code, want, wantCode)
	}
	return code
}

func TestAllShortRangesByTheirForm(t *testing.T) {
	const bytes = "0129-, \"a"
	texts := []string{""}
	for range 5 {
		longer := []string{}
		for _, s := range texts {
			checkByForm6(t, "bytes="+s, 9)
			checkByForm6(t, "bytes="+s, 2)
			for i := range len(bytes) {
				longer = append(longer, s+bytes[i:i+1])
			}
		}
		texts = longer
	}
	for _, s := range texts {
		checkByForm6(t, "bytes="+s, 9)
	}
}

func TestRandomRangesByTheirForm(t *testing.T) {
	r := rand.New(rand.NewSource(62))
	codes := [3]int{}
	for range 200000 {
		parts := []string{}
		for range 1 + r.Intn(3) + r.Intn(2)*r.Intn(12) {
			number := func() string {
				return []string{"", "", "0", "00", "0000000000"}[r.Intn(5)] + strconv.Itoa([]int{r.Intn(10), r.Intn(40), 19, 20, 21, 999999999, 1000000000}[(r.Intn(16)+1)/3])
			}
			a, b := number(), number()
			if x, _ := strconv.Atoi(a); r.Intn(3) > 0 {
				b = strconv.Itoa(x + r.Intn(10))
			}
			part := []string{a + "-" + b, a + "-" + b, a + "-", "-" + b, a + "-" + b, "", " "}[r.Intn(7)]
			parts = append(parts, randomOf(r, []string{" "}, 2)+part+randomOf(r, []string{" "}, 2))
		}
		s := "bytes=" + strings.Join(parts, ",")
		if r.Intn(10) == 0 {
			at := r.Intn(len(s))
			s = s[:at] + randomOf(r, []string{"", "-", ",", " ", "x", "\xff", "5"}, 1) + s[min(at+r.Intn(2), len(s)):]
		}
		codes[checkByForm6(t, s, []int{20, 20, 20, 7, 1, 0, 40}[r.Intn(7)])]++
	}
	if slices.Min(codes[:]) < 2000 {
		t.Error("too few of one code:", codes)
	}
}

func TestRangeTextRefuses(t *testing.T) {
	if s, ok := impl.RangeText(stepSpans(12)); !ok || s != "bytes=0-0,2-2,4-4,6-6,8-8,10-10,12-12,14-14,16-16,18-18,20-20,22-22" {
		t.Error(s, ok)
	}
	lists := [][]impl.Span{nil, {}, stepSpans(13), stepSpans(1000), slices.Repeat([]impl.Span{span(0, 1)}, 13)}
	for _, bad := range badSpans() {
		lists = append(lists, []impl.Span{bad}, []impl.Span{span(0, 1), bad}, []impl.Span{bad, span(0, 1)}, append(stepSpans(11), bad))
	}
	for _, l := range lists {
		if s, ok := impl.RangeText(l); ok || s != "" {
			t.Errorf("RangeText(%v) = %q, %v", l, s, ok)
		}
	}
}

func TestContentRange(t *testing.T) {
	for want, c := range map[string][3]int{
		"bytes 0-0/1":                         {0, 1, 1},
		"bytes 0-0/2":                         {0, 1, 2},
		"bytes 2-4/9":                         {2, 5, 9},
		"bytes 2-4/5":                         {2, 5, 5},
		"bytes 2-4/6":                         {2, 5, 6},
		"bytes 9-99/100":                      {9, 100, 100},
		"bytes 0-999999/1000000":              {0, 1000000, 1000000},
		"bytes 999999-999999/1000000":         {999999, 1000000, 1000000},
		"bytes 0-0/1000000":                   {0, 1, 1000000},
		"bytes 0-0/1000001":                   {0, 1, 1000001},
		"bytes 0-999999/1000001":              {0, 1000000, 1000001},
		"bytes 5-6/" + strconv.Itoa(1<<62):    {5, 7, 1 << 62},
		"bytes 5-6/" + strconv.Itoa(1<<63-1):  {5, 7, math.MaxInt},
		"bytes 499999-999998/" + "9999999999": {499999, 999999, 9999999999},
	} {
		if s, ok := impl.ContentRange(span(c[0], c[1]), c[2]); s != want || !ok {
			t.Errorf("ContentRange(%v) = %q, %v", c, s, ok)
		}
	}
	for _, c := range [][3]int{{0, 1, 0}, {0, 2, 1}, {2, 5, 4}, {2, 5, 3}, {2, 5, 0}, {2, 5, -1}, {2, 5, math.MinInt}, {0, 1000000, 999999}, {999999, 1000000, 999999}} {
		if s, ok := impl.ContentRange(span(c[0], c[1]), c[2]); ok || s != "" {
			t.Errorf("ContentRange(%v) = %q, %v", c, s, ok)
		}
	}
	for _, bad := range badSpans() {
		for _, size := range []int{0, 1, -1, 10, 1000000, 1000001, 5000000, math.MaxInt, math.MinInt} {
			if s, ok := impl.ContentRange(bad, size); ok || s != "" {
				t.Errorf("ContentRange(%v, %d) = %q, %v", bad, size, s, ok)
			}
		}
	}
}

func TestJoinSpans(t *testing.T) {
	for _, c := range []struct {
		l    []impl.Span
		gap  int
		want []impl.Span
	}{
		{nil, 0, nil},
		{[]impl.Span{}, 1000, nil},
		{[]impl.Span{span(3, 5)}, 0, []impl.Span{span(3, 5)}},
		{[]impl.Span{span(3, 5), span(3, 5)}, 0, []impl.Span{span(3, 5)}},
		{[]impl.Span{span(0, 3), span(3, 5)}, 0, []impl.Span{span(0, 5)}},
		{[]impl.Span{span(3, 5), span(0, 3)}, 0, []impl.Span{span(0, 5)}},
		{[]impl.Span{span(0, 4), span(3, 5)}, 0, []impl.Span{span(0, 5)}},
		{[]impl.Span{span(0, 9), span(3, 5)}, 0, []impl.Span{span(0, 9)}},
		{[]impl.Span{span(3, 5), span(0, 9)}, 0, []impl.Span{span(0, 9)}},
		{[]impl.Span{span(0, 9), span(0, 5)}, 0, []impl.Span{span(0, 9)}},
		{[]impl.Span{span(0, 5), span(0, 9)}, 0, []impl.Span{span(0, 9)}},
		{[]impl.Span{span(4, 9), span(0, 9)}, 0, []impl.Span{span(0, 9)}},
		// The second one ends ahead of the first one, and the third one touches that.
		{[]impl.Span{span(0, 9), span(1, 2), span(9, 10)}, 0, []impl.Span{span(0, 10)}},
		{[]impl.Span{span(0, 9), span(1, 2), span(10, 12)}, 0, []impl.Span{span(0, 9), span(10, 12)}},
		{[]impl.Span{span(0, 3), span(4, 6)}, 0, []impl.Span{span(0, 3), span(4, 6)}},
		{[]impl.Span{span(0, 3), span(4, 6)}, 1, []impl.Span{span(0, 6)}},
		{[]impl.Span{span(0, 3), span(5, 6)}, 1, []impl.Span{span(0, 3), span(5, 6)}},
		{[]impl.Span{span(8, 9), span(0, 3), span(4, 6)}, 1, []impl.Span{span(0, 6), span(8, 9)}},
		{[]impl.Span{span(8, 9), span(0, 3), span(4, 6)}, 2, []impl.Span{span(0, 9)}},
		{[]impl.Span{span(0, 1), span(1001, 1002)}, 1000, []impl.Span{span(0, 1002)}},
		{[]impl.Span{span(0, 1), span(1002, 1003)}, 1000, []impl.Span{span(0, 1), span(1002, 1003)}},
		{[]impl.Span{span(0, 1), span(1001, 1002)}, 999, []impl.Span{span(0, 1), span(1001, 1002)}},
		{[]impl.Span{span(999999, 1000000), span(0, 1)}, 1000, []impl.Span{span(0, 1), span(999999, 1000000)}},
		{[]impl.Span{span(0, 1000000), span(999999, 1000000), span(0, 1)}, 0, []impl.Span{span(0, 1000000)}},
		{stepSpans(12), 0, stepSpans(12)},
		{stepSpans(12), 1, []impl.Span{span(0, 23)}},
		{slices.Repeat([]impl.Span{span(7, 8)}, 12), 0, []impl.Span{span(7, 8)}},
	} {
		l := slices.Clone(c.l)
		for range 2 * len(l) {
			if j, ok := impl.JoinSpans(l, c.gap); !ok || !slices.Equal(j, c.want) {
				t.Errorf("JoinSpans(%v, %d) = %v, %v, not %v", l, c.gap, j, ok, c.want)
			}
			// In each order that comes of it.
			l = append(l[1:], l[0])
		}
		slices.Reverse(l)
		if j, ok := impl.JoinSpans(l, c.gap); !ok || !slices.Equal(j, c.want) {
			t.Errorf("JoinSpans(%v, %d) = %v, %v, not %v", l, c.gap, j, ok, c.want)
		}
	}
}

func TestJoinSpansAndCoverOfRefuse(t *testing.T) {
	for _, gap := range []int{-1, -2, -1000, 1001, 1002, math.MaxInt, math.MinInt} {
		for _, l := range [][]impl.Span{nil, {}, {span(0, 1)}, stepSpans(12)} {
			if j, ok := impl.JoinSpans(l, gap); ok || len(j) != 0 {
				t.Errorf("JoinSpans(%v, %d) = %v, %v", l, gap, j, ok)
			}
		}
	}
	lists := [][]impl.Span{stepSpans(13), stepSpans(1000), slices.Repeat([]impl.Span{span(0, 1)}, 13)}
	for _, bad := range badSpans() {
		lists = append(lists, []impl.Span{bad}, []impl.Span{span(0, 5), bad}, []impl.Span{bad, span(0, 5)}, append(stepSpans(11), bad))
	}
	for _, l := range lists {
		for _, gap := range []int{0, 1, 1000} {
			if j, ok := impl.JoinSpans(l, gap); ok || len(j) != 0 {
				t.Errorf("JoinSpans(%v, %d) = %v, %v", l, gap, j, ok)
			}
		}
		if n, ok := impl.CoverOf(l); ok || n != 0 {
			t.Errorf("CoverOf(%v) = %d, %v", l, n, ok)
		}
	}
}

func TestCoverOf(t *testing.T) {
	for _, c := range []struct {
		l    []impl.Span
		want int
	}{
		{nil, 0}, {[]impl.Span{}, 0},
		{[]impl.Span{span(0, 1)}, 1},
		{[]impl.Span{span(3, 9)}, 6},
		{[]impl.Span{span(3, 9), span(3, 9)}, 6},
		{[]impl.Span{span(3, 9), span(9, 10)}, 7},
		{[]impl.Span{span(3, 9), span(10, 12)}, 8},
		{[]impl.Span{span(5, 12), span(3, 9)}, 9},
		{[]impl.Span{span(0, 12), span(3, 9), span(4, 5)}, 12},
		{[]impl.Span{span(0, 1000000)}, 1000000},
		{slices.Repeat([]impl.Span{span(0, 1000000)}, 12), 1000000},
		{stepSpans(12), 12},
	} {
		if n, ok := impl.CoverOf(c.l); n != c.want || !ok {
			t.Errorf("CoverOf(%v) = %d, %v", c.l, n, ok)
		}
	}
}

// bytesIn tells by marks which of the first bytes are in one of the spans.
func bytesIn(l []impl.Span, size int) []bool {
	marks := make([]bool, size)
	for _, s := range l {
		for i := s.From; i < s.To; i++ {
			marks[i] = true
		}
	}
	return marks
}

func countTrue(l []bool) int {
	n := 0
	for _, b := range l {
		if b {
			n++
		}
	}
	return n
}

// gapsFilled marks the gaps of at most so many bytes between marked ones, too.
func gapsFilled(marks []bool, gap int) []bool {
	filled := slices.Clone(marks)
	last := -1
	for i, marked := range marks {
		if !marked {
			continue
		}
		if last >= 0 && i-last-1 <= gap {
			for k := last; k < i; k++ {
				filled[k] = true
			}
		}
		last = i
	}
	return filled
}

func TestJoinedSpansCoverWhatAllDid(t *testing.T) {
	r := rand.New(rand.NewSource(63))
	for range 20000 {
		size := []int{12, 40, 120}[r.Intn(3)]
		l := []impl.Span{}
		for range r.Intn(13) {
			from := r.Intn(size)
			l = append(l, span(from, from+1+r.Intn(min(size-from, 15))))
		}
		gap := r.Intn(6)
		marks := bytesIn(l, size)
		j, ok := impl.JoinSpans(l, gap)
		if !ok || len(j) > len(l) {
			t.Fatalf("JoinSpans(%v, %d) = %v, %v", l, gap, j, ok)
		}
		for i, s := range j {
			if !isSpanOf(s, size) || i > 0 && s.From-j[i-1].To <= gap {
				t.Fatalf("JoinSpans(%v, %d) = %v: not apart", l, gap, j)
			}
		}
		if !slices.Equal(bytesIn(j, size), gapsFilled(marks, gap)) {
			t.Fatalf("JoinSpans(%v, %d) = %v: covers other bytes", l, gap, j)
		}
		if again, ok := impl.JoinSpans(j, gap); !ok || !slices.Equal(again, j) {
			t.Fatalf("JoinSpans(%v, %d) once more: %v", j, gap, again)
		}
		cover, ok := impl.CoverOf(l)
		if !ok || cover != countTrue(marks) {
			t.Fatalf("CoverOf(%v) = %d, %v", l, cover, ok)
		}
		j, _ = impl.JoinSpans(l, 0)
		if joined, ok := impl.CoverOf(j); !ok || joined != cover {
			t.Fatalf("CoverOf(%v) = %d, behind the join %d", l, cover, joined)
		}
		r.Shuffle(len(l), func(a int, b int) { l[a], l[b] = l[b], l[a] })
		if shuffled, ok := impl.JoinSpans(l, 0); !ok || !slices.Equal(shuffled, j) {
			t.Fatalf("JoinSpans(%v, 0) = %v, not %v", l, shuffled, j)
		}
	}
}

func TestCutAndPaste(t *testing.T) {
	for _, c := range []struct {
		body  string
		l     []impl.Span
		parts []string
		want  string
	}{
		{"", nil, nil, ""},
		{"abc", nil, nil, "..."},
		{"abc", []impl.Span{}, []string{}, "..."},
		{"abc", []impl.Span{span(0, 3)}, []string{"abc"}, "abc"},
		{"abc", []impl.Span{span(0, 1)}, []string{"a"}, "a.."},
		{"abc", []impl.Span{span(2, 3)}, []string{"c"}, "..c"},
		{"abcdef", []impl.Span{span(4, 6), span(0, 2)}, []string{"ef", "ab"}, "ab..ef"},
		{"abcdef", []impl.Span{span(0, 4), span(2, 6)}, []string{"abcd", "cdef"}, "abcdef"},
		{"abcdef", []impl.Span{span(1, 3), span(1, 3), span(1, 2)}, []string{"bc", "bc", "b"}, ".bc..."},
		{"\x00\xff\n", []impl.Span{span(1, 3), span(0, 1)}, []string{"\xff\n", "\x00"}, "\x00\xff\n"},
		{"é", []impl.Span{span(1, 2)}, []string{"\xa9"}, ".\xa9"},
	} {
		if parts, ok := impl.CutSpans(c.body, c.l); !ok || !slices.Equal(parts, c.parts) {
			t.Errorf("CutSpans(%q, %v) = %q, %v", c.body, c.l, parts, ok)
		}
		if p, ok := impl.PasteSpans(len(c.body), c.l, c.parts); !ok || p != c.want {
			t.Errorf("PasteSpans(%d, %v, %q) = %q, %v", len(c.body), c.l, c.parts, p, ok)
		}
	}
	// Parts that overlap: the later one counts.
	for _, c := range []struct {
		l     []impl.Span
		parts []string
		want  string
	}{
		{[]impl.Span{span(0, 4), span(2, 6)}, []string{"AAAA", "BBBB"}, "AABBBB.."},
		{[]impl.Span{span(2, 6), span(0, 4)}, []string{"BBBB", "AAAA"}, "AAAABB.."},
		{[]impl.Span{span(0, 8), span(3, 4)}, []string{"AAAAAAAA", "B"}, "AAABAAAA"},
		{[]impl.Span{span(3, 4), span(0, 8)}, []string{"B", "AAAAAAAA"}, "AAAAAAAA"},
		{[]impl.Span{span(1, 3), span(1, 3)}, []string{"AB", "CD"}, ".CD....."},
		{[]impl.Span{span(1, 3), span(2, 4), span(3, 5)}, []string{"AA", "BB", ".C"}, ".AB.C..."},
	} {
		if p, ok := impl.PasteSpans(8, c.l, c.parts); !ok || p != c.want {
			t.Errorf("PasteSpans(8, %v, %q) = %q, %v", c.l, c.parts, p, ok)
		}
	}
}

func TestCutSpansRefuses(t *testing.T) {
	body := strings.Repeat("b", 301)
	for _, n := range []int{0, 1, 2, 299, 300} {
		for _, ahead := range [][]impl.Span{nil, {span(0, max(n, 1))}, stepSpans(min(n/2, 11))} {
			if n == 0 && len(ahead) > 0 {
				continue
			}
			within := append(slices.Clone(ahead), span(max(n-1, 0), max(n, 1)))
			if parts, ok := impl.CutSpans(body[:n], within); ok != (n > 0) || len(parts) != len(within)*min(n, 1) {
				t.Errorf("CutSpans of %d bytes, %v = %q, %v", n, within, parts, ok)
			}
			beyond := append(slices.Clone(ahead), span(max(n-1, 0), n+1))
			if parts, ok := impl.CutSpans(body[:n], beyond); ok || len(parts) != 0 {
				t.Errorf("CutSpans of %d bytes, %v = %q, %v", n, beyond, parts, ok)
			}
		}
		for _, bad := range badSpans() {
			if parts, ok := impl.CutSpans(body[:n], []impl.Span{bad}); ok || len(parts) != 0 {
				t.Errorf("CutSpans of %d bytes, %v = %q, %v", n, bad, parts, ok)
			}
		}
	}
	for _, l := range [][]impl.Span{nil, {span(0, 1)}, {span(300, 301)}} {
		if parts, ok := impl.CutSpans(body, l); ok || len(parts) != 0 {
			t.Errorf("CutSpans of 301 bytes, %v = %q, %v", l, parts, ok)
		}
	}
	if parts, ok := impl.CutSpans(body[:300], stepSpans(12)); !ok || !slices.Equal(parts, slices.Repeat([]string{"b"}, 12)) {
		t.Error(parts, ok)
	}
	if parts, ok := impl.CutSpans(body[:300], stepSpans(13)); ok || len(parts) != 0 {
		t.Error(parts, ok)
	}
}

func TestPasteSpansRefuses(t *testing.T) {
	refused := func(size int, l []impl.Span, parts ...string) {
		t.Helper()
		if p, ok := impl.PasteSpans(size, l, parts); ok || p != "" {
			t.Errorf("PasteSpans(%d, %v, %q) = %q, %v", size, l, parts, p, ok)
		}
	}
	for _, size := range []int{-1, -300, 301, 302, 1000000, math.MaxInt, math.MinInt} {
		refused(size, nil)
		refused(size, []impl.Span{span(0, 1)}, "a")
	}
	if p, ok := impl.PasteSpans(0, nil, nil); !ok || p != "" {
		t.Error(p, ok)
	}
	if p, ok := impl.PasteSpans(300, nil, nil); !ok || p != strings.Repeat(".", 300) {
		t.Error(p, ok)
	}
	whole := strings.Repeat("w", 300)
	if p, ok := impl.PasteSpans(300, []impl.Span{span(0, 300)}, []string{whole}); !ok || p != whole {
		t.Error(p, ok)
	}
	if p, ok := impl.PasteSpans(300, []impl.Span{span(299, 300)}, []string{"x"}); !ok || p != strings.Repeat(".", 299)+"x" {
		t.Error(p, ok)
	}
	refused(0, []impl.Span{span(0, 1)}, "a")
	refused(299, []impl.Span{span(299, 300)}, "x")
	refused(299, []impl.Span{span(0, 300)}, whole)
	two := []impl.Span{span(0, 2), span(3, 6)}
	if p, ok := impl.PasteSpans(6, two, []string{"ab", "cde"}); !ok || p != "ab.cde" {
		t.Error(p, ok)
	}
	refused(5, two, "ab", "cde")
	for _, parts := range [][]string{nil, {}, {"ab"}, {"ab", "cde", ""}, {"ab", "cde", "f"}, {"a", "cde"}, {"abc", "cde"}, {"ab", "cd"}, {"ab", "cdef"}, {"", "cde"}, {"ab", ""}, {"", ""}, {"abc", "de"}, {"cde", "ab"}, {"abcde"}} {
		refused(6, two, parts...)
	}
	refused(6, nil, "")
	refused(6, nil, "a")
	for _, bad := range badSpans() {
		for _, part := range []string{"", "a", whole} {
			refused(6, []impl.Span{bad}, part)
			refused(300, []impl.Span{bad, span(0, 1)}, part, "a")
		}
	}
	letters := slices.Repeat([]string{"x"}, 13)
	if p, ok := impl.PasteSpans(300, stepSpans(12), letters[:12]); !ok || p != strings.Repeat("x.", 12)+strings.Repeat(".", 276) {
		t.Error(p, ok)
	}
	refused(300, stepSpans(13), letters...)
	refused(300, stepSpans(12), letters...)
	refused(300, stepSpans(12), letters[:11]...)
}

func TestWhatIsCutIsPastedWhereItStood(t *testing.T) {
	r := rand.New(rand.NewSource(64))
	for range 10000 {
		b := make([]byte, []int{1, 5, 30, 300}[r.Intn(4)])
		r.Read(b)
		body := string(b)
		l := []impl.Span{}
		for range r.Intn(13) {
			from := r.Intn(len(b))
			l = append(l, span(from, from+1+r.Intn(len(b)-from)))
		}
		want := []byte{}
		for i, marked := range bytesIn(l, len(b)) {
			if marked {
				want = append(want, b[i])
			} else {
				want = append(want, '.')
			}
		}
		parts, ok := impl.CutSpans(body, l)
		if !ok || len(parts) != len(l) {
			t.Fatalf("CutSpans(%q, %v) = %q, %v", body, l, parts, ok)
		}
		if p, ok := impl.PasteSpans(len(b), l, parts); !ok || p != string(want) {
			t.Fatalf("PasteSpans(%d, %v, %q) = %q, %v", len(b), l, parts, p, ok)
		}
		// What is joined covers as much, so that the same is pasted.
		joined, _ := impl.JoinSpans(l, 0)
		parts, ok = impl.CutSpans(body, joined)
		if p, ok2 := impl.PasteSpans(len(b), joined, parts); !ok || !ok2 || p != string(want) {
			t.Fatalf("PasteSpans(%d, %v, %q) = %q", len(b), joined, parts, p)
		}
	}
}

func TestRangeFunctionsWriteIntoNothing(t *testing.T) {
	behind := span(1, 2)
	body := strings.Repeat("body", 75)
	for _, l := range [][]impl.Span{nil, {}, {span(0, 4)}, {span(8, 9), span(0, 3), span(4, 6)}, {span(5, 9), span(0, 9), span(2, 300)}, {span(9, 8), span(0, 1)}, stepSpans(11), stepSpans(12), stepSpans(13)} {
		parts, fit := impl.CutSpans(body, l)
		given, pieces := withSpare(l, behind), withSpare(parts, "behind")
		before, beforeParts := slices.Clone(given[:cap(given)]), slices.Clone(pieces[:cap(pieces)])
		joined, _ := impl.JoinSpans(given, 1)
		told, ok := impl.RangeText(given)
		cut, _ := impl.CutSpans(body, given)
		pasted, fits := impl.PasteSpans(300, given, pieces)
		impl.CoverOf(given)
		if !slices.Equal(given[:cap(given)], before) || !slices.Equal(pieces[:cap(pieces)], beforeParts) {
			t.Fatalf("%v is written into", l)
		}
		if plain, right := impl.RangeText(slices.Clone(l)); plain != told || right != ok {
			t.Errorf("what lies behind %v counts: %q", l, told)
		}
		if plain, right := impl.PasteSpans(300, slices.Clone(l), slices.Clone(parts)); plain != pasted || right != fits || fits != fit {
			t.Errorf("what lies behind %v counts: %q", l, pasted)
		}
		if plain, _ := impl.JoinSpans(slices.Clone(l), 1); !slices.Equal(plain, joined) {
			t.Errorf("what lies behind %v counts: %v", l, joined)
		}
		// What is answered shares nothing with what was given, nor with what is
		// answered next.
		wantJoined, wantCut := slices.Clone(joined), slices.Clone(cut)
		fill(joined, span(77, 78))
		fill(cut, "overwritten")
		if !slices.Equal(given[:cap(given)], before) || !slices.Equal(pieces[:cap(pieces)], beforeParts) {
			t.Fatalf("an answer shares memory with %v", l)
		}
		again, _ := impl.JoinSpans(given, 1)
		cutAgain, _ := impl.CutSpans(body, given)
		if !slices.Equal(again, wantJoined) || !slices.Equal(cutAgain, wantCut) {
			t.Fatalf("answers share memory: %v", l)
		}
	}
	l, _ := impl.ReadRange("bytes=0-1,4-5", 10)
	fill(l, span(77, 78))
	wantRange(t, "bytes=0-1,4-5", 10, 0, span(0, 2), span(4, 6))
}

func TestRangesShareNoMemory(t *testing.T) {
	body := strings.Repeat("body", 10)
	whole := []impl.Span{span(0, 40), span(0, 40), span(10, 30)}
	parts, ok := impl.CutSpans(body, whole)
	if !ok || parts[0] != body || parts[1] != body {
		t.Fatal(parts, ok)
	}
	pasted, ok := impl.PasteSpans(40, whole[:1], []string{body})
	if !ok || pasted != body || shareMemory(pasted, body) {
		t.Error("what is pasted shares memory with its part")
	}
	for i, part := range parts {
		if shareMemory(part, body) {
			t.Errorf("%q shares memory with the body", part)
		}
		for _, other := range parts[:i] {
			if shareMemory(part, other) {
				t.Error("two parts share memory")
			}
		}
	}
}

func anySpan(r *rand.Rand) impl.Span {
	number := func() int {
		return []int{r.Intn(12) - 1, r.Intn(12), r.Intn(12), r.Intn(302), r.Intn(1000003) - 1, int(r.Uint64())}[min(r.Intn(9), 5)]
	}
	from := number()
	if r.Intn(4) == 0 {
		return span(from, number())
	}
	return span(from, from+r.Intn(9))
}

// Any bytes and numbers, at each function: no panic, and zero beside a false.
func TestRangeFunctionsAnswerAtAnything(t *testing.T) {
	r := rand.New(rand.NewSource(65))
	for range 60000 {
		b := make([]byte, max(r.Intn(8)-4, 0))
		r.Read(b)
		s := []string{"bytes=", "bytes=", "bytes=", "Bytes=", ""}[r.Intn(5)] + randomOf(r, []string{"0", "1", "-", "0-", "-1", ",", " ", "0-1,", "99999", "\"", "\\"}, 8) + string(b)
		checkByForm6(t, s, r.Intn(22)-1)
		l, parts, lengths := []impl.Span{}, []string{}, true
		for range []int{r.Intn(3), r.Intn(14)}[r.Intn(2)] {
			one := anySpan(r)
			l = append(l, one)
			part := strings.Repeat("p", min(max(one.To-one.From, 0), 400))
			if r.Intn(9) == 0 {
				part += "x"
			}
			parts = append(parts, part)
			lengths = lengths && len(part) == one.To-one.From
		}
		told, ok := impl.RangeText(l)
		if ok != (len(l) > 0 && areSpansOf(l, 1000000)) || !ok && told != "" {
			t.Fatalf("RangeText(%v) = %q, %v", l, told, ok)
		}
		gap := r.Intn(1004) - 1
		joined, ok := impl.JoinSpans(l, gap)
		if ok != (areSpansOf(l, 1000000) && gap >= 0 && gap <= 1000) || !ok && len(joined) != 0 {
			t.Fatalf("JoinSpans(%v, %d) = %v, %v", l, gap, joined, ok)
		}
		if n, ok := impl.CoverOf(l); ok != areSpansOf(l, 1000000) || !ok && n != 0 {
			t.Fatalf("CoverOf(%v) = %d, %v", l, n, ok)
		}
		size := []int{r.Intn(15) - 1, r.Intn(303), 12, 300}[r.Intn(4)]
		if size >= 0 {
			cut, ok := impl.CutSpans(strings.Repeat("c", size), l)
			if ok != (size <= 300 && areSpansOf(l, size)) || !ok && len(cut) != 0 {
				t.Fatalf("CutSpans of %d bytes, %v = %q, %v", size, l, cut, ok)
			}
		}
		pasted, ok := impl.PasteSpans(size, l, parts)
		if ok != (size >= 0 && size <= 300 && areSpansOf(l, size) && lengths) || !ok && pasted != "" || ok && len(pasted) != size {
			t.Fatalf("PasteSpans(%d, %v, %q) = %q, %v", size, l, parts, pasted, ok)
		}
		one := anySpan(r)
		header, ok := impl.ContentRange(one, size)
		if ok != (isSpanOf(one, 1000000) && one.To <= size) || !ok && header != "" {
			t.Fatalf("ContentRange(%v, %d) = %q, %v", one, size, header, ok)
		}
	}
}
