package tests

import (
	"math"
	"math/rand"
	"slices"
	"strconv"
	"strings"
	"testing"
	"unsafe"

	"loop.example/g00256/impl"
)

const lastChunk = "0\r\n\r\n"

// readChunks looks that there is nothing else beside a code that is not 0.
func readChunks(t *testing.T, s string) (string, int, int) {
	t.Helper()
	body, size, code := impl.ReadChunks(s)
	if code != impl.ChunkOk && (body != "" || size != 0) {
		t.Fatalf("ReadChunks(%q) = %q, %d beside %d", s, body, size, code)
	}
	return body, size, code
}

func wantChunks(t *testing.T, s string, body string, size int) {
	t.Helper()
	if b, n, code := readChunks(t, s); b != body || n != size || code != impl.ChunkOk {
		t.Errorf("ReadChunks(%q) = %q, %d, %d", s, b, n, code)
	}
}

func wantChunkCode(t *testing.T, s string, want int) {
	t.Helper()
	if _, _, code := readChunks(t, s); code != want {
		t.Errorf("ReadChunks(%q) = %d, not %d", s, code, want)
	}
}

// chunksOf tells pieces by hand, of any number and any length.
func chunksOf(pieces ...string) string {
	s := ""
	for _, piece := range pieces {
		s += strconv.FormatInt(int64(len(piece)), 16) + "\r\n" + piece + "\r\n"
	}
	return s
}

// feedInTurn feeds any many texts till one is Done or Wrong.
func feedInTurn(t *testing.T, parts ...string) impl.Unchunk {
	t.Helper()
	u := impl.Unchunk{}
	for _, part := range parts {
		switch {
		case u.Done:
			u.Rest += part
		case !u.Wrong:
			fed, ok := impl.FeedUnchunk(u, part)
			if !ok || !impl.GoodUnchunk(fed) {
				t.Fatalf("FeedUnchunk(%+v, %q) = %+v, %v", u, part, fed, ok)
			}
			u = fed
		}
	}
	return u
}

func bytesOf(s string) []string {
	l := []string{}
	for i := range len(s) {
		l = append(l, s[i:i+1])
	}
	return l
}

// wantFed feeds a text in one piece, byte by byte and cut at each place in
// two.
func wantFed(t *testing.T, s string, want impl.Unchunk) {
	t.Helper()
	if u := feedInTurn(t, s); u != want {
		t.Errorf("fed with %q: %+v", s, u)
	}
	if u := feedInTurn(t, bytesOf(s)...); u != want {
		t.Errorf("fed with %q byte by byte: %+v", s, u)
	}
	for at := range len(s) + 1 {
		parts := []string{s[:at], s[at:]}
		if u := feedInTurn(t, parts...); u != want {
			t.Errorf("fed with %q: %+v", parts, u)
		}
		if u, ok := impl.FeedAll(parts); u != want || !ok {
			t.Errorf("FeedAll(%q) = %+v, %v", parts, u, ok)
		}
	}
}

func toldPieces() map[string][]string {
	return map[string][]string{
		"0\r\n\r\n":                                            nil,
		"1\r\na\r\n0\r\n\r\n":                                  {"a"},
		"1\r\n\r\r\n0\r\n\r\n":                                 {"\r"},
		"1\r\n0\r\n0\r\n\r\n":                                  {"0"},
		"2\r\n\r\n\r\n0\r\n\r\n":                               {"\r\n"},
		"5\r\n0\r\n\r\n\r\n0\r\n\r\n":                          {"0\r\n\r\n"},
		"b\r\nhello world\r\n1\r\n!\r\n0\r\n\r\n":              {"hello world", "!"},
		"1\r\na\r\n2\r\nbc\r\n3\r\ndef\r\n1\r\na\r\n0\r\n\r\n": {"a", "bc", "def", "a"},
		"4\r\n\x00\xff\x80\n\r\n6\r\n1\r\na\r\n\r\n0\r\n\r\n":  {"\x00\xff\x80\n", "1\r\na\r\n"},
		"f\r\n" + strings.Repeat("f", 15) + "\r\n10\r\n" + strings.Repeat("A", 16) + "\r\n0\r\n\r\n":   {strings.Repeat("f", 15), strings.Repeat("A", 16)},
		"ff\r\n" + strings.Repeat("x", 255) + "\r\n2d\r\n" + strings.Repeat("y", 45) + "\r\n0\r\n\r\n": {strings.Repeat("x", 255), strings.Repeat("y", 45)},
		"100\r\n" + strings.Repeat("\n", 256) + "\r\n1\r\n\x00\r\n0\r\n\r\n":                           {strings.Repeat("\n", 256), "\x00"},
		"12c\r\n" + strings.Repeat("\r", 300) + "\r\n0\r\n\r\n":                                        {strings.Repeat("\r", 300)},
	}
}

// behindChunks are bytes that stand behind a body and are not its own.
var behindChunks = []string{"", "x", "\r\n", "\n", "0", "\x00\xff", "0\r\n\r\n", "1\r\na\r\n0\r\n\r\n", "zz\r\n", strings.Repeat("z", 1000)}

func TestChunkNumbers(t *testing.T) {
	if impl.MaxPieces != 60 || impl.ChunkOk != 0 || impl.ChunkMore != 1 || impl.ChunkBad != 2 {
		t.Error(impl.MaxPieces, impl.ChunkOk, impl.ChunkMore, impl.ChunkBad)
	}
}

func TestPiecesAreToldAndReadAgain(t *testing.T) {
	for s, pieces := range toldPieces() {
		if told, ok := impl.ChunkBytes(pieces); !ok || told != s {
			t.Errorf("ChunkBytes(%q) = %q, %v", pieces, told, ok)
		}
		body := strings.Join(pieces, "")
		for _, behind := range behindChunks {
			wantChunks(t, s+behind, body, len(s))
		}
		wantChunks(t, s+strings.Repeat("z", 100000), body, len(s))
		for at := range s {
			wantChunkCode(t, s[:at], impl.ChunkMore)
		}
	}
	if told, ok := impl.ChunkBytes([]string{}); !ok || told != lastChunk {
		t.Error("of no piece:", told, ok)
	}
}

func TestBodiesComeBackHoweverTheyAreCut(t *testing.T) {
	for s, pieces := range toldPieces() {
		done := impl.Unchunk{Body: strings.Join(pieces, ""), Done: true}
		for _, behind := range behindChunks {
			done.Rest = behind
			wantFed(t, s+behind, done)
			// Behind one that is Done, as texts of their own.
			for _, parts := range [][]string{{s, behind}, {s, "", behind}, {s, behind[:len(behind)/2], behind[len(behind)/2:]}, {s[:1], s[1:], behind}} {
				if u, ok := impl.FeedAll(parts); u != done || !ok {
					t.Errorf("FeedAll(%q) = %+v, %v", parts, u, ok)
				}
			}
		}
		for at := range s {
			wantFed(t, s[:at], impl.Unchunk{Rest: s[:at]})
		}
	}
}

func TestWrongTextsAreWrongHoweverTheyAreCut(t *testing.T) {
	for _, s := range []string{"\r\n", "x\r\n", "00005\r\n", "xxxxx", "1\r\nab", "1\r\na\n", "1\rx", "0\r\nx", "0\r\n\rx", "12d\r\n", "ffff\r\n", "1\r\na\r\nx\r\n", chunksOf(strings.Repeat("a", 300), "b"), strings.Repeat("1\r\na\r\n", 61)} {
		wantChunkCode(t, s, impl.ChunkBad)
		for _, behind := range behindChunks {
			wantFed(t, s+behind, impl.Unchunk{Wrong: true})
			if u, ok := impl.FeedAll([]string{s, behind, "0\r\n\r\n"}); u != (impl.Unchunk{Wrong: true}) || !ok {
				t.Errorf("FeedAll(%q and %q) = %+v, %v", s, behind, u, ok)
			}
		}
	}
}

func TestSizesOfChunks(t *testing.T) {
	for digits, n := range map[string]int{"1": 1, "5": 5, "05": 5, "005": 5, "0005": 5, "a": 10, "A": 10, "0a": 10, "00A": 10, "000f": 15, "F": 15, "10": 16, "0010": 16, "1f": 31, "1F": 31, "aB": 171, "Ab": 171, "ff": 255, "00Ff": 255, "100": 256, "0100": 256, "12c": 300, "12C": 300, "012c": 300} {
		piece := strings.Repeat("p", n)
		s := digits + "\r\n" + piece + "\r\n"
		wantChunks(t, s+lastChunk+"x", piece, len(s)+5)
		for at := range s {
			wantChunkCode(t, s[:at], impl.ChunkMore)
		}
	}
	for _, noughts := range []string{"0", "00", "000", "0000"} {
		wantChunks(t, noughts+"\r\n\r\nx", "", len(noughts)+4)
		wantChunks(t, "1\r\na\r\n"+noughts+"\r\n\r\nx", "a", len(noughts)+10)
		wantFed(t, noughts+"\r\n\r\nx", impl.Unchunk{Rest: "x", Done: true})
	}
	bad := []string{"", "00005", "00000", "000000", "12345", "0012c", "fffff", "x", "g", "G", "@", "`", "/", ":", " ", " 5", "5 ", " 5 ", "+5", "-5", "+0", "-0", "-", "+", "0x5", "0X5", "x5", "5x", "5h", "5g", "5;", "5;a", "5;a=b", "5,", "5.", "5.0", ".5", "_5", "5_", "1_0", "\n", "5\n", "\n5", "\t5", "5\x00", "\x00", "\xff", "\x80", "٥", "５", "\"5\"", "0;", "0 ", " 0", "0-", "0.0", "1e+1", strings.Repeat("0", 1000), strings.Repeat("0", 1000) + "5"}
	for _, digits := range bad {
		for _, behind := range []string{"", "\n", "\nhello\r\n0\r\n\r\n", "\n\r\n", "\n\r\n0\r\n\r\n"} {
			wantChunkCode(t, digits+"\r"+behind, impl.ChunkBad)
			wantChunkCode(t, "2\r\nab\r\n"+digits+"\r"+behind, impl.ChunkBad)
		}
	}
}

func TestEachByteInASize(t *testing.T) {
	for n := range 256 {
		s := string([]byte{byte(n)})
		want := impl.ChunkBad
		if strings.Contains("0123456789abcdefABCDEF", s) {
			want = impl.ChunkMore
		}
		for _, digits := range []string{s, "00" + s, "000" + s, "0" + s + "0"} {
			if s != "\r" {
				wantChunkCode(t, digits, want)
				wantChunkCode(t, "1\r\na\r\n"+digits, want)
			}
			wantChunkCode(t, digits+"\r", want)
			wantChunkCode(t, digits+"\r\n", want)
			wantChunkCode(t, "1\r\na\r\n"+digits+"\r\n", want)
		}
	}
}

// Up to four hex digits without a 13 go on, however great; a fifth one, and any
// other byte, is wrong whatever comes behind it.
func TestSizesThatHaveNoEnd(t *testing.T) {
	for _, s := range []string{"0", "00", "000", "0000", "1", "12", "12d", "0005", "00a", "ffff", "FFFF", "AbCd", "9999"} {
		wantChunkCode(t, s, impl.ChunkMore)
		wantChunkCode(t, "2\r\nab\r\n"+s, impl.ChunkMore)
		wantChunkCode(t, strings.Repeat("1\r\na\r\n", 60)+s, impl.ChunkMore)
		wantFed(t, s, impl.Unchunk{Rest: s})
		for _, more := range []string{"00000", "xxxxx", "\n\n\n\n\n", "ffffff", strings.Repeat(" ", 3000)} {
			long := (s + more)[:max(5, len(more))]
			wantChunkCode(t, long, impl.ChunkBad)
			wantChunkCode(t, "2\r\nab\r\n"+long, impl.ChunkBad)
		}
	}
	for _, s := range []string{"x", "g", "G", "@", "`", "/", ":", "xyz", "wxyz", " ", "    ", "-", "-1", "+5", "\n", "\n\n", "\n\n\n\n", "1\n", "1\nab", "0\n", "0\n\n", "000\n", "0000\n", "ffff\n", "12d\n", "1 ", "1;", "1;a", "1g", "12cx", ";a", "\x00", "0\x00", "\xff\xff\xff\xff"} {
		wantChunkCode(t, s, impl.ChunkBad)
		wantChunkCode(t, "2\r\nab\r\n"+s, impl.ChunkBad)
		wantChunkCode(t, "2\r\n\r\n\r\n"+s, impl.ChunkBad)
		wantChunkCode(t, strings.Repeat("1\r\na\r\n", 60)+s, impl.ChunkBad)
		wantFed(t, s, impl.Unchunk{Wrong: true})
		wantFed(t, s+lastChunk, impl.Unchunk{Wrong: true})
		u := impl.Unchunk{Rest: s}
		if fed, ok := impl.FeedUnchunk(u, lastChunk); ok || fed != (impl.Unchunk{}) || impl.GoodUnchunk(u) {
			t.Errorf("FeedUnchunk(%+v) = %+v, %v", u, fed, ok)
		}
	}
	for s, want := range map[string]int{"": impl.ChunkMore, "1\r": impl.ChunkMore, "0\r": impl.ChunkMore, "0000\r": impl.ChunkMore, "012a\r": impl.ChunkMore, "\r": impl.ChunkBad, "x\r": impl.ChunkBad, "12d\r": impl.ChunkBad, "00000\r": impl.ChunkBad, "00005\r": impl.ChunkBad, "123456\r": impl.ChunkBad, "00000": impl.ChunkBad, "00005": impl.ChunkBad, "12345": impl.ChunkBad} {
		wantChunkCode(t, s, want)
		wantChunkCode(t, "2\r\nab\r\n"+s, want)
	}
}

func TestEachByteWhereA13OrA10MustBe(t *testing.T) {
	for n := range 256 {
		s := string([]byte{byte(n)})
		code := func(right bool) int {
			if right {
				return impl.ChunkMore
			}
			return impl.ChunkBad
		}
		for _, more := range []string{"", "\n", "\r\n", "ab\r\n0\r\n\r\n"} {
			for _, ahead := range []string{"2\r", "0\r", "2\r\nab\r", "1\r\na\r\n2\r", "1\r\na\r\n0\r"} {
				if s != "\n" {
					wantChunkCode(t, ahead+s+more, impl.ChunkBad)
				}
			}
			for _, ahead := range []string{"2\r\nab", "0\r\n", "1\r\na\r\n2\r\nab", "1\r\na\r\n0\r\n"} {
				if s != "\r" {
					wantChunkCode(t, ahead+s+more, impl.ChunkBad)
				}
			}
		}
		wantChunkCode(t, "2\r"+s, code(s == "\n"))
		wantChunkCode(t, "2\r\nab"+s, code(s == "\r"))
		wantChunkCode(t, "2\r\nab\r"+s, code(s == "\n"))
		wantChunkCode(t, "0\r"+s, code(s == "\n"))
		wantChunkCode(t, "0\r\n"+s, code(s == "\r"))
		if s == "\n" {
			wantChunks(t, "0\r\n\r"+s, "", 5)
		} else {
			wantChunkCode(t, "0\r\n\r"+s, impl.ChunkBad)
		}
		// Within a piece each byte is right.
		wantChunks(t, "1\r\n"+s+"\r\n"+lastChunk, s, 11)
		wantChunks(t, "3\r\na"+s+"b\r\n"+lastChunk, "a"+s+"b", 13)
	}
}

func TestBodiesOf300Bytes(t *testing.T) {
	r := rand.New(rand.NewSource(51))
	cuts := [][]int{{300}, {299, 1}, {1, 299}, {150, 150}, slices.Repeat([]int{5}, 60), slices.Repeat([]int{6}, 50), append(slices.Repeat([]int{1}, 59), 241)}
	for _, cut := range cuts {
		pieces := []string{}
		for _, n := range cut {
			b := make([]byte, n)
			r.Read(b)
			pieces = append(pieces, string(b))
		}
		body, s := strings.Join(pieces, ""), chunksOf(pieces...)
		if told, ok := impl.ChunkBytes(pieces); !ok || told != s+lastChunk {
			t.Errorf("ChunkBytes(%q) = %q, %v", pieces, told, ok)
		}
		wantChunks(t, s+lastChunk+"x", body, len(s)+5)
		wantFed(t, s+lastChunk+"x", impl.Unchunk{Body: body, Rest: "x", Done: true})
		// One byte more, in each of the pieces.
		for i := range pieces {
			more := slices.Clone(pieces)
			more[i] += "m"
			if told, ok := impl.ChunkBytes(more); ok || told != "" {
				t.Errorf("ChunkBytes(%q) = %q, %v", more, told, ok)
			}
			wantChunkCode(t, chunksOf(more...)+lastChunk, impl.ChunkBad)
			less := slices.Clone(pieces)
			less[i] = less[i][1:]
			less = slices.DeleteFunc(less, func(s string) bool { return s == "" })
			if told, ok := impl.ChunkBytes(less); !ok || told != chunksOf(less...)+lastChunk {
				t.Errorf("ChunkBytes(%q) = %q, %v", less, told, ok)
			}
			wantChunks(t, chunksOf(less...)+lastChunk, strings.Join(less, ""), len(chunksOf(less...))+5)
		}
		// One piece more: its size is too much, whether it is there or not.
		for _, more := range []string{"1\r", "1\r\n", "1\r\nm", "0001\r\n", "ffff\r\n", "1\r\nm\r\n0\r\n\r\n"} {
			wantChunkCode(t, s+more, impl.ChunkBad)
		}
		for _, more := range []string{"", "1", "0", "0\r", "0000\r\n"} {
			wantChunkCode(t, s+more, impl.ChunkMore)
		}
	}
	if told, ok := impl.ChunkBytes([]string{strings.Repeat("m", 301)}); ok || told != "" {
		t.Error("301 bytes in one piece", told)
	}
	if told, ok := impl.ChunkBytes([]string{strings.Repeat("m", 100000)}); ok || told != "" {
		t.Error("100000 bytes in one piece", told)
	}
}

// The size of a piece that isn't there yet.
func TestSizesThatAreTooGreat(t *testing.T) {
	for n := range 65536 {
		digits := strconv.FormatInt(int64(n), 16)
		want := impl.ChunkBad
		if n <= 300 {
			want = impl.ChunkMore
		}
		wantChunkCode(t, digits+"\r\n", want)
		wantChunkCode(t, digits+"\r", want)
		if n < 400 {
			beside := impl.ChunkBad
			if n <= 290 {
				beside = impl.ChunkMore
			}
			wantChunkCode(t, "a\r\n0123456789\r\n"+digits+"\r\n", beside)
		}
	}
}

func TestSixtyPiecesAndOneMore(t *testing.T) {
	for _, n := range []int{1, 58, 59, 60, 61, 62, 200} {
		pieces := slices.Repeat([]string{"p"}, n)
		s := chunksOf(pieces...)
		told, ok := impl.ChunkBytes(pieces)
		if n > 60 {
			if ok || told != "" {
				t.Errorf("ChunkBytes of %d pieces = %q, %v", n, told, ok)
			}
			wantChunkCode(t, s, impl.ChunkBad)
			wantChunkCode(t, s+lastChunk, impl.ChunkBad)
			wantFed(t, s+lastChunk, impl.Unchunk{Wrong: true})
			continue
		}
		if !ok || told != s+lastChunk {
			t.Errorf("ChunkBytes of %d pieces = %q, %v", n, told, ok)
		}
		wantChunkCode(t, s, impl.ChunkMore)
		wantChunks(t, s+lastChunk+"x", strings.Repeat("p", n), len(s)+5)
		wantChunks(t, s+"0000\r\n\r\n", strings.Repeat("p", n), len(s)+8)
		more := impl.ChunkMore
		if n == 60 {
			more = impl.ChunkBad
		}
		for _, size := range []string{"1\r", "1\r\n", "0001\r\n", "1\r\na", "f0\r\n"} {
			wantChunkCode(t, s+size, more)
		}
		for _, size := range []string{"", "1", "0", "0\r", "000\r\n", "0\r\n\r"} {
			wantChunkCode(t, s+size, impl.ChunkMore)
		}
	}
}

func TestChunkBytesRefuses(t *testing.T) {
	for _, pieces := range [][]string{{""}, {"", ""}, {"", "a"}, {"a", ""}, {"a", "", "b"}, slices.Repeat([]string{""}, 60), append(slices.Repeat([]string{"a"}, 59), ""), slices.Repeat([]string{"a"}, 61), slices.Repeat([]string{"a"}, 301), slices.Repeat([]string{"abcdef"}, 51), {strings.Repeat("a", 300), "b"}, {strings.Repeat("a", 300), ""}} {
		if told, ok := impl.ChunkBytes(pieces); ok || told != "" {
			t.Errorf("ChunkBytes(%q) = %q, %v", pieces, told, ok)
		}
	}
}

// Texts that are wrong and end too soon as well.
func TestWhatIsWrongAndCutIsBad(t *testing.T) {
	for _, s := range []string{
		"x", "\n", " ", "5;", "5\n", "2\r\nab\r\nx", "2\r\nab\r\n0\n", "x\r", "\r", " 5\r", "5 \r", "00005", "00005\r", "5;a=b",
		"2\rx", "2\r\r", "2\r\r\n", "2\n\r", "2\n\r\n", "2\r\nabc", "2\r\nab\n", "2\r\nab\r\r", "2\r\nabc\r",
		"12d\r", "12d\r\n", "12d\r\na", "ffff\r\nab", "2\r\nab\r\n12b\r\n", "12c\r\n" + strings.Repeat("a", 301),
		"2\r\nab\r\nx\r", "2\r\nab\r\n\r", "2\r\nab\r\n2\rx", "2\r\nab\r\n2\r\nabc", "2\r\nabx2\r\n", "2\r\nab\r\r\n",
		"0\rx", "0\r\nx", "0\r\n\n", "0\r\n\r\r", "0\r\n\rx", "0\r\n0\r\n", "0\r\n1\r\na", "0\r\na: b\r\n",
		strings.Repeat("1\r\na\r\n", 60) + "1\r\n",
		// Two faults: what comes behind the first one is not read.
		"x\r\n12d\r\n", "12d\rx", "2\r\nabx\r\n", "00000\rx",
	} {
		wantChunkCode(t, s, impl.ChunkBad)
	}
	for _, s := range []string{"", "2", "2\r", "2\r\n", "2\r\na", "2\r\nab", "2\r\nab\r", "2\r\nab\r\n", "2\r\n\r", "2\r\n\r\n", "2\r\n\r\n\r", "0", "0\r", "0\r\n", "0\r\n\r", "3\r\n0\r\n\r", "a\r\n0\r\n\r\n", "12c\r\n", "12c\r\n" + strings.Repeat("a", 300)} {
		wantChunkCode(t, s, impl.ChunkMore)
	}
	// A fault behind the end is not looked at.
	wantChunks(t, lastChunk+"x\r\n", "", 5)
	wantChunks(t, "2\r\nab\r\n0\r\n\r\n12d\r\n", "ab", 12)
}

func TestHexTexts(t *testing.T) {
	for n := range 65536 {
		s, ok := impl.HexText(n)
		if !ok || s != strconv.FormatInt(int64(n), 16) {
			t.Fatalf("HexText(%d) = %q, %v", n, s, ok)
		}
		for _, digits := range []string{s, strings.ToUpper(s), ("000" + s)[len(s)-1:], ("0" + s)[max(0, len(s)-3):]} {
			if back, ok := impl.ReadHex(digits); !ok || back != n {
				t.Fatalf("ReadHex(%q) = %d, %v", digits, back, ok)
			}
		}
	}
	for n, want := range map[int]string{0: "0", 9: "9", 10: "a", 15: "f", 16: "10", 255: "ff", 256: "100", 4095: "fff", 4096: "1000", 43981: "abcd", 65535: "ffff"} {
		if s, ok := impl.HexText(n); s != want || !ok {
			t.Errorf("HexText(%d) = %q, %v", n, s, ok)
		}
	}
	for _, n := range []int{-1, -2, -65535, 65536, 65537, 1 << 20, 1 << 32, math.MaxInt, math.MinInt} {
		if s, ok := impl.HexText(n); ok || s != "" {
			t.Errorf("HexText(%d) = %q, %v", n, s, ok)
		}
	}
}

func TestReadHex(t *testing.T) {
	for s, want := range map[string]int{"0": 0, "00": 0, "0000": 0, "1": 1, "0001": 1, "a": 10, "A": 10, "f": 15, "F": 15, "aF": 175, "Af": 175, "00fF": 255, "100": 256, "9999": 39321, "fffe": 65534, "FFFF": 65535, "fFfF": 65535} {
		if n, ok := impl.ReadHex(s); n != want || !ok {
			t.Errorf("ReadHex(%q) = %d, %v", s, n, ok)
		}
	}
	for _, s := range []string{"", "00000", "00001", "10000", "fffff", " ", " 1", "1 ", "+1", "-1", "-0", "0x1", "x1", "g", "1g", "G1", "1\r", "1\n", "1\r\n", "_1", "1_1", "1.", ".1", "\x00", "\xff", "1\x00", "٣", "ａ", "é", strings.Repeat("0", 100000)} {
		if n, ok := impl.ReadHex(s); ok || n != 0 {
			t.Errorf("ReadHex(%q) = %d, %v", s, n, ok)
		}
	}
	for n := range 256 {
		s := string([]byte{byte(n)})
		for _, text := range []string{s, "1" + s, s + "1", "1" + s + "1", "1ab" + s, s + "1ab"} {
			want, err := strconv.ParseUint(text, 16, 16)
			if got, ok := impl.ReadHex(text); ok != (err == nil) || ok && got != int(want) || !ok && got != 0 {
				t.Errorf("ReadHex(%q) = %d, %v", text, got, ok)
			}
		}
	}
}

// Each field beside each other one.
func TestGoodUnchunks(t *testing.T) {
	greatest := strings.Repeat("0001\r\na\r\n", 59) + "00f1\r\n" + strings.Repeat("b", 241) + "\r\n0000\r\n\r"
	// Whether there is more to come behind what has come.
	rests := map[string]bool{
		"": true, "5": true, "5\r\nab": true, "0\r\n\r": true, "12c\r\n": true, "2\r\nab\r\n": true, greatest: true,
		"0\r\n\r\n": false, "0\r\n\r\nx": false, "1\r\na\r\n0\r\n\r\n": false, greatest + "\n": false,
		"ffff": true, "12d": true, "2\r\nab\r\n0": true,
		"g": false, "\n": false, "0\n": false, "12d\n": false, "2\r\nab\r\n0\n": false, "5 ": false,
		"\r\n": false, "12d\r\n": false, "1\r\nab": false, "rest!": false, greatest + "x": false,
		strings.Repeat("r", 3999): false, strings.Repeat("r", 4000): false, strings.Repeat("r", 4001): false, strings.Repeat("r", 100000): false,
		"0\r\n\r\n" + strings.Repeat("r", 3995): false, "0\r\n\r\n" + strings.Repeat("r", 3996): false,
	}
	for rest, more := range rests {
		for _, body := range []string{"", "a", "0\r\n\r\n", strings.Repeat("\x00", 299), strings.Repeat("\xff", 300), strings.Repeat("b", 301), strings.Repeat("b", 100000)} {
			for _, flags := range [][2]bool{{false, false}, {true, false}, {false, true}, {true, true}} {
				u := impl.Unchunk{Body: body, Rest: rest, Done: flags[0], Wrong: flags[1]}
				good := false
				switch flags {
				case [2]bool{false, false}:
					good = body == "" && more
				case [2]bool{true, false}:
					good = len(body) <= 300 && len(rest) <= 4000
				case [2]bool{false, true}:
					good = body == "" && rest == ""
				}
				if impl.GoodUnchunk(u) != good {
					t.Errorf("GoodUnchunk(%+v) is not %v", u, good)
				}
				fed, ok := impl.FeedUnchunk(u, "")
				if ok != (good && flags == [2]bool{}) || ok && fed != u || !ok && fed != (impl.Unchunk{}) {
					t.Errorf("FeedUnchunk(%+v) with nothing = %+v, %v", u, fed, ok)
				}
			}
		}
	}
}

func TestFeedUnchunkRefuses(t *testing.T) {
	for _, u := range []impl.Unchunk{{Done: true}, {Body: "a", Rest: "b", Done: true}, {Wrong: true}, {Done: true, Wrong: true}, {Body: "a"}, {Rest: "0\r\n\r\n"}, {Rest: "x\r\n"}, {Rest: strings.Repeat("r", 4001), Done: true}, {Body: "a", Wrong: true}, {Rest: "1", Wrong: true}} {
		for _, s := range []string{"", "0\r\n\r\n", "x\r\n", "rest"} {
			if fed, ok := impl.FeedUnchunk(u, s); ok || fed != (impl.Unchunk{}) {
				t.Errorf("FeedUnchunk(%+v, %q) = %+v, %v", u, s, fed, ok)
			}
		}
	}
	for _, n := range []int{1999, 2000, 2001, 2002, 100000} {
		for _, ahead := range []string{"", "2", "2\r\na", "12c\r\n" + strings.Repeat("a", 299)} {
			wrong := strings.Repeat("w", n)
			if fed, ok := impl.FeedUnchunk(impl.Unchunk{Rest: ahead}, wrong); ok != (n <= 2000) || fed != (impl.Unchunk{Wrong: ok}) {
				t.Errorf("FeedUnchunk behind %q with %d bytes = %+v, %v", ahead, n, fed, ok)
			}
		}
		s := lastChunk + strings.Repeat("r", n-5)
		want := impl.Unchunk{Rest: s[5:], Done: true}
		if n > 2000 {
			want = impl.Unchunk{}
		}
		if fed, ok := impl.FeedUnchunk(impl.Unchunk{}, s); ok != (n <= 2000) || fed != want {
			t.Errorf("FeedUnchunk with %d bytes, and done = %+v, %v", n, fed, ok)
		}
	}
	// What is there already does not count among the bytes that are fed.
	u := impl.Unchunk{Rest: "12c\r\n" + strings.Repeat("a", 299)}
	s := "b\r\n0\r\n\r\n" + strings.Repeat("r", 1992)
	want := impl.Unchunk{Body: strings.Repeat("a", 299) + "b", Rest: s[8:], Done: true}
	if fed, ok := impl.FeedUnchunk(u, s); !ok || fed != want || len(s) != 2000 {
		t.Errorf("FeedUnchunk(%+v, %q) = %+v, %v", u, s, fed, ok)
	}
}

func TestFeedAll(t *testing.T) {
	full := strings.Repeat("r", 2000)
	done := impl.Unchunk{Done: true}
	wrong := impl.Unchunk{Wrong: true}
	for _, c := range []struct {
		l    []string
		want impl.Unchunk
		ok   bool
	}{
		{nil, impl.Unchunk{}, true},
		{[]string{}, impl.Unchunk{}, true},
		{[]string{""}, impl.Unchunk{}, true},
		{slices.Repeat([]string{""}, 60), impl.Unchunk{}, true},
		{slices.Repeat([]string{""}, 61), impl.Unchunk{}, false},
		{[]string{"2\r\n", "a", "", "b"}, impl.Unchunk{Rest: "2\r\nab"}, true},
		{bytesOf("36\r\n" + strings.Repeat("a", 54) + "\r\n"), impl.Unchunk{Rest: "36\r\n" + strings.Repeat("a", 54) + "\r\n"}, true},
		{bytesOf("36\r\n" + strings.Repeat("a", 54) + "\r\n0"), impl.Unchunk{}, false},
		{bytesOf("2f\r\n" + strings.Repeat("a", 47) + "\r\n0\r\n\r\nxy"), impl.Unchunk{Body: strings.Repeat("a", 47), Rest: "xy", Done: true}, true},
		{bytesOf("2f\r\n" + strings.Repeat("a", 47) + "\r\n0\r\n\r\nxyz"), impl.Unchunk{}, false},
		// Behind one that is Done all goes behind its Rest, also what is right itself.
		{[]string{"0\r\n\r\n", "0\r\n\r\n", "x\r\n"}, impl.Unchunk{Rest: "0\r\n\r\nx\r\n", Done: true}, true},
		{[]string{"0\r\n\r\na", "", "b", "c"}, impl.Unchunk{Rest: "abc", Done: true}, true},
		{[]string{"0\r\n\r\n"}, done, true},
		{append([]string{"0\r\n\r\n"}, slices.Repeat([]string{"r"}, 59)...), impl.Unchunk{Rest: full[:59], Done: true}, true},
		{append([]string{"0\r\n\r\n"}, slices.Repeat([]string{"r"}, 60)...), impl.Unchunk{}, false},
		{[]string{"0\r\n\r\n", full, full}, impl.Unchunk{Rest: full + full, Done: true}, true},
		{[]string{"0\r\n\r\n", full, full[:1999], "r"}, impl.Unchunk{Rest: full + full, Done: true}, true},
		{[]string{"0\r\n\r\nr", full, full[:1999]}, impl.Unchunk{Rest: full + full, Done: true}, true},
		// A Rest has room for 4000 bytes.
		{[]string{"0\r\n\r\n", full, full, "r"}, impl.Unchunk{}, false},
		{[]string{"0\r\n\r\nr", full, full}, impl.Unchunk{}, false},
		{append([]string{"0\r\n\r\n"}, slices.Repeat([]string{full}, 59)...), impl.Unchunk{}, false},
		// Behind one that is Wrong nothing counts.
		{[]string{"x\r\n", "0\r\n\r\n"}, wrong, true},
		{[]string{"1\r\na", "x", "\r\n0\r\n\r\n", "rest"}, wrong, true},
		{[]string{full, full, full, full}, wrong, true},
		{append([]string{"\r"}, slices.Repeat([]string{full}, 59)...), wrong, true},
		{append([]string{"\r"}, slices.Repeat([]string{full}, 60)...), impl.Unchunk{}, false},
		// Texts that may not be fed, wherever they stand.
		{[]string{full + "r"}, impl.Unchunk{}, false},
		{[]string{lastChunk + full}, impl.Unchunk{}, false},
		{[]string{"", full + "r"}, impl.Unchunk{}, false},
		{[]string{full + "r", ""}, impl.Unchunk{}, false},
		{[]string{"2\r\n", full + "r", "0\r\n\r\n"}, impl.Unchunk{}, false},
		{[]string{"0\r\n\r\n", full + "r"}, impl.Unchunk{}, false},
		{[]string{"x\r\n", full + "r"}, impl.Unchunk{}, false},
	} {
		if u, ok := impl.FeedAll(c.l); u != c.want || ok != c.ok {
			t.Errorf("FeedAll(%q) = %+v, %v", c.l, u, ok)
		}
	}
}

// chunksByForm reads a second way: what stands there is held against the
// chunk that it must be by its size.
func chunksByForm(s string) (string, int, int) {
	body, rest := "", s
	for pieces := 0; ; pieces++ {
		digits, _, ended := strings.Cut(rest, "\r")
		if !ended && len(digits) < 5 && strings.Trim(digits, "0123456789abcdefABCDEF") == "" {
			return "", 0, impl.ChunkMore
		}
		wide, err := strconv.ParseUint(digits, 16, 16)
		n := int(wide)
		if len(digits) > 4 || err != nil || len(body)+n > 300 || pieces == 60 && n > 0 {
			return "", 0, impl.ChunkBad
		}
		chunk := digits + "\r\n"
		if len(rest) > len(chunk) {
			chunk += rest[len(chunk):min(len(rest), len(chunk)+n)]
		}
		whole := len(chunk) == len(digits)+2+n
		if whole {
			chunk += "\r\n"
		}
		switch {
		case whole && strings.HasPrefix(rest, chunk):
			body, rest = body+chunk[len(digits)+2:][:n], rest[len(chunk):]
		case strings.HasPrefix(chunk, rest):
			return "", 0, impl.ChunkMore
		default:
			return "", 0, impl.ChunkBad
		}
		if n == 0 {
			return body, len(s) - len(rest), impl.ChunkOk
		}
	}
}

func checkChunks(t *testing.T, s string) int {
	t.Helper()
	body, size, code := impl.ReadChunks(s)
	if b, n, c := chunksByForm(s); b != body || n != size || c != code {
		t.Fatalf("ReadChunks(%q) = %q, %d, %d, not %q, %d, %d", s, body, size, code, b, n, c)
	}
	return code
}

// All texts of some bits: of one that is right or wrong nothing behind it
// makes another, and one that goes on began so.
func TestAllShortTextsOfChunks(t *testing.T) {
	bits := []string{"0", "1", "2", "x", "\r", "\n", "\r\n", "1\r\n", "a\r\n0", "0\r\n\r\n"}
	var try func(s string, code int, left int)
	try = func(s string, code int, left int) {
		got := checkChunks(t, s)
		if code != impl.ChunkMore && got != code {
			t.Fatalf("%q: %d, and %d ahead of its last bit", s, got, code)
		}
		if left == 0 {
			return
		}
		for _, bit := range bits {
			try(s+bit, got, left-1)
		}
	}
	try("", impl.ChunkMore, 5)
	try("1\r\na\r\n", impl.ChunkMore, 5)
}

func randomPieces(r *rand.Rand) []string {
	pieces, left := []string{}, 300
	for range r.Intn(10) * r.Intn(7) {
		n := min(1+r.Intn(8), left)
		if r.Intn(20) == 0 {
			n = min(1+r.Intn(300), left)
		}
		if n == 0 {
			break
		}
		b := make([]byte, n)
		for i := range b {
			b[i] = "\r\n0a\x00\xff"[r.Intn(6)]
		}
		pieces, left = append(pieces, string(b)), left-n
	}
	return pieces
}

// cutAnywhere cuts a text into at most 60 texts.
func cutAnywhere(r *rand.Rand, s string) []string {
	places := []int{0, len(s)}
	for range r.Intn(59) {
		places = append(places, r.Intn(len(s)+1))
	}
	slices.Sort(places)
	parts := []string{}
	for i, at := range places[1:] {
		parts = append(parts, s[places[i]:at])
	}
	return parts
}

func TestRandomPiecesComeBack(t *testing.T) {
	r := rand.New(rand.NewSource(52))
	for range 3000 {
		pieces := randomPieces(r)
		s, ok := impl.ChunkBytes(pieces)
		if !ok || s != chunksOf(pieces...)+lastChunk {
			t.Fatalf("ChunkBytes(%q) = %q, %v", pieces, s, ok)
		}
		body, behind := strings.Join(pieces, ""), randomOf(r, behindChunks, 2)
		wantChunks(t, s+behind, body, len(s))
		for range 5 {
			parts := cutAnywhere(r, s+behind)
			if u, ok := impl.FeedAll(parts); !ok || u != (impl.Unchunk{Body: body, Rest: behind, Done: true}) {
				t.Fatalf("FeedAll(%q) = %+v, %v", parts, u, ok)
			}
		}
		at := r.Intn(len(s))
		wantChunkCode(t, s[:at], impl.ChunkMore)
		if u, ok := impl.FeedAll(cutAnywhere(r, s[:at])); !ok || u != (impl.Unchunk{Rest: s[:at]}) {
			t.Fatalf("%q cut: %+v, %v", s[:at], u, ok)
		}
	}
}

// Right texts with some bytes wrong: the same by the second reading, and the
// same unchunk of them all, however they are cut.
func TestNearlyChunks(t *testing.T) {
	r := rand.New(rand.NewSource(53))
	put := []string{"", "\r", "\n", "\r\n", "0", "1", "2", "f", "F", "x", " ", ";", "\x00", "00", "0\r\n\r\n", "\xff"}
	codes := map[int]int{}
	for range 30000 {
		s := chunksOf(randomPieces(r)...) + lastChunk
		for range r.Intn(3) {
			at := r.Intn(len(s) + 1)
			s = s[:at] + put[r.Intn(len(put))] + s[min(len(s), at+r.Intn(2)):]
		}
		if r.Intn(4) == 0 {
			s = s[:r.Intn(len(s)+1)]
		}
		code := checkChunks(t, s)
		codes[code]++
		body, size, _ := impl.ReadChunks(s)
		want := map[int]impl.Unchunk{impl.ChunkOk: {Body: body, Rest: s[size:], Done: true}, impl.ChunkMore: {Rest: s}, impl.ChunkBad: {Wrong: true}}[code]
		parts := cutAnywhere(r, s)
		if u, ok := impl.FeedAll(parts); u != want || !ok || !impl.GoodUnchunk(u) {
			t.Fatalf("FeedAll(%q) = %+v, %v", parts, u, ok)
		}
	}
	for code := range 3 {
		if codes[code] < 3000 {
			t.Error("too few with code", code, codes)
		}
	}
}

// Any bytes, at each function: no panic, and zero beside a false.
func TestChunkFunctionsAnswerAtAnything(t *testing.T) {
	r := rand.New(rand.NewSource(54))
	bits := []string{"0", "1", "12c", "12d", "00005", "\r\n", "\r", "\n", "a", "x", " ", "\x00", "\x80", "\xff", "1\r\na\r\n", "0\r\n\r\n", strings.Repeat("z", 301), strings.Repeat("z", 2001)}
	for range 30000 {
		s, more := randomOf(r, bits, 8), randomOf(r, bits, 3)
		code := checkChunks(t, s)
		u := impl.Unchunk{Body: more, Rest: s, Done: r.Intn(3) == 0, Wrong: r.Intn(5) == 0}
		if r.Intn(2) == 0 {
			u.Body = ""
		}
		good := !u.Done && !u.Wrong && u.Body == "" && code == impl.ChunkMore || u.Done && !u.Wrong && len(u.Body) <= 300 || u == impl.Unchunk{Wrong: true}
		good = good && len(s) <= 4000
		if impl.GoodUnchunk(u) != good {
			t.Fatalf("GoodUnchunk(%+v) is not %v", u, good)
		}
		fed, ok := impl.FeedUnchunk(u, more)
		if ok != (good && !u.Done && !u.Wrong && len(more) <= 2000) || !ok && fed != (impl.Unchunk{}) || ok && fed != feedInTurn(t, s, more) {
			t.Fatalf("FeedUnchunk(%+v, %q) = %+v, %v", u, more, fed, ok)
		}
		l := []string{s, more, s}[r.Intn(3):]
		if all, ok := impl.FeedAll(l); !ok && all != (impl.Unchunk{}) || ok && all != feedInTurn(t, l...) {
			t.Fatalf("FeedAll(%q) = %+v, %v", l, all, ok)
		}
		told, ok := impl.ChunkBytes(l)
		if ok != (len(strings.Join(l, "")) <= 300 && !slices.Contains(l, "")) || !ok && told != "" || ok && told != chunksOf(l...)+lastChunk {
			t.Fatalf("ChunkBytes(%q) = %q, %v", l, told, ok)
		}
	}
	for _, s := range []string{strings.Repeat("\r\n", 50000), strings.Repeat("\r", 100000), strings.Repeat("0", 100000), strings.Repeat("1\r\na\r\n", 20000), strings.Repeat("0\r\n\r\n", 20000), "12c\r\n" + strings.Repeat("\n", 100000)} {
		checkChunks(t, s)
		if u, ok := impl.FeedUnchunk(impl.Unchunk{}, s); ok || u != (impl.Unchunk{}) {
			t.Errorf("FeedUnchunk of %d bytes = %+v, %v", len(s), u, ok)
		}
		if u, ok := impl.FeedAll(slices.Repeat([]string{s}, 1000)); ok || u != (impl.Unchunk{}) {
			t.Errorf("FeedAll of 1000 texts = %+v, %v", u, ok)
		}
		if told, ok := impl.ChunkBytes(slices.Repeat([]string{s}, 1000)); ok || told != "" {
			t.Errorf("ChunkBytes of 1000 texts = %q, %v", told, ok)
		}
	}
}

func TestChunkFunctionsWriteIntoNothing(t *testing.T) {
	full := strings.Repeat("r", 2000)
	for _, l := range [][]string{nil, {}, {"a"}, {"a", ""}, {"0\r\n\r\n", "x"}, {"1\r", "\na\r\n0\r\n\r\n", "rest"}, {"x\r\n", "y"}, {full + "r"}, {"0\r\n\r\n", full, full, full}, slices.Repeat([]string{"a"}, 60), slices.Repeat([]string{"a"}, 61)} {
		given := withSpare(l, "spare")
		before := slices.Clone(given[:cap(given)])
		told, ok := impl.ChunkBytes(given)
		if plain, right := impl.ChunkBytes(slices.Clone(l)); told != plain || ok != right {
			t.Errorf("what lies behind %q counts: %q, %v", l, told, ok)
		}
		u, ok := impl.FeedAll(given)
		if plain, right := impl.FeedAll(slices.Clone(l)); u != plain || ok != right {
			t.Errorf("what lies behind %q counts: %+v, %v", l, u, ok)
		}
		if !slices.Equal(given[:cap(given)], before) {
			t.Errorf("%q is written into", l)
		}
	}
}

func shareMemory(a string, b string) bool {
	if a == "" || b == "" {
		return false
	}
	fromA, fromB := uintptr(unsafe.Pointer(unsafe.StringData(a))), uintptr(unsafe.Pointer(unsafe.StringData(b)))
	return fromA < fromB+uintptr(len(b)) && fromB < fromA+uintptr(len(a))
}

func TestChunksShareNoMemory(t *testing.T) {
	piece, rest := strings.Repeat("p", 20), strings.Repeat("r", 20)
	s := chunksOf(piece) + lastChunk + rest
	cut := s[:12]
	body, _, _ := impl.ReadChunks(s)
	told, _ := impl.ChunkBytes([]string{piece})
	begun, _ := impl.FeedUnchunk(impl.Unchunk{}, cut)
	again, _ := impl.FeedUnchunk(begun, "")
	done, _ := impl.FeedUnchunk(impl.Unchunk{}, s)
	all, _ := impl.FeedAll([]string{s})
	more, _ := impl.FeedAll([]string{chunksOf(piece) + lastChunk, rest})
	waits, _ := impl.FeedAll([]string{"", cut, ""})
	if body != piece || done.Rest != rest || more.Rest != rest || again.Rest != cut || waits.Rest != cut {
		t.Fatal(body, done, more, again, waits)
	}
	for _, answer := range []string{body, told, begun.Rest, done.Body, done.Rest, all.Body, all.Rest, more.Body, more.Rest, waits.Rest} {
		if shareMemory(answer, s) || shareMemory(answer, piece) || shareMemory(answer, rest) {
			t.Errorf("%q shares memory with an argument", answer)
		}
	}
	if shareMemory(again.Rest, begun.Rest) {
		t.Error("a Rest shares memory with the one that was fed")
	}
}
