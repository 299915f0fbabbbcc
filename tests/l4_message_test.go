package tests

import (
	"math/rand"
	"reflect"
	"regexp"
	"slices"
	"strconv"
	"strings"
	"testing"

	"loop.example/g00256/impl"
)

// Both lines have as many bytes, so that a request and a response with the
// same behind them meet a limit together.
const askLine = "GET / HTTP/1.1"
const answerLine = "HTTP/1.1 200 O"

func requestOf(body string, l ...impl.Field) impl.Request {
	return impl.Request{Method: "GET", Target: "/", Fields: l, Body: body}
}

func responseOf(body string, l ...impl.Field) impl.Response {
	return impl.Response{Status: 200, Reason: "O", Fields: l, Body: body}
}

func sameRequest(a impl.Request, b impl.Request) bool {
	return a.Method == b.Method && a.Target == b.Target && a.Body == b.Body && slices.Equal(a.Fields, b.Fields)
}

func sameResponse(a impl.Response, b impl.Response) bool {
	return a.Status == b.Status && a.Reason == b.Reason && a.Body == b.Body && slices.Equal(a.Fields, b.Fields)
}

// taken is what a request and a response have in common.
type taken struct {
	fields []impl.Field
	body   string
	size   int
	code   int
}

// takeRequest looks that there is nothing else beside a fault.
func takeRequest(t *testing.T, s string) taken {
	t.Helper()
	r, size, code := impl.TakeRequest(s)
	if code != impl.MessageOk && (size != 0 || !sameRequest(r, impl.Request{})) {
		t.Fatalf("TakeRequest(%q) = %+v, %d beside %d", s, r, size, code)
	}
	return taken{r.Fields, r.Body, size, code}
}

func takeResponse(t *testing.T, s string) taken {
	t.Helper()
	r, size, code := impl.TakeResponse(s)
	if code != impl.MessageOk && (size != 0 || !sameResponse(r, impl.Response{})) {
		t.Fatalf("TakeResponse(%q) = %+v, %d beside %d", s, r, size, code)
	}
	return taken{r.Fields, r.Body, size, code}
}

// takeBehind takes what stands behind a first line, in both kinds.
func takeBehind(t *testing.T, rest string) taken {
	t.Helper()
	q, a := takeRequest(t, askLine+rest), takeResponse(t, answerLine+rest)
	if q.code != a.code || q.size != a.size || q.body != a.body || !slices.Equal(q.fields, a.fields) {
		t.Fatalf("behind %q: %+v, but %+v", rest, q, a)
	}
	return q
}

func wantCode(t *testing.T, rest string, code int) {
	t.Helper()
	if got := takeBehind(t, rest).code; got != code {
		t.Errorf("behind the first line %q: %d, not %d", rest, got, code)
	}
}

// goodBoth asks both kinds, and whether their bytes are told just then.
func goodBoth(t *testing.T, l []impl.Field, body string) bool {
	t.Helper()
	q, a := requestOf(body, l...), responseOf(body, l...)
	good := impl.GoodRequest(q)
	if impl.GoodResponse(a) != good {
		t.Fatalf("fields %q and body %q: a request is %v, a response is not", l, body, good)
	}
	for _, tell := range []func() (string, bool){func() (string, bool) { return impl.RequestBytes(q) }, func() (string, bool) { return impl.ResponseBytes(a) }} {
		if s, ok := tell(); ok != good || !ok && s != "" {
			t.Fatalf("fields %q and body %q: %v, but told %q, %v", l, body, good, s, ok)
		}
	}
	return good
}

func lines(l ...string) string {
	return strings.Join(l, "\r\n")
}

func toldRequests() map[string]impl.Request {
	return map[string]impl.Request{
		"GET / HTTP/1.1\r\n\r\n":                                               {Method: "GET", Target: "/"},
		"g * HTTP/1.1\r\n\r\n":                                                 {Method: "g", Target: "*"},
		"!#$%&'*+-. !\"#$~ HTTP/1.1\r\n\r\n":                                   {Method: "!#$%&'*+-.", Target: "!\"#$~"},
		"HTTP1.1 HTTP/1.1 HTTP/1.1\r\n\r\n":                                    {Method: "HTTP1.1", Target: "HTTP/1.1"},
		"GET http://h/a?b:c HTTP/1.1\r\nHost: h\r\n\r\n":                       {Method: "GET", Target: "http://h/a?b:c", Fields: []impl.Field{field("Host", "h")}},
		"GET /a HTTP/1.1\r\nA: \r\nb: x  y\r\nA: :\r\n\r\n":                    {Method: "GET", Target: "/a", Fields: []impl.Field{field("A", ""), field("b", "x  y"), field("A", ":")}},
		"PUT /a HTTP/1.1\r\nContent-Length: 2\r\n\r\nhi":                       {Method: "PUT", Target: "/a", Fields: []impl.Field{field("Content-Length", "2")}, Body: "hi"},
		"PUT /a HTTP/1.1\r\nA: b\r\ncontent-length: 0\r\n\r\n":                 {Method: "PUT", Target: "/a", Fields: []impl.Field{field("A", "b"), field("content-length", "0")}},
		"PUT /a HTTP/1.1\r\ncontent-length: 04, 4\r\n\r\n\r\n\r\n":             {Method: "PUT", Target: "/a", Fields: []impl.Field{field("content-length", "04, 4")}, Body: "\r\n\r\n"},
		"PUT /a HTTP/1.1\r\nCONTENT-LENGTH: 5\r\n\r\n\x00\xff\r\nA":            {Method: "PUT", Target: "/a", Fields: []impl.Field{field("CONTENT-LENGTH", "5")}, Body: "\x00\xff\r\nA"},
		"POST /a HTTP/1.1\r\ncontent-length: 18\r\n\r\nGET / HTTP/1.1\r\n\r\n": {Method: "POST", Target: "/a", Fields: []impl.Field{field("content-length", "18")}, Body: "GET / HTTP/1.1\r\n\r\n"},
	}
}

func toldResponses() map[string]impl.Response {
	return map[string]impl.Response{
		"HTTP/1.1 200 OK\r\n\r\n":                                      {Status: 200, Reason: "OK"},
		"HTTP/1.1 100 \r\n\r\n":                                        {Status: 100},
		"HTTP/1.1 599  \r\n\r\n":                                       {Status: 599, Reason: " "},
		"HTTP/1.1 404  a b \r\n\r\n":                                   {Status: 404, Reason: " a b "},
		"HTTP/1.1 304 !~ HTTP/1.1\r\nETag: \"x\"\r\n\r\n":              {Status: 304, Reason: "!~ HTTP/1.1", Fields: []impl.Field{field("ETag", "\"x\"")}},
		"HTTP/1.1 204 No Content\r\nA: \r\nb: 1\r\na: 2\r\n\r\n":       {Status: 204, Reason: "No Content", Fields: []impl.Field{field("A", ""), field("b", "1"), field("a", "2")}},
		"HTTP/1.1 200 OK\r\ncontent-length: 3\r\n\r\nabc":              {Status: 200, Reason: "OK", Fields: []impl.Field{field("content-length", "3")}, Body: "abc"},
		"HTTP/1.1 200 OK\r\nContent-Length: 000000004\r\n\r\n\r\n\r\n": {Status: 200, Reason: "OK", Fields: []impl.Field{field("Content-Length", "000000004")}, Body: "\r\n\r\n"},
	}
}

func TestMessageNumbers(t *testing.T) {
	if impl.MaxHead != 2000 || impl.MaxBody != 300 {
		t.Error("limits", impl.MaxHead, impl.MaxBody)
	}
	codes := []int{impl.MessageOk, impl.MessageShort, impl.MessageLine, impl.MessageField, impl.MessageLength, impl.MessageLong}
	if !slices.Equal(codes, []int{0, 1, 2, 3, 4, 5}) {
		t.Error("codes", codes)
	}
}

// behindMessages are bytes that stand behind a message and are not its own.
var behindMessages = []string{"", "\r\n", "\n", "\r\n\r\n", "x", "\x00\xff", "GET", "GET / HTTP/1.1\r\n\r\n", "HTTP/1.1 200 OK\r\n\r\n", "A: b\r\n\r\n", strings.Repeat("z", 100000)}

func TestRequestsAreToldAndTakenAgain(t *testing.T) {
	for s, r := range toldRequests() {
		if !impl.GoodRequest(r) {
			t.Errorf("GoodRequest(%+v) tells false", r)
		}
		if told, ok := impl.RequestBytes(r); !ok || told != s {
			t.Errorf("RequestBytes(%+v) = %q, %v", r, told, ok)
		}
		for _, behind := range behindMessages {
			if back, size, code := impl.TakeRequest(s + behind); code != impl.MessageOk || size != len(s) || !sameRequest(back, r) {
				t.Errorf("TakeRequest(%q and %q) = %+v, %d, %d", s, behind, back, size, code)
			}
		}
		for at := range s {
			if got := takeRequest(t, s[:at]); got.code != impl.MessageShort {
				t.Errorf("TakeRequest(%q) = %d", s[:at], got.code)
			}
		}
	}
}

func TestResponsesAreToldAndTakenAgain(t *testing.T) {
	for s, r := range toldResponses() {
		if !impl.GoodResponse(r) {
			t.Errorf("GoodResponse(%+v) tells false", r)
		}
		if told, ok := impl.ResponseBytes(r); !ok || told != s {
			t.Errorf("ResponseBytes(%+v) = %q, %v", r, told, ok)
		}
		for _, behind := range behindMessages {
			if back, size, code := impl.TakeResponse(s + behind); code != impl.MessageOk || size != len(s) || !sameResponse(back, r) {
				t.Errorf("TakeResponse(%q and %q) = %+v, %d, %d", s, behind, back, size, code)
			}
		}
		for at := range s {
			if got := takeResponse(t, s[:at]); got.code != impl.MessageShort {
				t.Errorf("TakeResponse(%q) = %d", s[:at], got.code)
			}
		}
	}
}

func TestOneKindIsNotTheOther(t *testing.T) {
	for s := range toldRequests() {
		if got := takeResponse(t, s); got.code != impl.MessageLine {
			t.Errorf("TakeResponse(%q) = %d", s, got.code)
		}
	}
	for s := range toldResponses() {
		if got := takeRequest(t, s); got.code != impl.MessageLine {
			t.Errorf("TakeRequest(%q) = %d", s, got.code)
		}
	}
}

func TestMessagesOneBehindAnother(t *testing.T) {
	all, want := "", []impl.Request{}
	for s, r := range toldRequests() {
		all, want = all+s, append(want, r)
	}
	for i, r := range want {
		back, size, code := impl.TakeRequest(all)
		if code != impl.MessageOk || !sameRequest(back, r) {
			t.Fatalf("%d: TakeRequest(%q) = %+v, %d, %d", i, all, back, size, code)
		}
		all = all[size:]
	}
	if got := takeRequest(t, all); all != "" || got.code != impl.MessageShort {
		t.Error("nothing is left:", all, got)
	}
}

// toldLengths are Values of content-length fields and the length that they
// tell, -1 where it is not right.
type toldLengths struct {
	values []string
	length int
}

func lengthCases() []toldLengths {
	l := []toldLengths{
		{nil, 0},
		{[]string{"0"}, 0}, {[]string{"2"}, 2}, {[]string{"299"}, 299}, {[]string{"300"}, 300}, {[]string{"301"}, 301},
		{[]string{"123456789"}, 123456789}, {[]string{"999999999"}, 999999999}, {[]string{"1000000000"}, -1}, {[]string{"9223372036854775808"}, -1}, {[]string{"18446744073709551618"}, -1}, {[]string{strings.Repeat("9", 300)}, -1},
		{[]string{"02"}, 2}, {[]string{"00"}, 0}, {[]string{"000000002"}, 2}, {[]string{"000000000"}, 0}, {[]string{"0000000002"}, -1}, {[]string{"0000000000"}, -1}, {[]string{strings.Repeat("0", 299) + "2"}, -1},
		{[]string{"2", "2"}, 2}, {[]string{"2", "2", "2"}, 2}, {[]string{"2, 2"}, 2}, {[]string{"2,2,2"}, 2}, {[]string{"2 ,2"}, 2}, {[]string{"2  ,  2"}, 2}, {[]string{"2, 2", "2"}, 2}, {[]string{"2", "2, 2"}, 2}, {[]string{"0", "0, 0"}, 0},
		{[]string{"2", "3"}, -1}, {[]string{"2", "2", "3"}, -1}, {[]string{"3", "2", "2"}, -1}, {[]string{"2, 3"}, -1}, {[]string{"2, 2, 3"}, -1}, {[]string{"2, 2", "3"}, -1}, {[]string{"2", "2, 3"}, -1}, {[]string{"2", "3, 2"}, -1}, {[]string{"0", "2"}, -1}, {[]string{"2, 0"}, -1},
		{[]string{"2", "02"}, 2}, {[]string{"02, 2, 002"}, 2}, {[]string{"0, 00", "000000000"}, 0}, {[]string{"2", "0000000002"}, -1}, {[]string{"2, 0000000002"}, -1}, {[]string{"02", "03"}, -1}, {[]string{"20", "2"}, -1}, {[]string{"2", "20"}, -1},
		{[]string{""}, -1}, {[]string{"", ""}, -1}, {[]string{"", "2"}, -1}, {[]string{"2", ""}, -1}, {[]string{"", "0"}, -1}, {[]string{"0", ""}, -1}, {[]string{","}, -1}, {[]string{", ,"}, -1}, {[]string{"2", ","}, -1}, {[]string{",", "0"}, -1},
		// Parts of a list that are empty are not told.
		{[]string{"2,"}, 2}, {[]string{",2"}, 2}, {[]string{"2, ,2"}, 2},
		{[]string{"2 2"}, -1}, {[]string{"2 3"}, -1}, {[]string{"1 0"}, -1}, {[]string{"2; 2"}, -1}, {[]string{"2;2"}, -1},
	}
	for _, s := range []string{"x", "-", "+", "-2", "+2", "-0", "+0", "2-", "2.0", "2.", ".2", "2x", "x2", "0x2", "0b1", "1e1", "1_0", "'2'", "\"2\"", "\"2", "2\"", "\"\"", "\\2", "2/", "2:", "/", ":", "12345678-", "-12345678"} {
		l = append(l, toldLengths{[]string{s}, -1}, toldLengths{[]string{"2", s}, -1}, toldLengths{[]string{s, "2"}, -1}, toldLengths{[]string{"2, " + s}, -1}, toldLengths{[]string{s + ", 2"}, -1}, toldLengths{[]string{s, s}, -1}, toldLengths{[]string{"0", s}, -1})
	}
	return l
}

// lengthFields spell the name in several ways, with others between.
func lengthFields(values []string) []impl.Field {
	names := []string{"content-length", "Content-Length", "CONTENT-LENGTH"}
	l := []impl.Field{field("a", "7")}
	for i, v := range values {
		l = append(l, field(names[i%len(names)], v), field("Content-Lengt", "8"), field("content-length-", "9"))
	}
	return l
}

func TestLengths(t *testing.T) {
	for _, c := range lengthCases() {
		l := lengthFields(c.values)
		length, right := max(c.length, 0), c.length >= 0
		if n, ok := impl.LengthOf(l); n != length || ok != right {
			t.Errorf("LengthOf(%q) = %d, %v", l, n, ok)
		}
		rest := "\r\n"
		for _, f := range l {
			rest += f.Name + ": " + f.Value + "\r\n"
		}
		rest += "\r\n"
		for _, n := range []int{0, 1, 2, 3, 20, 22, 23, 299, 300, 301} {
			body := strings.Repeat("b", n)
			fits := right && n == c.length && n <= impl.MaxBody
			if good := goodBoth(t, l, body); good != fits {
				t.Errorf("fields %q and a body of %d bytes: %v", l, n, good)
			}
			got := takeBehind(t, rest+body)
			switch {
			case !right || c.length > impl.MaxBody:
				if got.code != impl.MessageLength {
					t.Errorf("behind %q: %d", rest, got.code)
				}
			case n < c.length:
				if got.code != impl.MessageShort {
					t.Errorf("behind %q and %d bytes: %d", rest, n, got.code)
				}
			default:
				if got.code != impl.MessageOk || got.body != body[:c.length] || got.size != len(askLine+rest)+c.length || !slices.Equal(got.fields, l) {
					t.Errorf("behind %q and %d bytes: %+v", rest, n, got)
				}
			}
		}
	}
	if n, ok := impl.LengthOf([]impl.Field{}); n != 0 || !ok {
		t.Error("of no fields", n, ok)
	}
}

// In bytes the Value may have more blanks than within a field.
func TestLengthsWithBlanks(t *testing.T) {
	for _, value := range []string{"2", " 2", "2 ", "   2   ", " 2 , 2 ", " 2,02 "} {
		if got := takeBehind(t, "\r\ncontent-length:"+value+"\r\n\r\nhi!"); got.code != impl.MessageOk || got.body != "hi" {
			t.Errorf("%q: %+v", value, got)
		}
	}
	for _, value := range []string{"", " ", "   ", " ,", " - 2", "+ 2", "2 2"} {
		wantCode(t, "\r\ncontent-length:"+value+"\r\n\r\nhi!", impl.MessageLength)
	}
	wantCode(t, "\r\ncontent-length:\t2\r\n\r\nhi!", impl.MessageField)
	wantCode(t, "\r\ncontent-length: 2\t\r\n\r\nhi!", impl.MessageField)
	wantCode(t, "\r\ncontent-length : 2\r\n\r\nhi!", impl.MessageField)
}

func TestEachByteInALength(t *testing.T) {
	for n := range 256 {
		s := string([]byte{byte(n)})
		for _, value := range []string{s, "1" + s, s + "1", "1" + s + "1"} {
			m, ok := impl.LengthOf([]impl.Field{field("content-length", value)})
			want, err := strconv.Atoi(value)
			switch {
			case n == ',' && value != ",":
				if m != 1 || !ok {
					t.Errorf("LengthOf with %q = %d, %v", value, m, ok)
				}
			case n < '0' || n > '9':
				if m != 0 || ok {
					t.Errorf("LengthOf with %q = %d, %v", value, m, ok)
				}
			case m != want || !ok || err != nil:
				t.Errorf("LengthOf with %q = %d, %v", value, m, ok)
			}
		}
	}
}

func TestBodyAndLengthBelongTogether(t *testing.T) {
	for _, l := range [][]impl.Field{nil, {field("a", "b")}, {field("length", "2")}} {
		if !goodBoth(t, l, "") {
			t.Error("no length and no body", l)
		}
		for _, body := range []string{"x", "hi", "\x00", strings.Repeat("b", 300), strings.Repeat("b", 301)} {
			if goodBoth(t, l, body) {
				t.Error("a body with no length", l, body)
			}
		}
	}
	// A length told twice the same, with a body that is another.
	for _, body := range []string{"", "h", "hi!", "hi\x00"} {
		if goodBoth(t, []impl.Field{field("content-length", "2"), field("content-length", "2")}, body) {
			t.Errorf("a length of 2 and %q", body)
		}
	}
	// Nothing of what stands behind a message without a length is its body.
	if got := takeBehind(t, "\r\nA: b\r\n\r\nbody"); got.code != impl.MessageOk || got.body != "" || got.size != len(askLine)+10 {
		t.Errorf("a body with no length: %+v", got)
	}
}

func TestBodyLimit(t *testing.T) {
	for n := 290; n < 310; n++ {
		body, length := strings.Repeat("\xff", n), field("content-length", strconv.Itoa(n))
		if goodBoth(t, []impl.Field{length}, body) != (n <= 300) {
			t.Error("a body of", n)
		}
		got := takeBehind(t, "\r\ncontent-length: "+strconv.Itoa(n)+"\r\n\r\n"+body+"x")
		if n <= 300 && (got.code != impl.MessageOk || got.body != body) || n > 300 && got.code != impl.MessageLength {
			t.Errorf("a body of %d: %+v", n, got)
		}
	}
	if goodBoth(t, []impl.Field{field("content-length", "100000")}, strings.Repeat("b", 100000)) {
		t.Error("a body of 100000")
	}
}

func TestTransferEncodingIsNotTaken(t *testing.T) {
	for _, name := range []string{"transfer-encoding", "Transfer-Encoding", "TRANSFER-ENCODING"} {
		for _, value := range []string{"chunked", "identity", "", "0"} {
			f := field(name, value)
			for _, l := range [][]impl.Field{{f}, {field("a", "b"), f}, {f, field("content-length", "2")}, {field("content-length", "2"), f}, {f, f}} {
				for _, body := range []string{"", "hi"} {
					if goodBoth(t, l, body) {
						t.Errorf("fields %q and body %q are good", l, body)
					}
					rest := "\r\n"
					for _, f := range l {
						rest += f.Name + ":" + f.Value + "\r\n"
					}
					wantCode(t, rest+"\r\n"+body, impl.MessageField)
				}
			}
			if n, ok := impl.LengthOf([]impl.Field{f, field("content-length", "2")}); n != 2 || !ok {
				t.Error("LengthOf beside a transfer-encoding", n, ok)
			}
		}
	}
	for _, name := range []string{"transfer-encodin", "transfer-encodings", "transfer_encoding", "xtransfer-encoding", "te", "content-encoding"} {
		if !goodBoth(t, []impl.Field{field(name, "chunked")}, "") {
			t.Errorf("a field %q is refused", name)
		}
		wantCode(t, "\r\n"+name+":chunked\r\n\r\n", impl.MessageOk)
	}
}

func TestBlanksAroundAValue(t *testing.T) {
	for _, value := range []string{"b", "b c", "b  c", ":", "::", "b:c", ",", "\"", "~", "!", ""} {
		for _, ahead := range []string{"", " ", "  ", strings.Repeat(" ", 1000)} {
			for _, behind := range []string{"", " ", "  ", strings.Repeat(" ", 900)} {
				rest := "\r\nA:" + ahead + value + behind + "\r\nz:z\r\n\r\n"
				got := takeBehind(t, rest+"x")
				if got.code != impl.MessageOk || got.size != len(askLine+rest) || !slices.Equal(got.fields, []impl.Field{field("A", value), field("z", "z")}) {
					t.Errorf("behind %q: %+v", rest, got)
				}
			}
		}
	}
}

func TestLinesThatAreNoFields(t *testing.T) {
	bad := []string{
		"A : b", "A  :b", " A: b", "  A: b", " A : b", "\tA: b", "A\t: b", ": b", ":", ":b", " : b", " :", "::", "A", "A b", "Ab", " ", "  ", " folded", "A;b", "A=b", "A b: c", "A,b: c", "\"A\": b", "(A): b", "A/b: c", "A@: b", "[A]: b",
		"A:\tb", "A: b\t", "A: b\tc", "A: \x00", "A: b\x1fc", "A: \x7f", "A: \x80", "A: \xff", "A: ä", "Ä: b", "A\x00: b", "\xff: b", "A\x7f: b",
		strings.Repeat("n", 61) + ": b", "A: " + strings.Repeat("v", 301), "A:" + strings.Repeat("v", 301), "A: v" + strings.Repeat(" ", 299) + "v",
		"\r", "A: b\r", "\rA: b", "A: b\rc", "A\r: b", "A: \r", "A: b\r\rB: c", "\n", "A: b\n", "\nA: b", "A: b\nB: c", "A\n: b", "A: \n", "A: b\n\nB: c", "A: b\n\rB: c",
	}
	for _, line := range bad {
		for _, l := range [][]string{{line}, {"a: b", line}, {line, "a: b"}, {"a: b", line, "c: d"}} {
			wantCode(t, "\r\n"+lines(l...)+"\r\n\r\n", impl.MessageField)
		}
	}
	long := []impl.Field{field(strings.Repeat("n", 60), strings.Repeat("v", 300)), field("n", "v"+strings.Repeat(" ", 298)+"v"), field("!#$%&'*+-.^_|~`09", "!\"\\~")}
	rest := "\r\n"
	for _, f := range long {
		rest += f.Name + ":  " + f.Value + "   \r\n"
	}
	if got := takeBehind(t, rest+"\r\n"); got.code != impl.MessageOk || !slices.Equal(got.fields, long) {
		t.Errorf("long fields: %+v", got)
	}
}

func TestEachByteInAFieldsLine(t *testing.T) {
	for n := range 256 {
		s := string([]byte{byte(n)})
		code := func(good bool) int {
			if good {
				return impl.MessageOk
			}
			return impl.MessageField
		}
		token, plain := strings.Contains(tokenBytes, s), n >= 32 && n <= 126
		wantCode(t, "\r\n"+s+":b\r\n\r\n", code(token))
		wantCode(t, "\r\na"+s+"a:b\r\n\r\n", code(token || n == ':'))
		wantCode(t, "\r\na"+s+":b\r\n\r\n", code(token || n == ':'))
		wantCode(t, "\r\na:"+s+"\r\n\r\n", code(plain))
		wantCode(t, "\r\na:b"+s+"\r\n\r\n", code(plain))
		wantCode(t, "\r\na:b"+s+"b\r\n\r\n", code(plain))
	}
}

func TestFortyFieldsInAMessageAndOneMore(t *testing.T) {
	for n, code := range map[int]int{0: impl.MessageOk, 1: impl.MessageOk, 39: impl.MessageOk, 40: impl.MessageOk, 41: impl.MessageField, 42: impl.MessageField, 200: impl.MessageField} {
		l := manyFields(n)
		if goodBoth(t, l, "") != (code == impl.MessageOk) {
			t.Error(n, "fields")
		}
		rest := "\r\n"
		for _, f := range l {
			rest += f.Name + ":" + f.Value + "\r\n"
		}
		got := takeBehind(t, rest+"\r\n")
		if n < 200 && got.code != code || got.code == impl.MessageOk && !slices.Equal(got.fields, l) {
			t.Error(n, "fields", got)
		}
	}
	wantCode(t, strings.Repeat("\r\na:b", 40)+"\r\n\r\n", impl.MessageOk)
	wantCode(t, strings.Repeat("\r\na:b", 41)+"\r\n\r\n", impl.MessageField)
	wantCode(t, strings.Repeat("\r\na:", 490)+"\r\n\r\n", impl.MessageField)
}

func TestBadFieldsInAMessage(t *testing.T) {
	for _, bad := range badFields() {
		for _, l := range [][]impl.Field{{bad}, {field("a", "b"), bad}, {bad, field("content-length", "0")}} {
			if goodBoth(t, l, "") {
				t.Errorf("fields %q are good", l)
			}
			if n, ok := impl.LengthOf(l); n != 0 || ok {
				t.Errorf("LengthOf(%q) = %d, %v", l, n, ok)
			}
		}
	}
	if n, ok := impl.LengthOf(append(manyFields(40), field("content-length", "2"))); n != 0 || ok {
		t.Error("LengthOf of 41 fields", n, ok)
	}
	if n, ok := impl.LengthOf(append(manyFields(39), field("content-length", "2"))); n != 2 || !ok {
		t.Error("LengthOf of 40 fields", n, ok)
	}
	if n, ok := impl.LengthOf(manyFields(40)); n != 0 || !ok {
		t.Error("LengthOf of 40 fields without one", n, ok)
	}
}

// A byte 10 or 13 alone is no line end, and does not make a head's end.
func TestLineEndsOfOneByte(t *testing.T) {
	for _, first := range []string{askLine, answerLine} {
		take := takeRequest
		if first == answerLine {
			take = takeResponse
		}
		for s, code := range map[string]int{
			"\n\n": impl.MessageShort, "\r\r": impl.MessageShort, "\r\n\n": impl.MessageShort, "\n\r\n": impl.MessageShort, "\r\n\r": impl.MessageShort, "\n\r": impl.MessageShort, "\r\r\n": impl.MessageShort, "\n\nA: b\n\n": impl.MessageShort, "\nA: b\n\n": impl.MessageShort, "\r\n\n\r\n": impl.MessageShort, "\r\n\r\r\n": impl.MessageShort,
			"\r\nA: b\n\n": impl.MessageShort, "\r\nA: b\r\n\n": impl.MessageShort, "\r\nA: b\r\n\r": impl.MessageShort, "\r\nA: b\n\r\n": impl.MessageShort, "\n\r\n\r": impl.MessageShort,
			"\n\r\n\r\n": impl.MessageLine, "\r\r\n\r\n": impl.MessageLine, "\nA: b\r\n\r\n": impl.MessageLine, "\rA: b\r\n\r\n": impl.MessageLine, "\n\nA: b\r\n\r\n": impl.MessageLine,
			"\r\nA: b\nB: c\r\n\r\n": impl.MessageField, "\r\nA: b\rB: c\r\n\r\n": impl.MessageField, "\r\nA: b\n\r\n\r\n": impl.MessageField, "\r\nA: b\r\r\n\r\n": impl.MessageField, "\r\n\nA: b\r\n\r\n": impl.MessageField, "\r\n\rA: b\r\n\r\n": impl.MessageField,
			"\r\n\r\n": impl.MessageOk, "\r\nA: b\r\n\r\n": impl.MessageOk, "\r\n\r\n\n": impl.MessageOk,
		} {
			if got := take(t, first+s); got.code != code {
				t.Errorf("%q: %d, not %d", first+s, got.code, code)
			}
			if got := take(t, "\r\n"+first+s); got.code == impl.MessageOk {
				t.Errorf("%q is taken behind a line end", first+s)
			}
		}
		for _, ahead := range []string{"\r\n", "\n", "\r", " ", "\r\n\r\n"} {
			if got := take(t, ahead+first+"\r\n\r\n"); got.code != impl.MessageLine {
				t.Errorf("%q behind %q: %d", first, ahead, got.code)
			}
		}
	}
	for _, s := range []string{"\r\n\r\n", "\r\n\r\n\r\n", "\r\n\r\n" + askLine + "\r\n\r\n"} {
		if takeRequest(t, s).code != impl.MessageLine || takeResponse(t, s).code != impl.MessageLine {
			t.Errorf("%q has a first line", s)
		}
	}
}

// headOf has just so many bytes behind the first line, with its end; told
// again it has as many.
func headOf(n int) string {
	rest := "\r\n"
	for left := n - len("\r\n\r\n"); left > 0; {
		line := min(left, 300)
		if left-line > 0 && left-line < 10 {
			line -= 10
		}
		rest += "n: " + strings.Repeat("v", line-len("n: \r\n")) + "\r\n"
		left -= line
	}
	return rest + "\r\n"
}

func TestHeadLimit(t *testing.T) {
	for _, n := range []int{1998, 1999, 2000, 2001, 2002, 2100, 2500, 10000} {
		rest := headOf(n - len(askLine))
		if len(askLine+rest) != n {
			t.Fatal("the test's head has", len(askLine+rest))
		}
		code := impl.MessageOk
		if n > 2000 {
			code = impl.MessageLong
		}
		l := []impl.Field{}
		for _, line := range strings.Split(rest, "\r\n") {
			if name, value, ok := strings.Cut(line, ": "); ok {
				l = append(l, field(name, value))
			}
		}
		if goodBoth(t, l, "") != (n <= 2000) {
			t.Error("a head of", n, "told")
		}
		for _, behind := range []string{"", "x", strings.Repeat("x", 5000), rest} {
			if got := takeBehind(t, rest+behind); got.code != code || code == impl.MessageOk && (got.size != n || !slices.Equal(got.fields, l)) {
				t.Errorf("a head of %d: %+v", n, got)
			}
		}
		// Cut ahead of its end it goes on, or is too long by what is there.
		for at := n - 8; at < n; at++ {
			cut := (askLine + rest)[len(askLine):at]
			code := impl.MessageShort
			if at > 2000 {
				code = impl.MessageLong
			}
			wantCode(t, cut, code)
		}
	}
	// A head with an end, but only where it is too long.
	for n, code := range map[int]int{1990: impl.MessageShort, 1999: impl.MessageShort, 2000: impl.MessageShort, 2001: impl.MessageLong, 2002: impl.MessageLong, 100000: impl.MessageLong} {
		for _, part := range []string{"x", " ", "\r", "\n", "\x00", ":", "\r\na"} {
			s := strings.Repeat(part, n)[:n]
			if takeRequest(t, s).code != code || takeResponse(t, s).code != code {
				t.Errorf("%d bytes of %q: %d, %d", n, part, takeRequest(t, s).code, takeResponse(t, s).code)
			}
		}
	}
	// The body is not of the head.
	length := "\r\ncontent-length: 300"
	if got := takeBehind(t, length+headOf(2000-len(askLine+length))+strings.Repeat("b", 300)); got.code != impl.MessageOk || got.size != 2300 || len(got.body) != 300 {
		t.Errorf("a head of 2000 and a body of 300: %+v", got)
	}
}

// Told by RequestBytes each field has a blank that it needs not have had.
func TestHeadsThatGrowWhenToldAgain(t *testing.T) {
	l := slices.Repeat([]impl.Field{field("n", strings.Repeat("v", 40))}, 40)
	for ; len(l) > 30; l = l[:len(l)-1] {
		told := len(askLine) + 4
		rest := "\r\n"
		for _, f := range l {
			rest += f.Name + ":" + f.Value + "\r\n"
			told += len(f.Name) + len(f.Value) + 4
		}
		for pad := range 281 {
			longer := slices.Clone(l)
			longer[0].Value = strings.Repeat("v", 20+pad)
			told, rest := told-20+pad, strings.Replace(rest, strings.Repeat("v", 40), longer[0].Value, 1)+"\r\n"
			code := impl.MessageOk
			if told > 2000 {
				code = impl.MessageLong
			}
			if got := takeBehind(t, rest); got.code != code || code == impl.MessageOk && got.size != len(askLine+rest) {
				t.Fatalf("%d fields, %d bytes, %d told again: %+v", len(l), len(askLine+rest), told, got)
			}
			if goodBoth(t, longer, "") != (told <= 2000) {
				t.Fatalf("%d fields, %d bytes told", len(l), told)
			}
		}
	}
	// Blanks that go shorten it, but too many of them are too many.
	for n, code := range map[int]int{1999: impl.MessageOk, 2000: impl.MessageOk, 2001: impl.MessageLong} {
		wantCode(t, "\r\na:"+strings.Repeat(" ", n-len(askLine+"\r\na:\r\n\r\n"))+"\r\n\r\n", code)
	}
}

func TestFirstLinesOfRequests(t *testing.T) {
	token10, target := "ABCDEFGHIJ", strings.Repeat("t", 200)
	for _, r := range []impl.Request{
		{Method: token10, Target: "/"}, {Method: "a", Target: "/"}, {Method: "!#$%&'*+-.", Target: "/"}, {Method: "^_|~`09az", Target: "/"},
		{Method: "GET", Target: target}, {Method: "GET", Target: target[1:]}, {Method: token10, Target: target}, {Method: "GET", Target: "!"}, {Method: "GET", Target: "~"}, {Method: "GET", Target: "no/address:\"<>\\^{}"},
	} {
		s := r.Method + " " + r.Target + " HTTP/1.1\r\n\r\n"
		if back, size, code := impl.TakeRequest(s); code != impl.MessageOk || size != len(s) || !sameRequest(back, r) {
			t.Errorf("TakeRequest(%q) = %+v, %d, %d", s, back, size, code)
		}
		if told, ok := impl.RequestBytes(r); !ok || told != s || !impl.GoodRequest(r) {
			t.Errorf("RequestBytes(%+v) = %q, %v", r, told, ok)
		}
	}
	for _, line := range []string{
		"", " ", "  ", "   ", "GET", "GET ", "GET /", "GET / ", "GET HTTP/1.1", "/ HTTP/1.1", " / HTTP/1.1", "GET  HTTP/1.1", "  HTTP/1.1", "HTTP/1.1", "HTTP/1.1 200 OK", "GET/ HTTP/1.1", "GET /HTTP/1.1",
		"GET  / HTTP/1.1", "GET /  HTTP/1.1", " GET / HTTP/1.1", "GET / HTTP/1.1 ", "GET / HTTP/1.1 x", "GET / a HTTP/1.1", "GET /\tHTTP/1.1", "GET\t/ HTTP/1.1", "GET /a b HTTP/1.1",
		"GET / HTTP/1.0", "GET / HTTP/1.2", "GET / HTTP/2", "GET / HTTP/2.0", "GET / HTTP/1", "GET / HTTP/1.", "GET / HTTP/1.10", "GET / HTTP/1.11", "GET / HTTP/01.1", "GET / HTTP/11", "GET / http/1.1", "GET / Http/1.1", "GET / HTTP 1.1", "GET / HTTP", "GET / HTTP/", "GET / 1.1", "GET / XHTTP/1.1", "GET / HTTPS/1.1", "GET / HTTP/1,1",
		token10 + "K / HTTP/1.1", strings.Repeat("a", 61) + " / HTTP/1.1", "G(T / HTTP/1.1", "G/T / HTTP/1.1", "G:T / HTTP/1.1", "\"GET\" / HTTP/1.1", "G\x00T / HTTP/1.1", "G\x7fT / HTTP/1.1", "G\x80T / HTTP/1.1", "GÄT / HTTP/1.1", "G,T / HTTP/1.1",
		"GET " + target + "t HTTP/1.1", "GET " + strings.Repeat("t", 1900) + " HTTP/1.1", "GET /\x00 HTTP/1.1", "GET /\x1f HTTP/1.1", "GET /\x7f HTTP/1.1", "GET /\x80 HTTP/1.1", "GET /\xff HTTP/1.1", "GET /ä HTTP/1.1", "GET /\r HTTP/1.1", "GET /\n HTTP/1.1", "GET / HTTP/1.1\r", "GET / HTTP/1.1\n",
	} {
		for _, rest := range []string{"\r\n\r\n", "\r\nA: b\r\n\r\n", "\r\ncontent-length: 2\r\n\r\nhi"} {
			if got := takeRequest(t, line+rest); got.code != impl.MessageLine {
				t.Errorf("TakeRequest(%q) = %d", line+rest, got.code)
			}
		}
	}
}

func TestBadRequests(t *testing.T) {
	for _, method := range append(badTokens(), "ABCDEFGHIJK", strings.Repeat("a", 60)) {
		checkRequestRefused(t, impl.Request{Method: method, Target: "/"})
	}
	for _, target := range []string{"", " ", "/ ", " /", "/a b", "/\t", "/\x00", "/\x1f", "/\x7f", "/\x80", "/\xff", "/ä", "/\r\n", strings.Repeat("t", 201), strings.Repeat("t", 100000)} {
		checkRequestRefused(t, impl.Request{Method: "GET", Target: target})
	}
	checkRequestRefused(t, impl.Request{})
}

func checkRequestRefused(t *testing.T, r impl.Request) {
	t.Helper()
	// With a body and with just one host, so that nothing else is wrong.
	r.Fields, r.Body = []impl.Field{field("host", "h"), field("content-length", "2")}, "hi"
	if impl.GoodRequest(r) {
		t.Errorf("GoodRequest(%+v)", r)
	}
	if s, ok := impl.RequestBytes(r); ok || s != "" {
		t.Errorf("RequestBytes(%+v) = %q, %v", r, s, ok)
	}
	if h, ok := impl.HostOf(r); ok || h != "" {
		t.Errorf("HostOf(%+v) = %q, %v", r, h, ok)
	}
}

func TestFirstLinesOfResponses(t *testing.T) {
	reason := strings.Repeat("r", 40)
	responses := []impl.Response{{Status: 200, Reason: ""}, {Status: 200, Reason: reason}, {Status: 200, Reason: reason[1:]}, {Status: 200, Reason: strings.Repeat(" ", 40)}, {Status: 200, Reason: " x "}, {Status: 200, Reason: "!~\"\\:"}, {Status: 200, Reason: "200"}}
	for status := 100; status <= 599; status++ {
		responses = append(responses, impl.Response{Status: status, Reason: "R"})
	}
	for _, r := range responses {
		s := "HTTP/1.1 " + strconv.Itoa(r.Status) + " " + r.Reason + "\r\n\r\n"
		if back, size, code := impl.TakeResponse(s); code != impl.MessageOk || size != len(s) || !sameResponse(back, r) {
			t.Errorf("TakeResponse(%q) = %+v, %d, %d", s, back, size, code)
		}
		if told, ok := impl.ResponseBytes(r); !ok || told != s || !impl.GoodResponse(r) {
			t.Errorf("ResponseBytes(%+v) = %q, %v", r, told, ok)
		}
	}
	for _, line := range []string{
		"", " ", "HTTP/1.1", "HTTP/1.1 ", "HTTP/1.1 200", "HTTP/1.1  ", "HTTP/1.1  OK", "HTTP/1.1 OK", "HTTP/1.1 OK 200", "200 OK", " 200 OK", "GET / HTTP/1.1",
		"HTTP/1.1  200 OK", " HTTP/1.1 200 OK", "HTTP/1.1200 OK", "HTTP/1.1\t200 OK", "HTTP/1.1 200\tOK", "HTTP/1.1 200OK", "HTTP/1.1 200,OK",
		"HTTP/1.0 200 OK", "HTTP/1.2 200 OK", "HTTP/2 200 OK", "HTTP/2.0 200 OK", "http/1.1 200 OK", "HTTP/1 200 OK", "HTTP/1.10 200 OK", "HTTPS/1.1 200 OK", "XHTTP/1.1 200 OK", "HTTP 200 OK",
		"HTTP/1.1 99 OK", "HTTP/1.1 099 OK", "HTTP/1.1 600 OK", "HTTP/1.1 999 OK", "HTTP/1.1 000 OK", "HTTP/1.1 0 OK", "HTTP/1.1 2 OK", "HTTP/1.1 20 OK", "HTTP/1.1 2000 OK", "HTTP/1.1 1000 OK", "HTTP/1.1 0200 OK", "HTTP/1.1 00200 OK", "HTTP/1.1 -200 OK", "HTTP/1.1 +200 OK", "HTTP/1.1 +20 OK", "HTTP/1.1 -20 OK", "HTTP/1.1 2x0 OK", "HTTP/1.1 x00 OK", "HTTP/1.1 20x OK", "HTTP/1.1 20. OK", "HTTP/1.1 2:0 OK", "HTTP/1.1 2/0 OK", "HTTP/1.1 18446744073709551816 OK",
		"HTTP/1.1 200 " + reason + "r", "HTTP/1.1 200 " + strings.Repeat(" ", 41), "HTTP/1.1 200 " + strings.Repeat("r", 1900), "HTTP/1.1 200 \x00", "HTTP/1.1 200 a\tb", "HTTP/1.1 200 \x1f", "HTTP/1.1 200 \x7f", "HTTP/1.1 200 \x80", "HTTP/1.1 200 \xff", "HTTP/1.1 200 ä", "HTTP/1.1 200 OK\r", "HTTP/1.1 200 OK\n", "HTTP/1.1 200 O\rK", "HTTP/1.1 200 O\nK",
	} {
		for _, rest := range []string{"\r\n\r\n", "\r\nA: b\r\n\r\n", "\r\ncontent-length: 2\r\n\r\nhi"} {
			if got := takeResponse(t, line+rest); got.code != impl.MessageLine {
				t.Errorf("TakeResponse(%q) = %d", line+rest, got.code)
			}
		}
	}
}

// badResponses are such in their first line.
func badResponses() []impl.Response {
	bad := []impl.Response{{}, {Reason: "OK"}}
	for _, status := range []int{-1 << 63, -200, -1, 0, 1, 20, 99, 600, 601, 999, 1000, 2000, 1<<32 + 200, 1<<63 - 1} {
		bad = append(bad, impl.Response{Status: status, Reason: "OK"})
	}
	for _, reason := range []string{strings.Repeat("r", 41), strings.Repeat("r", 100000), "\x00", "\x1f", "\x7f", "\x80", "\xff", "a\tb", "ä", "\r", "\n", "a\r\nb: c", strings.Repeat("r", 40) + "\r"} {
		bad = append(bad, impl.Response{Status: 200, Reason: reason})
	}
	return bad
}

func TestBadResponses(t *testing.T) {
	for _, r := range badResponses() {
		r.Fields, r.Body = []impl.Field{field("content-length", "2")}, "hi"
		if impl.GoodResponse(r) {
			t.Errorf("GoodResponse(%+v)", r)
		}
		if s, ok := impl.ResponseBytes(r); ok || s != "" {
			t.Errorf("ResponseBytes(%+v) = %q, %v", r, s, ok)
		}
	}
}

func TestEachByteInAFirstLine(t *testing.T) {
	code := func(good bool) int {
		if good {
			return impl.MessageOk
		}
		return impl.MessageLine
	}
	for n := range 256 {
		s := string([]byte{byte(n)})
		token, target, plain := strings.Contains(tokenBytes, s), n >= 33 && n <= 126, n >= 32 && n <= 126
		for line, want := range map[string]int{
			s + " / HTTP/1.1": code(token), "G" + s + "T / HTTP/1.1": code(token), "GET " + s + " HTTP/1.1": code(target), "GET /" + s + "a HTTP/1.1": code(target), "GET" + s + "/ HTTP/1.1": code(n == ' '), "GET /" + s + "HTTP/1.1": code(n == ' '), "GET / HTTP" + s + "1.1": code(n == '/'), "GET / HTTP/1" + s + "1": code(n == '.'), "GET / HTTP/" + s + ".1": code(n == '1'), "GET / HTTP/1.1" + s: code(false),
		} {
			if got := takeRequest(t, line+"\r\n\r\n"); got.code != want {
				t.Errorf("TakeRequest with %q: %d", line, got.code)
			}
		}
		digit := n >= '0' && n <= '9'
		for line, want := range map[string]int{
			"HTTP/1.1 " + s + "00 OK": code(n >= '1' && n <= '5'), "HTTP/1.1 2" + s + "0 OK": code(digit), "HTTP/1.1 20" + s + " OK": code(digit), "HTTP/1.1 200" + s + "OK": code(n == ' '), "HTTP/1.1" + s + "200 OK": code(n == ' '), "HTTP/1.1 200 " + s: code(plain), "HTTP/1.1 200 O" + s + "K": code(plain), "HTTP/1.1 200" + s: code(n == ' '),
		} {
			if got := takeResponse(t, line+"\r\n\r\n"); got.code != want {
				t.Errorf("TakeResponse with %q: %d", line, got.code)
			}
		}
		if good := impl.GoodRequest(impl.Request{Method: s, Target: "/"}); good != token {
			t.Errorf("byte %d in a method: %v", n, good)
		}
		if good := impl.GoodRequest(impl.Request{Method: "GET", Target: "/" + s}); good != target {
			t.Errorf("byte %d in a target: %v", n, good)
		}
		if good := impl.GoodResponse(impl.Response{Status: 200, Reason: s}); good != plain {
			t.Errorf("byte %d in a reason: %v", n, good)
		}
	}
}

// Two faults in one message: the one that is looked for first is told.
func TestWhichFaultIsToldOfTwo(t *testing.T) {
	badLine := "GET /"
	longHead := strings.Repeat("\r\na: "+strings.Repeat("v", 300), 7)
	// Fields without blanks that are too long with them: 40, and 39 where a
	// length stands beside them.
	grows := strings.Repeat("\r\nn:"+strings.Repeat("v", 45), 40)
	growsBeside := strings.Repeat("\r\nn:"+strings.Repeat("v", 46), 39)
	for s, code := range map[string]int{
		// The head is too long, and something else is wrong.
		badLine + longHead + "\r\n\r\n":                              impl.MessageLong,
		badLine + longHead:                                           impl.MessageLong,
		askLine + "\r\nA : b" + longHead + "\r\n\r\n":                impl.MessageLong,
		askLine + "\r\ncontent-length: x" + longHead + "\r\n\r\n":    impl.MessageLong,
		askLine + "\r\ncontent-length: 2" + longHead + "\r\n\r\n":    impl.MessageLong,
		askLine + strings.Repeat("\r\na:b", 500) + "\r\n\r\n":        impl.MessageLong,
		askLine + longHead + "\r\ntransfer-encoding: x" + "\r\n\r\n": impl.MessageLong,
		strings.Repeat("x", 1997) + "\r\n\r\n":                       impl.MessageLong,
		// The head has no end, and something else is wrong.
		badLine + "\r\n":                                 impl.MessageShort,
		badLine + "\r\nA : b\r\n":                        impl.MessageShort,
		askLine + "\r\nA : b\r\n":                        impl.MessageShort,
		askLine + "\r\ncontent-length: x\r\n":            impl.MessageShort,
		askLine + "\r\ntransfer-encoding: x\r\n":         impl.MessageShort,
		askLine + strings.Repeat("\r\na:b", 41) + "\r\n": impl.MessageShort,
		"\x00\xff": impl.MessageShort,
		"\r\n":     impl.MessageShort,
		// The first line is not right, and something behind it.
		badLine + "\r\nA : b\r\n\r\n":                        impl.MessageLine,
		badLine + "\r\nA\r\n\r\n":                            impl.MessageLine,
		"GET /\x7f HTTP/1.1\r\nA\r\n\r\n":                    impl.MessageLine,
		"ABCDEFGHIJK / HTTP/1.1\r\nA\r\n\r\n":                impl.MessageLine,
		badLine + "\r\ntransfer-encoding: x\r\n\r\n":         impl.MessageLine,
		badLine + strings.Repeat("\r\na:b", 41) + "\r\n\r\n": impl.MessageLine,
		badLine + "\r\ncontent-length: x\r\n\r\n":            impl.MessageLine,
		badLine + "\r\ncontent-length: 301\r\n\r\n":          impl.MessageLine,
		badLine + "\r\ncontent-length: 2\r\n\r\nh":           impl.MessageLine,
		badLine + grows + "\r\n\r\n":                         impl.MessageLine,
		// A line is no field, and something else is wrong.
		askLine + "\r\nA : b\r\ncontent-length: x\r\n\r\n":                             impl.MessageField,
		askLine + "\r\ncontent-length: x\r\nA : b\r\n\r\n":                             impl.MessageField,
		askLine + "\r\ncontent-length: x\r\nA\r\n\r\n":                                 impl.MessageField,
		askLine + "\r\ncontent-length: x\r\ntransfer-encoding: x\r\n\r\n":              impl.MessageField,
		askLine + "\r\ntransfer-encoding: x\r\ncontent-length: 301\r\n\r\n":            impl.MessageField,
		askLine + "\r\ncontent-length: 2\r\nA : b\r\n\r\nh":                            impl.MessageField,
		askLine + "\r\ncontent-length: 2\r\ntransfer-encoding: x\r\n\r\n":              impl.MessageField,
		askLine + "\r\ncontent-length: x" + strings.Repeat("\r\na:b", 40) + "\r\n\r\n": impl.MessageField,
		askLine + "\r\na:b" + grows + "\r\n\r\n":                                       impl.MessageField,
		// The length is not right, and the body is not there, or the head grows.
		askLine + "\r\ncontent-length: 301\r\n\r\n":                    impl.MessageLength,
		askLine + "\r\ncontent-length: 2, 3\r\n\r\n":                   impl.MessageLength,
		askLine + "\r\ncontent-length: 301" + growsBeside + "\r\n\r\n": impl.MessageLength,
		// The body is not there, and the head grows.
		askLine + "\r\ncontent-length:2" + growsBeside + "\r\n\r\n":   impl.MessageShort,
		askLine + "\r\ncontent-length:2" + growsBeside + "\r\n\r\nh":  impl.MessageShort,
		askLine + "\r\ncontent-length:2" + growsBeside + "\r\n\r\nhi": impl.MessageLong,
		askLine + grows + "\r\n\r\n":                                  impl.MessageLong,
	} {
		if got := takeRequest(t, s); got.code != code {
			t.Errorf("TakeRequest(%q) = %d, not %d", s, got.code, code)
		}
		if strings.HasPrefix(s, "ABCD") || strings.HasPrefix(s, "GET /\x7f") {
			continue
		}
		answer := strings.Replace(strings.Replace(s, askLine, answerLine, 1), badLine, "HTTP/1.1 99 ", 1)
		if got := takeResponse(t, answer); got.code != code {
			t.Errorf("TakeResponse(%q) = %d, not %d", answer, got.code, code)
		}
	}
}

func TestHostOf(t *testing.T) {
	for _, c := range []struct {
		l    []impl.Field
		want string
		ok   bool
	}{
		{nil, "", false},
		{[]impl.Field{field("a", "h")}, "", false},
		{[]impl.Field{field("host", "h")}, "h", true},
		{[]impl.Field{field("Host", "h:80")}, "h:80", true},
		{[]impl.Field{field("a", "1"), field("HOST", "any value, any"), field("hos", "x"), field("hosts", "y")}, "any value, any", true},
		{[]impl.Field{field("host", "")}, "", true},
		{[]impl.Field{field("host", "h"), field("host", "h")}, "", false},
		{[]impl.Field{field("host", "h"), field("a", "1"), field("Host", "k")}, "", false},
		{[]impl.Field{field("host", "h"), field("Host", "")}, "", false},
		{[]impl.Field{field("host", "h"), field("host", "h"), field("host", "h")}, "", false},
		// The request is not good.
		{[]impl.Field{field("host", "h"), field("a b", "1")}, "", false},
		{[]impl.Field{field("host", " h")}, "", false},
		{[]impl.Field{field("host", "h"), field("content-length", "2")}, "", false},
		{[]impl.Field{field("host", "h"), field("transfer-encoding", "x")}, "", false},
		{append(manyFields(40), field("host", "h")), "", false},
		{append(manyFields(39), field("host", "h")), "h", true},
	} {
		if h, ok := impl.HostOf(requestOf("", c.l...)); h != c.want || ok != c.ok {
			t.Errorf("HostOf with %q = %q, %v", c.l, h, ok)
		}
	}
	if h, ok := impl.HostOf(requestOf("hi", field("host", "h"))); ok || h != "" {
		t.Error("HostOf with a body without a length", h, ok)
	}
	if h, ok := impl.HostOf(requestOf("hi", field("host", "h"), field("content-length", "2"))); !ok || h != "h" {
		t.Error("HostOf with a body", h, ok)
	}
}

// A second reading of messages, by the forms of their lines.

const tokenForm = "[-A-Za-z0-9!#$%&'*+.^_|~`]"

var askForm = regexp.MustCompile("^(" + tokenForm + "{1,10}) ([!-~]{1,200}) HTTP/1\\.1$")
var answerForm = regexp.MustCompile("^HTTP/1\\.1 ([1-5][0-9][0-9]) ([ -~]{0,40})$")
var fieldForm = regexp.MustCompile("^(" + tokenForm + "{1,60}): *((?:[!-~](?:[ -~]{0,298}[!-~])?)?) *$")
var lengthForm = regexp.MustCompile("^[, ]*[0-9]{1,9}( *,[, ]*[0-9]{1,9})*[, ]*$")

// lengthByForm tells -1 where the length is not right.
func lengthByForm(l []impl.Field) int {
	told := []int{}
	for _, f := range l {
		if !strings.EqualFold(f.Name, "content-length") {
			continue
		}
		if !lengthForm.MatchString(f.Value) {
			return -1
		}
		for _, digits := range regexp.MustCompile("[0-9]+").FindAllString(f.Value, -1) {
			n, _ := strconv.Atoi(digits)
			told = append(told, n)
		}
	}
	if len(told) == 0 {
		return 0
	}
	if slices.Min(told) != slices.Max(told) {
		return -1
	}
	return told[0]
}

func takenByForm(s string, first *regexp.Regexp) (taken, []string) {
	head, rest, ended := strings.Cut(s, "\r\n\r\n")
	size := len(head) + 4
	if !ended {
		size -= 4
	}
	if size > 2000 {
		return taken{code: impl.MessageLong}, nil
	}
	if !ended {
		return taken{code: impl.MessageShort}, nil
	}
	all := strings.Split(head, "\r\n")
	words := first.FindStringSubmatch(all[0])
	if words == nil {
		return taken{code: impl.MessageLine}, nil
	}
	told := taken{size: size}
	again := len(all[0]) + 4
	for _, line := range all[1:] {
		parts := fieldForm.FindStringSubmatch(line)
		if parts == nil || strings.EqualFold(parts[1], "transfer-encoding") || len(told.fields) == 40 {
			return taken{code: impl.MessageField}, nil
		}
		told.fields = append(told.fields, field(parts[1], parts[2]))
		again += len(parts[1]) + len(parts[2]) + 4
	}
	length := lengthByForm(told.fields)
	if length < 0 || length > 300 {
		return taken{code: impl.MessageLength}, nil
	}
	if len(rest) < length {
		return taken{code: impl.MessageShort}, nil
	}
	if again > 2000 {
		return taken{code: impl.MessageLong}, nil
	}
	told.body, told.size = rest[:length], size+length
	return told, words[1:]
}

// checkByForm holds both functions against the second reading, and tells what
// is taken again.
func checkByForm(t *testing.T, s string) {
	t.Helper()
	q, size, code := impl.TakeRequest(s)
	want, words := takenByForm(s, askForm)
	if code != want.code || size != want.size || q.Body != want.body || !slices.Equal(q.Fields, want.fields) {
		t.Fatalf("TakeRequest(%q) = %+v, %d, %d, not %+v", s, q, size, code, want)
	}
	if code == impl.MessageOk {
		told, ok := impl.RequestBytes(q)
		back, size, code := impl.TakeRequest(told + s)
		if q.Method != words[0] || q.Target != words[1] || !ok || !impl.GoodRequest(q) || code != impl.MessageOk || size != len(told) || !sameRequest(back, q) {
			t.Fatalf("%q does not come back from %q: %+v, %d, %d", s, told, back, size, code)
		}
	} else if !sameRequest(q, impl.Request{}) {
		t.Fatalf("TakeRequest(%q) = %+v beside %d", s, q, code)
	}
	a, size, code := impl.TakeResponse(s)
	want, words = takenByForm(s, answerForm)
	if code != want.code || size != want.size || a.Body != want.body || !slices.Equal(a.Fields, want.fields) {
		t.Fatalf("TakeResponse(%q) = %+v, %d, %d, not %+v", s, a, size, code, want)
	}
	if code == impl.MessageOk {
		told, ok := impl.ResponseBytes(a)
		back, size, code := impl.TakeResponse(told + s)
		if strconv.Itoa(a.Status) != words[0] || a.Reason != words[1] || !ok || !impl.GoodResponse(a) || code != impl.MessageOk || size != len(told) || !sameResponse(back, a) {
			t.Fatalf("%q does not come back from %q: %+v, %d, %d", s, told, back, size, code)
		}
	} else if !sameResponse(a, impl.Response{}) {
		t.Fatalf("TakeResponse(%q) = %+v beside %d", s, a, code)
	}
}

func TestRandomMessagesByTheirForm(t *testing.T) {
	r := rand.New(rand.NewSource(41))
	firsts := []string{askLine, answerLine, "PUT /a?b HTTP/1.1", "HTTP/1.1 404 ", "HTTP/1.1 304 a b", "GET /", "HTTP/1.1 200", "GET  / HTTP/1.1", "HTTP/1.1 099 x", "GET / HTTP/1.0", ""}
	heads := []string{"\r\n", "\r\nA:b", "\r\na: b c ", "\r\nB:   ", "\r\nHost: h", "\r\nContent-Length: 2", "\r\ncontent-length:2,02", "\r\ncontent-length: 3", "\r\ncontent-length:", "\r\ncontent-length: 300", "\r\ncontent-length: 301", "\r\nA : b", "\r\nA", "\r\n:", "\r\ntransfer-encoding: x", "\n", "\r", "\r\nv:" + strings.Repeat("v", 298), "\r\nw:" + strings.Repeat(" ", 100), strings.Repeat("\r\nx:", 13)}
	bodies := []string{"", "h", "hi", "hi!", "\r\n", "GET", strings.Repeat("b", 299), strings.Repeat("b", 300)}
	codes := map[int]int{}
	for range 60000 {
		s := firsts[min(r.Intn(20), len(firsts)-1)%len(firsts)]
		if r.Intn(3) > 0 {
			s = firsts[r.Intn(5)]
		}
		for range r.Intn(5) {
			n := len(heads)
			if r.Intn(4) > 0 {
				n = 10
			}
			s += heads[r.Intn(n)]
		}
		s += "\r\n\r\n" + bodies[r.Intn(len(bodies))] + bodies[r.Intn(len(bodies))]
		if r.Intn(4) == 0 {
			s = s[:r.Intn(len(s)+1)]
		}
		checkByForm(t, s)
		_, _, code := impl.TakeRequest(s)
		codes[code]++
	}
	for code := range 5 {
		if codes[code] < 500 {
			t.Error("too few with code", code, codes)
		}
	}
}

// Good messages with a byte put in, taken out or put in another's place.
func TestMessagesWithOneByteWrong(t *testing.T) {
	put := []string{"", " ", "\r", "\n", ":", "\r\n", "\x00", "\xff", "0", "2", "a", ","}
	all := []string{"PUT /a HTTP/1.1\r\nHost:h\r\nContent-Length: 2, 2\r\n\r\nhiGET"}
	for s := range toldRequests() {
		all = append(all, s)
	}
	for s := range toldResponses() {
		all = append(all, s)
	}
	for _, s := range all {
		for at := range len(s) + 1 {
			for _, p := range put {
				checkByForm(t, s[:at]+p+s[at:])
				if at < len(s) {
					checkByForm(t, s[:at]+p+s[at+1:])
				}
			}
		}
	}
}

// goodMessage makes fields and a body that belong together.
func goodMessage(r *rand.Rand) ([]impl.Field, string) {
	l := []impl.Field{}
	for range r.Intn(12) {
		name := []byte("name-" + strconv.Itoa(r.Intn(9)))
		name[0] = tokenBytes[r.Intn(len(tokenBytes))]
		value := randomOf(r, []string{"a", " ", ":", ",", "\"", "~", "value", ": ", "\\"}, 12)
		l = append(l, field(string(name), strings.Trim(value, " ")))
	}
	body := make([]byte, r.Intn(40))
	if r.Intn(5) == 0 {
		body = make([]byte, 260+r.Intn(41))
	}
	for i := range body {
		body[i] = byte(r.Intn(256))
	}
	digits := strconv.Itoa(len(body))
	lengths := []string{digits, "0" + digits, digits + ", " + digits, digits + ",00" + digits}
	for range r.Intn(3) + min(len(body), 1) {
		l = slices.Insert(l, r.Intn(len(l)+1), field("Content-Length", lengths[r.Intn(len(lengths))]))
	}
	return l, string(body)
}

func TestGoodMessagesComeBackAndCutOnesAreShort(t *testing.T) {
	r := rand.New(rand.NewSource(42))
	for range 1500 {
		l, body := goodMessage(r)
		q := impl.Request{Method: []string{"GET", "PUT", "a", "ABCDEFGHIJ"}[r.Intn(4)], Target: "/" + strings.Repeat("t", r.Intn(200)), Fields: l, Body: body}
		a := impl.Response{Status: 100 + r.Intn(500), Reason: strings.Repeat("R ", r.Intn(21)), Fields: l, Body: body}
		asked, ok := impl.RequestBytes(q)
		if !ok {
			t.Fatalf("RequestBytes(%+v) tells false", q)
		}
		answered, ok := impl.ResponseBytes(a)
		if !ok {
			t.Fatalf("ResponseBytes(%+v) tells false", a)
		}
		for _, behind := range []string{"", "\r\n", asked, answered, "\xff"} {
			if back, size, code := impl.TakeRequest(asked + behind); code != impl.MessageOk || size != len(asked) || !sameRequest(back, q) {
				t.Fatalf("TakeRequest(%q) = %+v, %d, %d", asked+behind, back, size, code)
			}
			if back, size, code := impl.TakeResponse(answered + behind); code != impl.MessageOk || size != len(answered) || !sameResponse(back, a) {
				t.Fatalf("TakeResponse(%q) = %+v, %d, %d", answered+behind, back, size, code)
			}
		}
		for at := range len(asked) {
			if got := takeRequest(t, asked[:at]); got.code != impl.MessageShort {
				t.Fatalf("TakeRequest(%q) = %d", asked[:at], got.code)
			}
		}
		for at := range len(answered) {
			if got := takeResponse(t, answered[:at]); got.code != impl.MessageShort {
				t.Fatalf("TakeResponse(%q) = %d", answered[:at], got.code)
			}
		}
	}
}

// Any bytes, at each function: no panic, and the second reading's answer.
func TestMessageFunctionsAnswerAtAnything(t *testing.T) {
	r := rand.New(rand.NewSource(43))
	bits := []string{"GET", " ", "/", "HTTP/1.1", "200", "OK", "\r\n", "\r\n\r\n", "\r", "\n", "A", ":", "content-length", "transfer-encoding", "2", ",", "hi", "\x00", "\x7f", "\x80", "\xff", "GET / HTTP/1.1\r\n", "HTTP/1.1 200 OK\r\n"}
	for range 60000 {
		s := randomOf(r, bits, 14)
		checkByForm(t, s)
		texts := []string{s, randomOf(r, bits, 2), randomOf(r, bits, 2), randomOf(r, []string{"2", "0", ",", " ", "x"}, 3)}
		l := []impl.Field{field(texts[1], texts[2]), field("Content-Length", texts[3])}[r.Intn(2):]
		for _, q := range []impl.Request{{Method: texts[1], Target: texts[2], Fields: l, Body: texts[r.Intn(3)]}, {Method: "GET", Target: "/", Fields: l, Body: texts[r.Intn(3)]}, {Method: s, Target: s}} {
			told, ok := impl.RequestBytes(q)
			if ok != impl.GoodRequest(q) || !ok && told != "" {
				t.Fatalf("RequestBytes(%+v) = %q, %v", q, told, ok)
			}
			// By the form of its bytes a request is good, if it is what is taken.
			want, words := takenByForm(q.Method+" "+q.Target+" HTTP/1.1\r\n"+fieldLines(q.Fields)+"\r\n"+q.Body, askForm)
			same := want.code == impl.MessageOk && words[0] == q.Method && words[1] == q.Target && want.body == q.Body && slices.Equal(want.fields, q.Fields)
			if ok != same {
				t.Fatalf("GoodRequest(%+v) = %v", q, ok)
			}
			if h, one := impl.HostOf(q); one && !ok || !one && h != "" {
				t.Fatalf("HostOf(%+v) = %q, %v", q, h, one)
			}
		}
		for _, a := range []impl.Response{{Status: r.Intn(700), Reason: texts[1], Fields: l, Body: texts[r.Intn(3)]}, {Status: 200, Fields: l, Body: texts[2]}, {Status: r.Int(), Reason: s}} {
			told, ok := impl.ResponseBytes(a)
			if ok != impl.GoodResponse(a) || !ok && told != "" {
				t.Fatalf("ResponseBytes(%+v) = %q, %v", a, told, ok)
			}
			want, words := takenByForm("HTTP/1.1 "+strconv.Itoa(a.Status)+" "+a.Reason+"\r\n"+fieldLines(a.Fields)+"\r\n"+a.Body, answerForm)
			same := want.code == impl.MessageOk && words[1] == a.Reason && want.body == a.Body && slices.Equal(want.fields, a.Fields)
			if ok != same {
				t.Fatalf("GoodResponse(%+v) = %v", a, ok)
			}
		}
		n, ok := impl.LengthOf(l)
		good := !slices.ContainsFunc(l, func(f impl.Field) bool { return !impl.GoodField(f) })
		if want := lengthByForm(l); ok != (good && want >= 0) || ok && n != want || !ok && n != 0 {
			t.Fatalf("LengthOf(%q) = %d, %v", l, n, ok)
		}
	}
	for _, s := range []string{strings.Repeat("\r\n", 50000), strings.Repeat("\r", 100000), strings.Repeat(":", 100000), strings.Repeat("GET / HTTP/1.1\r\n", 10000), "GET / HTTP/1.1\r\n" + strings.Repeat(" ", 100000)} {
		checkByForm(t, s)
	}
	huge := slices.Repeat([]impl.Field{field(strings.Repeat("n", 1000), strings.Repeat("v", 1000))}, 1000)
	if goodBoth(t, huge, "") {
		t.Error("huge fields are good")
	}
}

func fieldLines(l []impl.Field) string {
	s := ""
	for _, f := range l {
		s += f.Name + ": " + f.Value + "\r\n"
	}
	return s
}

func TestMessageFunctionsWriteIntoNothing(t *testing.T) {
	behind := field("content-length", "5")
	for _, l := range [][]impl.Field{nil, {}, {field("host", "h"), field("a", "b"), field("content-length", "2")}, {field("host", "h")}, {field("content-length", "2"), field("Content-Length", "02, 2")}, {field("content-length", "x")}, {field("", "")}, {field("transfer-encoding", "x")}, manyFields(39), manyFields(40), manyFields(41)} {
		for _, body := range []string{"", "hi", "hello"} {
			given := withSpare(l, behind)
			before := slices.Clone(given[:cap(given)])
			q, a := requestOf(body, given...), responseOf(body, given...)
			bytes, ok := impl.RequestBytes(q)
			more, ok2 := impl.ResponseBytes(a)
			// What lies behind the length is not read.
			plain, right := impl.LengthOf(slices.Clone(l))
			if n, ok := impl.LengthOf(given); n != plain || ok != right {
				t.Fatalf("LengthOf(%q) = %d, %v", l, n, ok)
			}
			if impl.GoodRequest(q) != impl.GoodRequest(requestOf(body, slices.Clone(l)...)) || impl.GoodResponse(a) != ok2 || impl.GoodRequest(q) != ok {
				t.Fatalf("what lies behind %q counts", l)
			}
			impl.HostOf(q)
			if !slices.Equal(given[:cap(given)], before) || q.Body != body || a.Body != body || len(q.Fields) != len(l) || len(a.Fields) != len(l) {
				t.Fatalf("%q is written into", l)
			}
			if !ok || !ok2 {
				continue
			}
			for range 2 {
				back, _, code := impl.TakeRequest(bytes)
				answer, _, code2 := impl.TakeResponse(more)
				if code != impl.MessageOk || code2 != impl.MessageOk || !slices.Equal(back.Fields, l) || !slices.Equal(answer.Fields, l) {
					t.Fatalf("%q does not come back, or answers share memory: %+v, %+v", l, back, answer)
				}
				fill(back.Fields, behind)
				fill(answer.Fields, behind)
			}
			if !slices.Equal(given[:cap(given)], before) {
				t.Fatalf("an answer shares memory with %q", l)
			}
		}
	}
	// Beside a fault there is nothing.
	for _, s := range []string{"", "x", "\r\n\r\n", askLine + "\r\nA:b\r\ncontent-length: 2\r\n\r\nh"} {
		if r, size, code := impl.TakeRequest(s); code == impl.MessageOk || size != 0 || !reflect.DeepEqual(r, impl.Request{}) {
			t.Errorf("TakeRequest(%q) = %+v, %d, %d", s, r, size, code)
		}
		if r, size, code := impl.TakeResponse(s); code == impl.MessageOk || size != 0 || !reflect.DeepEqual(r, impl.Response{}) {
			t.Errorf("TakeResponse(%q) = %+v, %d, %d", s, r, size, code)
		}
	}
}
