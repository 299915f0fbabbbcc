package tests

import (
	"fmt"
	"math"
	"math/rand"
	"slices"
	"sort"
	"strconv"
	"strings"
	"testing"

	"loop.example/g00256/impl"
)

func answerOf(status int, l ...impl.Field) impl.Response {
	a := responseOf("", l...)
	a.Status = status
	return a
}

func varyFields(values ...string) []impl.Field {
	l := []impl.Field{}
	for i, value := range values {
		l = append(l, field([]string{"Vary", "vary", "VARY", "vArY"}[i%4], value))
	}
	return l
}

func itemOf(key string, came int, asks []impl.Field, l ...impl.Field) impl.Item {
	return impl.Item{Key: key, Asks: asks, Kept: keptOf(came, came, l...)}
}

func itemsOf(n int) []impl.Item {
	l := []impl.Item{}
	for i := range n {
		l = append(l, itemOf("k"+strconv.Itoa(i), arrived, nil))
	}
	return l
}

func sameKept(a impl.Kept, b impl.Kept) bool {
	return sameResponse(a.Answer, b.Answer) && a.Asked == b.Asked && a.Came == b.Came
}

func sameItem(a impl.Item, b impl.Item) bool {
	return a.Key == b.Key && slices.Equal(a.Asks, b.Asks) && sameKept(a.Kept, b.Kept)
}

func sameItems(a []impl.Item, b []impl.Item) bool {
	return slices.EqualFunc(a, b, sameItem)
}

func wantKeep(t *testing.T, r impl.Request, a impl.Response, want bool) {
	t.Helper()
	if may, ok := impl.MayKeep(r, a); may != want || !ok {
		t.Errorf("MayKeep(%+v, %+v) = %v, %v, not %v", r, a, may, ok, want)
	}
}

func wantVary(t *testing.T, l []impl.Field, star bool, want ...string) {
	t.Helper()
	if names, told, ok := impl.VaryOf(responseOf("", l...)); !slices.Equal(names, want) || told != star || !ok {
		t.Errorf("VaryOf(%q) = %q, %v, %v, not %q, %v", l, names, told, ok, want, star)
	}
}

func wantNoVary(t *testing.T, a impl.Response) {
	t.Helper()
	if names, star, ok := impl.VaryOf(a); len(names) != 0 || star || ok {
		t.Errorf("VaryOf(%+v) = %q, %v, %v", a, names, star, ok)
	}
}

func wantMatch(t *testing.T, it impl.Item, asks []impl.Field, want bool) {
	t.Helper()
	if is, ok := impl.Matches(it, requestOf("", asks...)); is != want || !ok {
		t.Errorf("Matches(%+v, %q) = %v, %v, not %v", it, asks, is, ok, want)
	}
}

// wantPick tells by -1 that none is to be picked.
func wantPick(t *testing.T, l []impl.Item, key string, asks []impl.Field, want int) {
	t.Helper()
	if at, there := impl.PickItem(l, key, requestOf("", asks...)); at != max(want, 0) || there != (want >= 0) {
		t.Errorf("PickItem(%+v, %q, %q) = %d, %v, not %d", l, key, asks, at, there, want)
	}
}

func wantPut(t *testing.T, l []impl.Item, it impl.Item, want ...impl.Item) {
	t.Helper()
	if put, ok := impl.PutItem(l, it); !sameItems(put, want) || !ok {
		t.Errorf("PutItem(%+v, %+v) = %+v, %v, not %+v", l, it, put, ok, want)
	}
}

func wantForgotten(t *testing.T, l []impl.Item, key string, want ...impl.Item) {
	t.Helper()
	if others, ok := impl.Forget(l, key); !sameItems(others, want) || !ok {
		t.Errorf("Forget(%+v, %q) = %+v, %v, not %+v", l, key, others, ok, want)
	}
}

func wantValidators(t *testing.T, k impl.Kept, want ...impl.Field) {
	t.Helper()
	if l, ok := impl.ValidatorsOf(k); !slices.Equal(l, want) || !ok {
		t.Errorf("ValidatorsOf(%+v) = %q, %v, not %q", k, l, ok, want)
	}
}

func wantRefreshed(t *testing.T, old []impl.Field, renewing []impl.Field, want ...impl.Field) {
	t.Helper()
	k := keptOf(1, 2, old...)
	wanted := keptOf(arrived, arrived+1, want...)
	if got, ok := impl.Refreshed(k, answerOf(304, renewing...), arrived, arrived+1); !sameKept(got, wanted) || !ok {
		t.Errorf("Refreshed(%q, %q) = %+v, %v, not %q", old, renewing, got, ok, want)
	}
}

func wantNotRefreshed(t *testing.T, k impl.Kept, a impl.Response, asked int, came int) {
	t.Helper()
	if got, ok := impl.Refreshed(k, a, asked, came); !sameKept(got, impl.Kept{}) || ok {
		t.Errorf("Refreshed(%+v, %+v, %d, %d) = %+v, %v", k, a, asked, came, got, ok)
	}
}

// wrongRequests are such that are not good, each by one thing.
func wrongRequests() []impl.Request {
	bad := []impl.Request{{}}
	for _, method := range append(badTokens(), strings.Repeat("M", 11)) {
		bad = append(bad, impl.Request{Method: method, Target: "/"})
	}
	for _, target := range []string{"", " ", "/ ", "/a b", "\x00", "/\x7f", "/\xff", "/ä", "/\r\n", "/" + strings.Repeat("a", 200), strings.Repeat("a", 100000)} {
		bad = append(bad, impl.Request{Method: "GET", Target: target})
	}
	for _, l := range wrongFields() {
		bad = append(bad, requestOf("", l...))
	}
	return append(bad, requestOf("b"), requestOf("b", field("Content-Length", "2")), requestOf(strings.Repeat("b", 301), field("Content-Length", "301")))
}

func wrongAnswers() []impl.Response {
	bad := badResponses()
	for _, l := range wrongFields() {
		bad = append(bad, responseOf("", l...))
	}
	return append(bad, responseOf("b"), responseOf("b", field("Content-Length", "2")), responseOf(strings.Repeat("b", 301), field("Content-Length", "301")))
}

// wrongFields are such that no message without a body may have.
func wrongFields() [][]impl.Field {
	good := field("Cache-Control", "max-age=60")
	l := [][]impl.Field{manyFields(41), {good, field("Transfer-Encoding", "chunked")}, {field("content-length", "1"), good}, {good, field("Content-Length", "")}, slices.Repeat([]impl.Field{field("n", strings.Repeat("v", 300))}, 7)}
	for _, bad := range badFields() {
		l = append(l, []impl.Field{bad}, []impl.Field{good, bad})
	}
	return l
}

func wrongKept() []impl.Kept {
	bad := []impl.Kept{keptOf(-1, 5), keptOf(6, 5), keptOf(0, impl.MaxSecond+1), keptOf(math.MinInt, math.MaxInt), keptOf(impl.MaxSecond+1, impl.MaxSecond+1)}
	for _, a := range wrongAnswers() {
		bad = append(bad, impl.Kept{Answer: a, Asked: 5, Came: 6})
	}
	return bad
}

func wrongItems() []impl.Item {
	bad := []impl.Item{{}, itemOf(strings.Repeat("k", 201), 5, nil), itemOf(strings.Repeat("\xff", 100000), 5, nil), itemOf("k", 5, manyFields(41))}
	for _, f := range badFields() {
		bad = append(bad, itemOf("k", 5, []impl.Field{f}), itemOf("k", 5, []impl.Field{field("a", "1"), f}))
	}
	for _, k := range wrongKept() {
		bad = append(bad, impl.Item{Key: "k", Kept: k})
	}
	for _, value := range append(noVaries(), "*", "a, *", "*,*", ",* ,b") {
		bad = append(bad, itemOf("k", 5, nil, varyFields(value)...), itemOf("k", 5, nil, varyFields("a", value)...))
	}
	return bad
}

// noVaries are no lists of tokens.
func noVaries() []string {
	l := []string{`"`, `"a`, `a"`, `"a"`, `"a, b"`, `a, "b"`, `a, "`, "a b", "a;b", "a=b", "a, b c", "a:b", "a/b", "(a)", "a, [b]", `\a`, "a, b\\", "<a>", "{a}", "a?", "@", "a, b, c@", "* *", "*;", `"*"`, `*, "`}
	return append(l, strings.Repeat("a", 61), "a, "+strings.Repeat("b", 61), strings.Repeat("*", 61))
}

func TestMaxKept(t *testing.T) {
	if impl.MaxKept != 30 {
		t.Error(impl.MaxKept)
	}
}

func TestMayKeepEachStatus(t *testing.T) {
	kept := map[int]bool{200: true, 203: true, 204: true, 300: true, 301: true, 404: true, 410: true}
	for status := 100; status <= 599; status++ {
		for _, l := range [][]impl.Field{controlFields("max-age=60"), controlFields("public"), controlFields("s-maxage=5, must-revalidate"), {field("Expires", datesAt(arrived)[0])}, {field("Last-Modified", datesAt(changed)[0]), field("ETag", `"e"`)}} {
			wantKeep(t, requestOf(""), answerOf(status, l...), kept[status])
			wantKeep(t, requestOf("", field("Authorization", "x")), answerOf(status, append(l, controlFields("public")...)...), kept[status])
		}
		wantKeep(t, requestOf(""), answerOf(status), false)
	}
}

func TestMayKeepEachMethod(t *testing.T) {
	a := responseOf("", controlFields("public, max-age=60")...)
	for _, method := range []string{"GET", "HEAD", "PUT", "POST", "DELETE", "OPTIONS", "PATCH", "TRACE", "CONNECT", "get", "Get", "GEt", "gET", "GETS", "GE", "G", "XGET", "*", "GET.", "MMMMMMMMMM"} {
		r := requestOf("")
		r.Method = method
		wantKeep(t, r, a, method == "GET")
	}
}

// mayKeepByHand is in the words of the document.
func mayKeepByHand(r impl.Request, a impl.Response) bool {
	own, asked := controlByForm(a.Fields), controlByForm(r.Fields)
	_, star, list := varyByForm(a.Fields)
	has := func(l []impl.Field, name string) bool { return len(valuesByHand(l, name)) > 0 }
	statuses := []int{200, 203, 204, 300, 301, 404, 410}
	switch {
	case r.Method != "GET", !slices.Contains(statuses, a.Status):
		return false
	case own.NoStore, asked.NoStore, own.Private, star, !list:
		return false
	case has(r.Fields, "authorization") && !own.Public && !own.HasShared && !own.Must:
		return false
	}
	return own.HasAge || own.HasShared || own.Public || has(a.Fields, "expires") || has(a.Fields, "last-modified")
}

func varyByForm(l []impl.Field) ([]string, bool, bool) {
	parts, good := partsByForm(strings.Join(valuesByHand(l, "vary"), ", "))
	names := map[string]bool{}
	for _, part := range parts {
		names[smallOf(part)] = true
		good = good && isTokenText(part)
	}
	if !good {
		return nil, false, false
	}
	star := names["*"]
	delete(names, "*")
	sorted := []string{}
	for name := range names {
		sorted = append(sorted, name)
	}
	sort.Strings(sorted)
	return sorted, star, true
}

func TestMayKeepEachDirective(t *testing.T) {
	plain, asked := requestOf(""), requestOf("", field("Authorization", "Basic x"))
	// What the answer says, and whether it may be kept where nobody is named
	// who asks, and where somebody is.
	for said, want := range map[string][2]bool{
		"": {}, "no-store": {}, "private": {}, "no-cache": {}, "must-revalidate": {}, "proxy-revalidate": {}, "max-stale=5": {}, "min-fresh=5": {}, "stale-if-error=5": {}, "stale-while-revalidate=5": {}, "x": {}, "immutable": {},
		"public": {true, true}, "s-maxage=5": {true, true}, "s-maxage=0": {true, true}, "s-maxage": {true, true}, "s-maxage=x": {true, true}, "PUBLIC": {true, true}, "S-MaxAge=5": {true, true}, "public=x": {true, true},
		"max-age=5": {true, false}, "max-age=0": {true, false}, "max-age": {true, false}, "max-age=x": {true, false}, "Max-Age=5": {true, false}, `max-age="5"`: {true, false}, "max-age=999999999999": {true, false},
		"max-age=5, must-revalidate": {true, true}, "max-age=5, proxy-revalidate": {true, true}, "max-age=5, public": {true, true}, "max-age=5, s-maxage=0": {true, true}, "max-age=5, no-cache": {true, false}, "max-age=5, x": {true, false},
		"public, must-revalidate": {true, true}, "s-maxage=5, proxy-revalidate": {true, true}, "public, no-cache": {true, true}, "must-revalidate, proxy-revalidate": {},
		"no-store, max-age=5": {}, "max-age=5, NO-STORE": {}, "no-store, public": {}, "no-store=x, s-maxage=5": {}, "public, s-maxage=5, max-age=5, must-revalidate, no-store": {},
		"private, max-age=5": {}, "max-age=5, Private": {}, "private, public": {}, "private, s-maxage=5": {}, `private="x", max-age=5`: {}, "public, s-maxage=5, max-age=5, must-revalidate, private": {},
		`max-age=5, "`: {}, `x="no-store, private", max-age=5`: {true, false}, "max-ages=5": {}, "max-age=5, no-stores, privates": {true, false},
	} {
		a := responseOf("", controlFields(said)...)
		wantKeep(t, plain, a, want[0])
		wantKeep(t, asked, a, want[1])
		l := []impl.Field{}
		for _, part := range strings.Split(said, ", ") {
			l = append(l, field("cache-control", part), field("X", part))
		}
		if !strings.Contains(said, `"`) {
			wantKeep(t, plain, responseOf("", l...), want[0])
			wantKeep(t, asked, responseOf("", l...), want[1])
		}
	}
}

func TestMayKeepForTheRequest(t *testing.T) {
	a := responseOf("", controlFields("max-age=5")...)
	must := responseOf("", controlFields("max-age=5, must-revalidate")...)
	for said, want := range map[string]bool{
		"no-store": false, "NO-STORE": false, "no-store=x": false, "max-age=5, no-store": false, `x, no-store,`: false, "no-store, private": false,
		"": true, "private": true, "no-cache": true, "max-age=0": true, "x": true, "public": true, `"no-store"`: true, "no-stores": true, `no-store, "`: true, "min-fresh=5": true, "max-stale": true, "only-if-cached": true,
	} {
		wantKeep(t, requestOf("", controlFields(said)...), a, want)
		wantKeep(t, requestOf("", controlFields("", said)...), must, want)
		wantKeep(t, requestOf("", append(controlFields(said), field("authorization", "x"))...), must, want)
		// These say so of the answer, not of the request.
		wantKeep(t, requestOf("", append(controlFields("public, s-maxage=5, must-revalidate", said), field("authorization", "x"))...), a, false)
		wantKeep(t, requestOf("", controlFields("public, s-maxage=5, max-age=5", said)...), responseOf(""), false)
	}
	for name, hinders := range map[string]bool{"authorization": true, "Authorization": true, "AUTHORIZATION": true, "aUTHORIZATION": true, "authorizations": false, "authorizatio": false, "proxy-authorization": false, "www-authenticate": false, "cookie": false} {
		for _, value := range []string{"", "x", "Basic x", "no-store"} {
			for _, l := range [][]impl.Field{{field(name, value)}, {field("a", "b"), field(name, value)}, {field(name, value), field(name, "")}} {
				wantKeep(t, requestOf("", l...), a, !hinders)
				wantKeep(t, requestOf("", l...), must, true)
				wantKeep(t, requestOf("", l...), responseOf("", field("Expires", "x")), !hinders)
				wantKeep(t, requestOf("", l...), responseOf("", field("Expires", "x"), field("Cache-Control", "proxy-revalidate")), true)
				wantKeep(t, requestOf("", l...), responseOf("", field("Last-Modified", "x")), !hinders)
			}
			wantKeep(t, requestOf(""), responseOf("", field(name, value), field("Cache-Control", "max-age=5")), true)
		}
	}
	dates := []impl.Field{field("Expires", datesAt(arrived)[0]), field("Last-Modified", datesAt(arrived)[0])}
	wantKeep(t, requestOf("", dates...), responseOf(""), false)
}

func TestMayKeepByDates(t *testing.T) {
	asked := requestOf("", field("Authorization", "x"))
	for _, name := range append(spellings("expires"), spellings("last-modified")...) {
		for _, value := range append(append(wrongDates(), datesAt(arrived)...), datesAt(0)...) {
			f := field(name, value)
			for _, l := range [][]impl.Field{{f}, {f, f}, {f, field(smallOf(name), "")}, {field("a", "b"), f}, append(controlFields("no-cache, must-revalidate"), f)} {
				wantKeep(t, requestOf(""), responseOf("", l...), true)
				wantKeep(t, requestOf(""), responseOf("", append(l, controlFields("no-store")...)...), false)
				wantKeep(t, requestOf(""), responseOf("", append(l, controlFields("private")...)...), false)
				wantKeep(t, requestOf(""), responseOf("", append(l, varyFields("*")...)...), false)
				wantKeep(t, asked, responseOf("", l...), len(valuesByHand(l, "cache-control")) > 0)
			}
		}
	}
	for _, name := range []string{"date", "age", "etag", "expire", "expiress", "last_modified", "modified", "max-age", "public", "s-maxage"} {
		wantKeep(t, requestOf(""), responseOf("", field(name, datesAt(arrived)[0])), false)
		wantKeep(t, requestOf(""), responseOf("", field(name, "5")), false)
	}
}

func TestMayKeepByVary(t *testing.T) {
	for _, l := range [][]impl.Field{controlFields("max-age=5"), controlFields("public, s-maxage=5"), {field("expires", "")}} {
		for _, value := range []string{"", ",", "a", "a, b", "A,a", "accept-encoding , accept", "*a", "a*", "**"} {
			wantKeep(t, requestOf(""), responseOf("", append(varyFields(value), l...)...), true)
			wantKeep(t, requestOf("", field("a", "1")), responseOf("", append(varyFields(value, "c"), l...)...), true)
		}
		for _, value := range append(noVaries(), "*", "*, *", "a, *", "*,a", ",*") {
			wantKeep(t, requestOf(""), responseOf("", append(varyFields(value), l...)...), false)
			wantKeep(t, requestOf(""), responseOf("", append(varyFields("b", value), l...)...), false)
			// It is the answer's.
			wantKeep(t, requestOf("", varyFields(value)...), responseOf("", l...), true)
		}
	}
}

// Each directive of either side with all others.
func TestMayKeepOfAllTogether(t *testing.T) {
	subset := func(l []string, n int) string {
		chosen := []string{}
		for i, s := range l {
			if n>>i&1 == 1 {
				chosen = append(chosen, s)
			}
		}
		return strings.Join(chosen, ", ")
	}
	counts := map[bool]int{}
	own, asked := []string{"no-store", "private", "public", "s-maxage=5", "max-age=6", "must-revalidate", "proxy-revalidate"}, []string{"no-store", "private", "max-age=0"}
	for n := range 1 << 7 {
		for m := range 1 << 3 {
			for others := range 1 << 5 {
				r, l := requestOf("", controlFields(subset(asked, m))...), controlFields(subset(own, n))
				if others&1 > 0 {
					r.Fields = append(r.Fields, field("Authorization", "x"))
				}
				if others&2 > 0 {
					l = append(l, field("Expires", "0"))
				}
				if others&4 > 0 {
					l = append(l, field("Last-Modified", datesAt(changed)[1]))
				}
				l = append(l, varyFields([]string{"", "a, B", "*", `"`}[others>>3])...)
				want := mayKeepByHand(r, responseOf("", l...))
				wantKeep(t, r, responseOf("", l...), want)
				counts[want]++
			}
		}
	}
	if counts[true] < 1000 || counts[false] < 1000 {
		t.Error(counts)
	}
}

func TestMayKeepRefused(t *testing.T) {
	refused := func(r impl.Request, a impl.Response) {
		t.Helper()
		if may, ok := impl.MayKeep(r, a); may || ok {
			t.Errorf("MayKeep(%+v, %+v) = %v, %v", r, a, may, ok)
		}
	}
	a := responseOf("", controlFields("max-age=60")...)
	for _, r := range wrongRequests() {
		refused(r, a)
		refused(r, impl.Response{})
		refused(r, responseOf(""))
	}
	for _, bad := range wrongAnswers() {
		refused(requestOf(""), bad)
		refused(requestOf("", controlFields("no-store")...), bad)
	}
	withBody := requestOf("hi", field("Content-Length", "2"))
	wantKeep(t, withBody, responseOf("hi", field("Content-Length", "2"), field("Cache-Control", "max-age=5")), true)
}

func wantKey(t *testing.T, base string, target string, want string) {
	t.Helper()
	for _, method := range []string{"GET", "PUT", "x"} {
		r := impl.Request{Method: method, Target: target, Fields: []impl.Field{field("Host", "elsewhere")}}
		if key, ok := impl.KeyOf(readUrl(t, base), r); key != want || ok != (want != "") {
			t.Errorf("KeyOf(%q, %q) = %q, %v, not %q", base, target, key, ok, want)
		}
	}
}

func TestKeyOfTargets(t *testing.T) {
	for target, want := range map[string]string{
		"/": "http://h/", "/a": "http://h/a", "/a/": "http://h/a/", "/a?x": "http://h/a?x", "/a?": "http://h/a?", "/?": "http://h/?", "/A": "http://h/A", "/a?x?y/z": "http://h/a?x?y/z", "//k": "http://k/", "//K/x": "http://k/x", "//k:80/x": "http://k/x", "//k:8080?q": "http://k:8080/?q", "/a//b": "http://h/a//b",
		"http://k": "http://k/", "http://K:80/X?Y": "http://k/X?Y", "https://k:443": "https://k/", "https://k:80/": "https://k:80/", "http://k:443/": "http://k:443/", "https://K.x/a/../b": "https://k.x/b",
		"d": "http://h/b/d", "d/e?f": "http://h/b/d/e?f", "?x": "http://h/b/c?x", "?": "http://h/b/c?", "*": "http://h/b/*", "a:b": "http://h/b/a:b", "HTTP://k/": "http://h/b/HTTP://k/", "ftp://k": "http://h/b/ftp://k", "http:": "http://h/b/http:", "http:///x": "http://h/b/http:///x",
		".": "http://h/b/", "..": "http://h/", "./d": "http://h/b/d", "../d": "http://h/d", "../../../d": "http://h/d", "/./a": "http://h/a", "/a/..": "http://h/", "/a/.": "http://h/a/", "/a/../../b/./c": "http://h/b/c", "/..a/.b": "http://h/..a/.b", "/a?../b": "http://h/a?../b", "?./x": "http://h/b/c?./x",
		"/%41": "http://h/A", "/%7e%7E~": "http://h/~~~", "/%2f%3a": "http://h/%2F%3A", "/%25%34%31": "http://h/%2541", "/a?%41%2f": "http://h/a?A%2F", "/a/%2e%2E/b": "http://h/b", "/a/%2e": "http://h/a/", "/a%2f..": "http://h/a%2F..", "%2e%2e/d": "http://h/d", "/%20": "http://h/%20", "/%c3%a4": "http://h/%C3%A4",
		"//": "", "///x": "", "//:80/": "", "//k:0/": "", "//k:x": "", "//k:65536/": "", "//u@k/": "", "#": "", "/a#b": "", "/%": "", "/%4": "", "/%4g": "", "/a?%": "", "/[": "", `/"`: "", "/a\\b": "", "<a>": "", "{": "", "/^": "", "/`": "", "/|": "", "?#": "", "?[": "", "/%%41": "",
	} {
		wantKey(t, "http://h/b/c", target, want)
		wantKey(t, "http://H:80/b/%63?%71", target, want)
	}
	wantKey(t, "https://h:80", "/a", "https://h:80/a")
	wantKey(t, "https://h:443", "a", "https://h/a")
	wantKey(t, "https://h:443", "//k:443", "https://k/")
	wantKey(t, "http://H", "?q", "http://h/?q")
	wantKey(t, "http://h/b?c", "d", "http://h/d")
	wantKey(t, "http://h/b?c", "?d", "http://h/b?d")
}

func TestKeyOfLongTargets(t *testing.T) {
	long := func(n int) string { return "/" + strings.Repeat("a", n-1) }
	wantKey(t, "http://h", long(192), "http://h"+long(192))
	wantKey(t, "http://h", long(193), "")
	wantKey(t, "http://h", long(200), "")
	wantKey(t, "http://h/bb/", long(188)[1:], "http://h/bb"+long(188))
	wantKey(t, "http://h/bb/", long(190)[1:], "")
	// Dots go ahead of asking how long it is, percents do not.
	wantKey(t, "http://h", "/x/../y/.."+long(190), "http://h"+long(190))
	wantKey(t, "http://h"+long(192), "/%41", "http://h/A")
	wantKey(t, "http://h", "/"+strings.Repeat("%41", 63), "http://h/"+strings.Repeat("A", 63))
	wantKey(t, "http://h", "/"+strings.Repeat("%41", 64), "")
	wantKey(t, "http://h/", "http://k"+long(192), "http://k"+long(192))
	wantKey(t, "http://h/", "http://k:80"+long(189), "http://k"+long(189))
}

func TestKeyOfRefused(t *testing.T) {
	base := readUrl(t, "http://h/b")
	refused := func(base impl.Url, r impl.Request) {
		t.Helper()
		if key, ok := impl.KeyOf(base, r); key != "" || ok {
			t.Errorf("KeyOf(%+v, %+v) = %q, %v", base, r, key, ok)
		}
	}
	for _, u := range badUrls() {
		for _, target := range []string{"/", "http://k/", "//k", "?", "a", ""} {
			refused(u, impl.Request{Method: "GET", Target: target})
		}
	}
	for _, r := range wrongRequests() {
		refused(base, r)
		refused(impl.Url{}, r)
	}
}

// What has a key has it under any address that means the same, and by its key.
func TestKeysAreNormal(t *testing.T) {
	r := rand.New(rand.NewSource(91))
	bits := []string{"/", "//", "a", "b", ".", "..", "../", "./", "?", "%41", "%2f", "%", ":", "http:", "https://k", "//k", ":80", "#", "*"}
	counts := map[bool]int{}
	for range 40000 {
		base := randomUrl(r)
		target := randomOf(r, bits, 6)
		asked := impl.Request{Method: "GET", Target: target}
		u, resolved := impl.ResolveUrl(base, target)
		key, ok := impl.KeyOf(base, asked)
		counts[ok]++
		if ok != (resolved && target != "") || !ok && key != "" {
			t.Fatalf("KeyOf(%+v, %q) = %q, %v", base, target, key, ok)
		}
		if !ok {
			continue
		}
		normal, _ := impl.NormalUrl(u)
		if readUrl(t, key) != normal {
			t.Fatalf("KeyOf(%+v, %q) = %q", base, target, key)
		}
		asked.Target = key
		if again, ok := impl.KeyOf(randomUrl(r), asked); again != key || !ok {
			t.Fatalf("KeyOf %q = %q, %v", key, again, ok)
		}
	}
	if counts[true] < 1000 || counts[false] < 1000 {
		t.Error(counts)
	}
}

func TestVaryOf(t *testing.T) {
	wantVary(t, nil, false)
	wantVary(t, []impl.Field{field("Varys", "a"), field("Var", "b"), field("x-vary", "*")}, false)
	for _, c := range []struct {
		values []string
		star   bool
		want   []string
	}{
		{[]string{""}, false, nil}, {[]string{",", ", ,", ""}, false, nil}, {[]string{"a"}, false, []string{"a"}}, {[]string{"Accept"}, false, []string{"accept"}}, {[]string{"ACCEPT-Encoding"}, false, []string{"accept-encoding"}},
		{[]string{"b, a"}, false, []string{"a", "b"}}, {[]string{"b,a,c"}, false, []string{"a", "b", "c"}}, {[]string{"b", "a"}, false, []string{"a", "b"}}, {[]string{"c, a", "b"}, false, []string{"a", "b", "c"}}, {[]string{"a", "", "b ,"}, false, []string{"a", "b"}}, {[]string{",,b ,,  , a,"}, false, []string{"a", "b"}},
		{[]string{"a, a"}, false, []string{"a"}}, {[]string{"a, A", "A"}, false, []string{"a"}}, {[]string{"b, a, B, A, b"}, false, []string{"a", "b"}}, {[]string{"Z, a"}, false, []string{"a", "z"}}, {[]string{"ab, a, abc, b"}, false, []string{"a", "ab", "abc", "b"}}, {[]string{"a_, aB, a0, a-, A."}, false, []string{"a-", "a.", "a0", "a_", "ab"}},
		{[]string{"*"}, true, nil}, {[]string{"*, *", "*"}, true, nil}, {[]string{"*, a"}, true, []string{"a"}}, {[]string{"b, *, A"}, true, []string{"a", "b"}}, {[]string{"a", "*"}, true, []string{"a"}}, {[]string{",*,"}, true, nil},
		{[]string{"**, *a, a*"}, false, []string{"**", "*a", "a*"}}, {[]string{"cookie, user-agent, Accept"}, false, []string{"accept", "cookie", "user-agent"}}, {[]string{"'a', `b`"}, false, []string{"'a'", "`b`"}}, {[]string{"!#$%&'*+-.^_|~`"}, false, []string{"!#$%&'*+-.^_|~`"}},
		{[]string{strings.Repeat("A", 60)}, false, []string{strings.Repeat("a", 60)}}, {[]string{"b," + strings.Repeat("a", 60) + ",c"}, false, []string{strings.Repeat("a", 60), "b", "c"}},
	} {
		l := varyFields(c.values...)
		wantVary(t, l, c.star, c.want...)
		wantVary(t, append(append([]impl.Field{field("varies", "x")}, l...), field("Cache-Control", "no-store")), c.star, c.want...)
		slices.Reverse(l)
		wantVary(t, l, c.star, c.want...)
	}
	for _, value := range noVaries() {
		for _, values := range [][]string{{value}, {"a", value}, {value, "a"}, {"*", value}, {"", value, ""}} {
			wantNoVary(t, responseOf("", varyFields(values...)...))
		}
	}
	// A quote that is closed in the next field is none the less no token.
	wantNoVary(t, responseOf("", varyFields(`"a`, `b"`)...))
	for _, a := range wrongAnswers() {
		wantNoVary(t, a)
		a.Fields = append(slices.Clone(a.Fields), field("Vary", "a"))
		wantNoVary(t, a)
	}
}

func TestVaryHoweverLong(t *testing.T) {
	for n := 1; n <= 6; n++ {
		values, want := []string{}, []string{}
		for i := range n {
			s := ""
			for j := range 60 {
				name := fmt.Sprintf("n%d%02d", i, j)
				s += strings.ToUpper(name) + ","
				want = append(want, name)
			}
			values = append(values, s)
		}
		wantVary(t, varyFields(values...), false, want...)
		wantVary(t, varyFields(append(values, "*")...), true, want...)
		wantNoVary(t, responseOf("", varyFields(append(values, `"`)...)...))
		asks := []impl.Field{field("n000", "1"), field("n"+strconv.Itoa(n-1)+"59", "2"), field("x", "3")}
		it := itemOf("k", 5, asks, varyFields(values...)...)
		wantMatch(t, it, asks, true)
		wantMatch(t, it, asks[:2], true)
		wantMatch(t, it, asks[1:], false)
		wantMatch(t, it, append(asks[:1:1], asks[2]), false)
		wantMatch(t, it, append(asks[:3:3], field("N012", "")), false)
		wantMatch(t, it, append(asks[:3:3], field("N912", "")), true)
	}
}

func TestVaryBySecondReading(t *testing.T) {
	r := rand.New(rand.NewSource(92))
	kinds := map[string]int{}
	for range 40000 {
		l := []impl.Field{}
		for range r.Intn(4) {
			f := field([]string{"Vary", "vary", "VARY", "x"}[r.Intn(4)], strings.Trim(randomOf(r, []string{"a", "B", "b", ",", ", ", ",", "*", "-", " ", `"`, `\`, ";", "Accept", ",,"}[:14-r.Intn(2)*6], 7), " "))
			l = append(l, f)
		}
		names, star, good := varyByForm(l)
		if good {
			wantVary(t, l, star, names...)
		} else {
			wantNoVary(t, responseOf("", l...))
		}
		kinds[fmt.Sprint(good, star, len(names) > 0)]++
		if t.Failed() {
			t.FailNow()
		}
	}
	if len(kinds) != 5 {
		t.Error(kinds)
	}
	for kind, n := range kinds {
		if n < 200 {
			t.Error(kind, n)
		}
	}
	for n := range 256 {
		s := string([]byte{byte(n)})
		for _, value := range []string{s, "a" + s, s + "a", "a" + s + "b", "a," + s} {
			l := varyFields(value)
			names, star, good := varyByForm(l)
			if impl.GoodField(l[0]) && good {
				wantVary(t, l, star, names...)
			} else {
				wantNoVary(t, responseOf("", l...))
			}
		}
	}
}

// fieldsOf takes names and values in turn.
func fieldsOf(told ...string) []impl.Field {
	l := []impl.Field{}
	for i := 0; i < len(told); i += 2 {
		l = append(l, field(told[i], told[i+1]))
	}
	return l
}

func TestMatches(t *testing.T) {
	for _, c := range []struct {
		vary string
		own  []impl.Field
		asks []impl.Field
		want bool
	}{
		{"", nil, nil, true}, {"", fieldsOf("a", "1"), fieldsOf("a", "2"), true}, {",", fieldsOf("a", "1"), nil, true},
		{"a", fieldsOf("a", "1"), fieldsOf("a", "1"), true}, {"a", fieldsOf("a", "1"), fieldsOf("a", "2"), false}, {"a", nil, nil, true},
		{"a", fieldsOf("a", "1"), nil, false}, {"a", nil, fieldsOf("a", "1"), false}, {"a", fieldsOf("a", ""), nil, false}, {"a", nil, fieldsOf("a", ""), false}, {"a", fieldsOf("a", ""), fieldsOf("a", ""), true},
		// Names in any letters, values as they are.
		{"A", fieldsOf("a", "1"), fieldsOf("A", "1"), true}, {"accept", fieldsOf("ACCEPT", "x"), fieldsOf("Accept", "x"), true}, {"ACCEPT", fieldsOf("Accept", "x"), fieldsOf("accept", "y"), false}, {"a", fieldsOf("a", "x"), fieldsOf("a", "X"), false},
		{"a", fieldsOf("a", "x,y"), fieldsOf("a", "x, y"), false}, {"a", fieldsOf("a", "x  y"), fieldsOf("a", "x y"), false}, {"a", fieldsOf("a", "x;q=1"), fieldsOf("a", "x"), false}, {"a", fieldsOf("a", "x, y"), fieldsOf("a", "y, x"), false},
		// Of several fields what is joined.
		{"a", fieldsOf("a", "x", "a", "y"), fieldsOf("a", "x", "a", "y"), true}, {"a", fieldsOf("a", "x, y"), fieldsOf("a", "x", "A", "y"), true}, {"a", fieldsOf("A", "x", "b", "z", "a", "y"), fieldsOf("a", "x, y"), true}, {"a", fieldsOf("a", "x", "a", "y"), fieldsOf("a", "y", "a", "x"), false}, {"a", fieldsOf("a", "x", "a", "y"), fieldsOf("a", "x"), false}, {"a", fieldsOf("a", "x"), fieldsOf("a", "x", "a", "x"), false}, {"a", fieldsOf("a", "x", "a", ""), fieldsOf("a", "x"), false}, {"a", fieldsOf("a", "", "a", ""), fieldsOf("a", ""), false}, {"a", fieldsOf("a", "", "a", ""), fieldsOf("a", ","), false},
		// Of several names all.
		{"a, b", fieldsOf("a", "1", "b", "2"), fieldsOf("b", "2", "a", "1"), true}, {"b,a", fieldsOf("a", "1", "b", "2"), fieldsOf("a", "1", "b", "3"), false}, {"a,b", fieldsOf("a", "1", "b", "2"), fieldsOf("a", "0", "b", "2"), false}, {"a, b", fieldsOf("a", "1"), fieldsOf("a", "1"), true}, {"a, b", fieldsOf("a", "1"), fieldsOf("b", "1"), false}, {"a, b", fieldsOf("a", "1", "b", "2"), fieldsOf("a", "2", "b", "1"), false}, {"a, b", fieldsOf("a", "1"), fieldsOf("a", "1", "b", ""), false}, {"a, A, a", fieldsOf("a", "1"), fieldsOf("a", "1"), true},
		// Others do not count.
		{"a", fieldsOf("a", "1", "b", "2"), fieldsOf("c", "3", "a", "1", "b", "4"), true}, {"a", fieldsOf("ab", "1"), fieldsOf("ab", "2"), true}, {"x", fieldsOf("Vary", "a"), fieldsOf("Vary", "b"), true}, {"vary", fieldsOf("Vary", "a"), fieldsOf("Vary", "b"), false},
		{"host", fieldsOf("Host", "h"), fieldsOf("host", "h"), true}, {"cache-control", nil, fieldsOf("Cache-Control", "no-cache"), false}, {"content-length", nil, fieldsOf("Content-Length", "0"), false},
	} {
		for _, came := range []int{0, arrived} {
			wantMatch(t, itemOf("k", came, c.own, varyFields(c.vary)...), c.asks, c.want)
			wantMatch(t, itemOf("", came, c.asks, varyFields("", c.vary)...), c.own, c.want)
		}
		// It goes by the item's own vary, whatever the request has.
		l := varyFields(strings.Split(strings.ReplaceAll(c.vary, " ", ""), ",")...)
		wantMatch(t, itemOf("k", 5, c.own, l...), c.asks, c.want)
		if c.vary != "vary" {
			wantMatch(t, itemOf("k", 5, c.own, l...), append(c.asks, field("Vary", "q")), c.want)
		}
	}
}

func TestMatchesRefused(t *testing.T) {
	refused := func(it impl.Item, r impl.Request) {
		t.Helper()
		if is, ok := impl.Matches(it, r); is || ok {
			t.Errorf("Matches(%+v, %+v) = %v, %v", it, r, is, ok)
		}
	}
	for _, it := range wrongItems() {
		refused(it, requestOf(""))
		refused(it, requestOf("", it.Asks...))
	}
	for _, r := range wrongRequests() {
		refused(itemOf("k", 5, nil), r)
		refused(itemOf("k", 5, nil, varyFields("a")...), r)
		refused(impl.Item{}, r)
	}
	// The limits met: a key, the fields, and how many they are.
	for _, it := range []impl.Item{itemOf(strings.Repeat("\xff", 200), 0, nil), itemOf("", impl.MaxSecond, manyFields(40)), itemOf("k", 5, slices.Repeat([]impl.Field{field(strings.Repeat("n", 60), strings.Repeat("v", 300))}, 40))} {
		wantMatch(t, it, nil, true)
		wantMatch(t, itemOf(it.Key, 5, it.Asks, varyFields("x")...), nil, true)
	}
}

func TestPickItem(t *testing.T) {
	one, two := fieldsOf("a", "1"), fieldsOf("A", "2")
	byA := varyFields("a")
	wantPick(t, nil, "", nil, -1)
	wantPick(t, nil, "k", nil, -1)
	for key, want := range map[string]int{"k": 0, "": -1, "K": -1, "kk": -1, "k\x00": -1, strings.Repeat("k", 200): -1, strings.Repeat("k", 201): -1, strings.Repeat("\xff", 100000): -1} {
		wantPick(t, []impl.Item{itemOf("k", 5, nil)}, key, nil, want)
		if want == 0 {
			want = 1
		}
		wantPick(t, []impl.Item{itemOf("x", 9, nil), itemOf("k", 5, nil)}, key, one, want)
	}
	for _, key := range []string{"", strings.Repeat("k", 200), "\x00\xff"} {
		wantPick(t, []impl.Item{itemOf("k", 9, nil), itemOf(key, 5, nil)}, key, nil, 1)
	}
	// The choice.
	l := []impl.Item{itemOf("k", 5, one, byA...), itemOf("k", 5, two, byA...), itemOf("k", 5, nil, byA...), itemOf("x", 9, one)}
	wantPick(t, l, "k", one, 0)
	wantPick(t, l, "k", two, 1)
	wantPick(t, l, "k", nil, 2)
	wantPick(t, l, "k", fieldsOf("b", "1"), 2)
	wantPick(t, l, "k", fieldsOf("a", "3"), -1)
	wantPick(t, l, "x", two, 3)
	wantPick(t, l[1:3], "k", one, -1)
	// Of several that match the one that came last, then the first.
	for _, c := range []struct {
		came []int
		want int
	}{
		{[]int{5}, 0}, {[]int{5, 6}, 1}, {[]int{6, 5}, 0}, {[]int{5, 5}, 0}, {[]int{5, 6, 6}, 1}, {[]int{6, 5, 6}, 0}, {[]int{1, 2, 3}, 2}, {[]int{3, 2, 1}, 0}, {[]int{1, 3, 2}, 1}, {[]int{0, 0, 0}, 0}, {[]int{0, impl.MaxSecond}, 1}, {[]int{impl.MaxSecond, 0}, 0}, {[]int{2, 1, 2, 3, 3, 1}, 3},
	} {
		items, among := []impl.Item{}, []impl.Item{}
		for i, came := range c.came {
			items = append(items, itemOf("k", came, one, varyFields([]string{"a", "", "a, b"}[i%3])...))
			among = append(among, itemOf("k", impl.MaxSecond, two, byA...), items[i], itemOf("x", impl.MaxSecond, one))
		}
		wantPick(t, items, "k", one, c.want)
		if len(among) <= 30 {
			wantPick(t, among, "k", one, c.want*3+1)
		}
	}
	// When it was asked for does not count.
	asked := []impl.Item{{Key: "k", Kept: keptOf(4, 5)}, {Key: "k", Kept: keptOf(0, 6)}, {Key: "k", Kept: keptOf(6, 6)}}
	wantPick(t, asked, "k", nil, 1)
}

func TestPickItemRefused(t *testing.T) {
	for n, want := range map[int]int{0: -1, 1: 0, 29: 28, 30: 29, 31: -1, 32: -1, 100: -1} {
		wantPick(t, itemsOf(n), "k"+strconv.Itoa(n-1), nil, want)
	}
	good := itemOf("k", 5, nil)
	for _, bad := range wrongItems() {
		for _, l := range [][]impl.Item{{bad}, {good, bad}, {bad, good}, {good, bad, good}} {
			wantPick(t, l, "k", nil, -1)
			wantPick(t, l, bad.Key, nil, -1)
		}
	}
	for _, r := range wrongRequests() {
		if at, there := impl.PickItem([]impl.Item{good}, "k", r); at != 0 || there {
			t.Errorf("PickItem with %+v = %d, %v", r, at, there)
		}
	}
}

func TestPutItem(t *testing.T) {
	one, two := fieldsOf("a", "1"), fieldsOf("A", "2")
	byA, byB := varyFields("A"), varyFields("b")
	it := itemOf("k", 5, one, byA...)
	other, plain := itemOf("k", 9, two, byA...), itemOf("k", 9, nil)
	elsewhere, empty := itemOf("x", 9, one, byA...), itemOf("", 0, nil)
	wantPut(t, nil, it, it)
	wantPut(t, []impl.Item{}, plain, plain)
	// It stands ahead, whenever it came.
	wantPut(t, []impl.Item{elsewhere}, it, it, elsewhere)
	wantPut(t, []impl.Item{elsewhere, empty}, it, it, elsewhere, empty)
	wantPut(t, []impl.Item{it}, empty, empty, it)
	// Those that match go, be they one or several, whenever they came.
	wantPut(t, []impl.Item{it}, it, it)
	for _, came := range []int{0, 4, 5, 6, impl.MaxSecond} {
		old := itemOf("k", came, fieldsOf("c", "x", "A", "1"), byA...)
		wantPut(t, []impl.Item{old}, it, it)
		wantPut(t, []impl.Item{elsewhere, old, empty, old}, it, it, elsewhere, empty)
		wantPut(t, []impl.Item{old, other, plain, old, elsewhere}, it, it, other, elsewhere)
	}
	// Another choice stays, and other keys.
	wantPut(t, []impl.Item{other}, it, it, other)
	wantPut(t, []impl.Item{it, other, elsewhere}, itemOf("k", 5, nil, byA...), itemOf("k", 5, nil, byA...), it, other, elsewhere)
	wantPut(t, []impl.Item{it, elsewhere, empty}, itemOf("K", 5, one), itemOf("K", 5, one), it, elsewhere, empty)
	// An item matches by its own vary, not by that of the one that is put.
	wantPut(t, []impl.Item{plain}, it, it)
	wantPut(t, []impl.Item{it}, plain, plain, it)
	wantPut(t, []impl.Item{it}, itemOf("k", 5, one), itemOf("k", 5, one))
	wantPut(t, []impl.Item{it}, itemOf("k", 5, two), itemOf("k", 5, two), it)
	wantPut(t, []impl.Item{it}, itemOf("k", 5, fieldsOf("b", "2", "a", "1"), byB...), itemOf("k", 5, fieldsOf("b", "2", "a", "1"), byB...))
	wantPut(t, []impl.Item{it}, itemOf("k", 5, fieldsOf("b", "2"), byB...), itemOf("k", 5, fieldsOf("b", "2"), byB...), it)
	wantPut(t, []impl.Item{itemOf("k", 5, one, byB...)}, it, it)
	wantPut(t, []impl.Item{itemOf("k", 5, fieldsOf("a", "1", "b", ""), byB...)}, it, it, itemOf("k", 5, fieldsOf("a", "1", "b", ""), byB...))
	wantPut(t, []impl.Item{itemOf("k", 5, two, byB...)}, it, it)
}

func TestPutItemOfMany(t *testing.T) {
	it := itemOf("k", 5, nil)
	for n := range 40 {
		l := itemsOf(n)
		if n > 30 {
			if put, ok := impl.PutItem(l, it); len(put) != 0 || ok {
				t.Errorf("PutItem of %d items = %+v, %v", n, put, ok)
			}
			continue
		}
		wantPut(t, l, it, append([]impl.Item{it}, l[:min(n, 29)]...)...)
		// Where one goes that matches there is room for all others.
		for at := range n {
			again := l[at]
			again.Kept.Asked, again.Kept.Came = 7, 7
			wantPut(t, l, again, append(append([]impl.Item{again}, l[:at]...), l[at+1:]...)...)
		}
	}
	same := slices.Repeat([]impl.Item{it}, 30)
	wantPut(t, same, it, it)
	wantPut(t, same, itemOf("x", 5, nil), append([]impl.Item{itemOf("x", 5, nil)}, same[:29]...)...)
}

func TestPutItemRefused(t *testing.T) {
	refused := func(l []impl.Item, it impl.Item) {
		t.Helper()
		if put, ok := impl.PutItem(l, it); len(put) != 0 || ok {
			t.Errorf("PutItem(%+v, %+v) = %+v, %v", l, it, put, ok)
		}
	}
	good := itemOf("k", 5, nil)
	for _, bad := range wrongItems() {
		refused(nil, bad)
		refused([]impl.Item{good}, bad)
		refused([]impl.Item{bad}, good)
		refused([]impl.Item{good, bad}, good)
		refused([]impl.Item{bad}, bad)
	}
}

func TestForget(t *testing.T) {
	a, b, c := itemOf("a", 5, fieldsOf("x", "1"), varyFields("x")...), itemOf("b", 6, nil), itemOf("a", 7, nil)
	wantForgotten(t, nil, "")
	wantForgotten(t, nil, "a")
	wantForgotten(t, []impl.Item{a}, "a")
	wantForgotten(t, []impl.Item{a, b, c}, "a", b)
	wantForgotten(t, []impl.Item{a, b, c}, "b", a, c)
	wantForgotten(t, []impl.Item{b, a, b, c, b}, "b", a, c)
	wantForgotten(t, []impl.Item{a, a, c, a}, "a")
	for _, key := range []string{"", "A", "ab", "c", "a\x00", strings.Repeat("a", 200), strings.Repeat("a", 201), strings.Repeat("\xff", 100000)} {
		wantForgotten(t, []impl.Item{a, b, c}, key, a, b, c)
		wantForgotten(t, nil, key)
	}
	for _, key := range []string{"", "\xff", strings.Repeat("a", 200)} {
		wantForgotten(t, []impl.Item{a, itemOf(key, 5, nil), b}, key, a, b)
	}
	for n := range 40 {
		l := itemsOf(n)
		if n <= 30 {
			wantForgotten(t, l, "x", l...)
			wantForgotten(t, l, "k0", l[min(n, 1):]...)
			continue
		}
		for _, key := range []string{"x", "k0", "k30"} {
			if others, ok := impl.Forget(l, key); len(others) != 0 || ok {
				t.Errorf("Forget of %d items = %+v, %v", n, others, ok)
			}
		}
	}
	for _, bad := range wrongItems() {
		for _, l := range [][]impl.Item{{bad}, {a, bad}, {bad, a}} {
			for _, key := range []string{"a", "k", "x", bad.Key} {
				if others, ok := impl.Forget(l, key); len(others) != 0 || ok {
					t.Errorf("Forget(%+v, %q) = %+v, %v", l, key, others, ok)
				}
			}
		}
	}
}

func TestValidatorsOf(t *testing.T) {
	match := func(s string) impl.Field { return field("if-none-match", s) }
	since := func(s string) impl.Field { return field("if-modified-since", s) }
	wantValidators(t, keptThen())
	wantValidators(t, keptThen(fieldsOf("ETags", `"e"`, "modified", datesAt(changed)[0], "If-None-Match", `"e"`, "If-Modified-Since", datesAt(changed)[0])...))
	tags := []string{`""`, `"e"`, `W/"e"`, `W/""`, `"` + strings.Repeat("e", 60) + `"`, `"!~,"`, `"*"`, `"W/"`}
	for _, name := range spellings("etag") {
		for _, told := range tags {
			wantValidators(t, keptThen(field(name, told)), match(told))
			wantValidators(t, keptThen(field("a", `"b"`), field(name, told), field("Date", datesAt(changed)[0])), match(told))
			for _, second := range append([]string{"", "x", told}, tags...) {
				wantValidators(t, keptThen(field(name, told), field("ETag", second)))
				wantValidators(t, keptThen(field("etag", second), field(name, told)))
			}
		}
		for _, wrong := range append(wrongTags(), "*", `"e", "f"`, `w/"e"`, `W/e`, `"`, `W/`, `W/"`) {
			wantValidators(t, keptThen(field(name, wrong)))
			wantValidators(t, keptThen(field(name, wrong), field("Last-Modified", datesAt(changed)[0])), since(datesAt(changed)[0]))
		}
	}
	for _, name := range []string{"last-modified", "Last-Modified", "LAST-MODIFIED"} {
		for _, second := range []int{changed, arrived, arrived + 1000, 86400 * 9} {
			for _, told := range datesAt(second) {
				// As it was told, in whatever form.
				wantValidators(t, keptThen(field(name, told)), since(told))
				for _, other := range []string{"", "x", told, datesAt(changed)[0]} {
					wantValidators(t, keptThen(field(name, told), field("Last-Modified", other)))
					wantValidators(t, keptThen(field("ETag", `"e"`), field(name, told), field("last-modified", other)), match(`"e"`))
				}
				wantValidators(t, keptThen(field(name, told), field("ETag", `W/"e"`)), match(`W/"e"`), since(told))
				wantValidators(t, keptThen(field("ETag", `"e"`), field(name, told)), match(`"e"`), since(told))
			}
		}
		for _, wrong := range wrongDates() {
			wantValidators(t, keptThen(field(name, wrong)))
			wantValidators(t, keptThen(field(name, wrong), field("ETag", `"e"`)), match(`"e"`))
		}
	}
	// Two digits of a year are read when it came.
	later := newYear(t, 2050)
	now, then := field("Last-Modified", "Saturday, 06-Nov-94 08:49:37 GMT"), field("Last-Modified", "Sunday, 06-Nov-94 08:49:37 GMT")
	wantValidators(t, keptOf(100, arrived, now))
	wantValidators(t, keptOf(100, arrived, then), since(then.Value))
	wantValidators(t, keptOf(100, later, now), since(now.Value))
	wantValidators(t, keptOf(100, later, then))
	for _, bad := range wrongKept() {
		bad.Answer.Fields = append(slices.Clone(bad.Answer.Fields), field("ETag", `"e"`))
		if l, ok := impl.ValidatorsOf(bad); len(l) != 0 || ok {
			t.Errorf("ValidatorsOf(%+v) = %q, %v", bad, l, ok)
		}
	}
}

func TestRefreshed(t *testing.T) {
	for _, c := range []struct{ old, renewing, want []impl.Field }{
		{nil, nil, nil}, {fieldsOf("a", "1"), nil, fieldsOf("a", "1")}, {nil, fieldsOf("a", "1"), fieldsOf("a", "1")}, {fieldsOf("a", "1"), fieldsOf("b", "2"), fieldsOf("a", "1", "b", "2")},
		{fieldsOf("a", "1", "b", "2"), fieldsOf("a", "3"), fieldsOf("a", "3", "b", "2")}, {fieldsOf("a", "1", "b", "2"), fieldsOf("b", "4", "a", "3"), fieldsOf("a", "3", "b", "4")}, {fieldsOf("a", "1"), fieldsOf("a", ""), fieldsOf("a", "")}, {fieldsOf("a", "1"), fieldsOf("c", "1", "b", "2"), fieldsOf("a", "1", "c", "1", "b", "2")},
		// In other letters: the name stays as it was spelled.
		{fieldsOf("ETag", "1"), fieldsOf("etag", "2"), fieldsOf("ETag", "2")}, {fieldsOf("a", "1", "b", "2"), fieldsOf("B", "3", "A", "4"), fieldsOf("a", "4", "b", "3")}, {nil, fieldsOf("ETag", "1"), fieldsOf("ETag", "1")},
		// Several of one name, that were kept: all others go.
		{fieldsOf("a", "1", "b", "2", "A", "3"), fieldsOf("a", "4"), fieldsOf("a", "4", "b", "2")}, {fieldsOf("a", "1", "a", "2", "a", "3"), fieldsOf("A", "4"), fieldsOf("a", "4")}, {fieldsOf("a", "1", "a", "2"), fieldsOf("b", "4"), fieldsOf("a", "1", "a", "2", "b", "4")},
		// Several of one name, that came: all are there.
		{nil, fieldsOf("a", "1", "a", "2"), fieldsOf("a", "1", "a", "2")}, {fieldsOf("a", "1"), fieldsOf("a", "2", "a", "3"), fieldsOf("a", "2", "a", "3")}, {fieldsOf("a", "1", "b", "2"), fieldsOf("a", "3", "A", "4"), fieldsOf("a", "3", "b", "2", "A", "4")}, {fieldsOf("b", "2"), fieldsOf("a", "3", "A", "4", "a", "3"), fieldsOf("b", "2", "a", "3", "A", "4", "a", "3")},
		{fieldsOf("a", "1", "a", "2", "b", "3"), fieldsOf("a", "4", "a", "5"), fieldsOf("a", "4", "b", "3", "a", "5")}, {fieldsOf("a", "1", "b", "2"), fieldsOf("a", "3", "b", "4", "a", "5", "b", "6"), fieldsOf("a", "3", "b", "4", "a", "5", "b", "6")}, {fieldsOf("a", "1"), fieldsOf("a", "2", "a", "3", "b", "4"), fieldsOf("a", "2", "a", "3", "b", "4")},
		// The length is the body's.
		{nil, fieldsOf("Content-Length", "0"), nil}, {fieldsOf("Content-Length", "0"), nil, fieldsOf("Content-Length", "0")}, {fieldsOf("Content-Length", "0"), fieldsOf("content-length", "00", "a", "1"), fieldsOf("Content-Length", "0", "a", "1")}, {fieldsOf("a", "1"), fieldsOf("CONTENT-LENGTH", "0", "a", "2", "content-length", "0, 0"), fieldsOf("a", "2")}, {fieldsOf("a", "1"), fieldsOf("content-lengths", "5"), fieldsOf("a", "1", "content-lengths", "5")},
		// Fields with names of their own meaning are as others.
		{fieldsOf("Vary", "a", "Date", "x"), fieldsOf("vary", "*", "date", "y"), fieldsOf("Vary", "*", "Date", "y")}, {fieldsOf("Age", "5", "age", "6"), fieldsOf("Age", "0"), fieldsOf("Age", "0")}, {nil, fieldsOf("Cache-Control", "no-store"), fieldsOf("Cache-Control", "no-store")},
	} {
		wantRefreshed(t, c.old, c.renewing, c.want...)
	}
}

// All else than the fields and the times stays; the body of what came is
// nothing.
func TestRefreshedKeepsTheBody(t *testing.T) {
	length := field("Content-Length", "2")
	for _, a := range []impl.Response{answerOf(304), {Status: 304, Reason: "Not Modified"}, {Status: 304, Reason: "x", Fields: fieldsOf("content-length", "3"), Body: "new"}, {Status: 304, Fields: fieldsOf("content-length", "2"), Body: "no"}} {
		for _, status := range []int{100, 200, 304, 404, 599} {
			old := impl.Kept{Answer: impl.Response{Status: status, Reason: "R", Fields: []impl.Field{length, field("a", "1")}, Body: "hi"}, Asked: 3, Came: 4}
			want := old
			for _, times := range [][2]int{{0, 0}, {0, 1}, {3, 4}, {5, 6}, {6, 6}, {0, impl.MaxSecond}, {impl.MaxSecond, impl.MaxSecond}} {
				want.Asked, want.Came = times[0], times[1]
				if got, ok := impl.Refreshed(old, a, times[0], times[1]); !sameKept(got, want) || !ok {
					t.Errorf("Refreshed(%+v, %+v) = %+v, %v, not %+v", old, a, got, ok, want)
				}
			}
			for _, times := range [][2]int{{1, 0}, {7, 6}, {-1, 0}, {-1, -1}, {-5, 5}, {math.MinInt, 5}, {0, -1}, {0, impl.MaxSecond + 1}, {impl.MaxSecond, impl.MaxSecond + 1}, {impl.MaxSecond + 1, impl.MaxSecond + 1}, {impl.MaxSecond + 1, impl.MaxSecond}, {math.MaxInt, math.MaxInt}, {math.MinInt, math.MinInt}, {math.MaxInt, math.MinInt}} {
				wantNotRefreshed(t, old, a, times[0], times[1])
			}
		}
	}
}

func TestRefreshedRefused(t *testing.T) {
	k := keptOf(1, 2, fieldsOf("a", "1")...)
	for status := 100; status <= 599; status++ {
		if status != 304 {
			wantNotRefreshed(t, k, answerOf(status, field("a", "2")), 5, 6)
		}
	}
	for _, a := range wrongAnswers() {
		wantNotRefreshed(t, k, a, 5, 6)
		if a.Status == 200 {
			a.Status = 304
		}
		wantNotRefreshed(t, k, a, 5, 6)
	}
	for _, bad := range wrongKept() {
		wantNotRefreshed(t, bad, answerOf(304), 5, 6)
		wantNotRefreshed(t, bad, answerOf(304, field("a", "2")), 5, 6)
	}
}

func TestRefreshedOfManyFields(t *testing.T) {
	for n := range 41 {
		old := manyFields(n)
		for m := 0; m <= 41-n && m <= 40; m++ {
			renewing := slices.Clone(manyFields(40)[:m])
			for i := range renewing {
				renewing[i].Name = "m" + strconv.Itoa(i/3)
			}
			if n+m > 40 {
				wantNotRefreshed(t, keptThen(old...), answerOf(304, renewing...), 5, 6)
				continue
			}
			wantRefreshed(t, old, renewing, append(slices.Clone(old), renewing...)...)
		}
		// What stands there already is no more.
		changed := slices.Clone(old)
		for i := range changed {
			changed[i].Value = "x"
		}
		wantRefreshed(t, old, changed, changed...)
	}
	// The head.
	value := strings.Repeat("v", 290)
	old := fieldsOf("a", value, "b", value, "c", value, "d", value, "e", value)
	wantRefreshed(t, old, fieldsOf("a", "1"), fieldsOf("a", "1", "b", value, "c", value, "d", value, "e", value)...)
	wantRefreshed(t, old, fieldsOf("f", value), append(old, field("f", value))...)
	wantNotRefreshed(t, keptThen(old...), answerOf(304, field("f", value), field("g", value)), 5, 6)
	wantNotRefreshed(t, keptThen(old...), answerOf(304, field("a", value), field("a", value), field("a", value)), 5, 6)
	rest := 2000 - len(headText(old)) - len("f: \r\n")
	long := append(old, field("f", strings.Repeat("w", 200)), field("g", strings.Repeat("w", rest-200-len("g: \r\n"))))
	wantRefreshed(t, old, long[5:], long...)
	longer := slices.Clone(long)
	longer[6].Value += "w"
	wantNotRefreshed(t, keptThen(old...), answerOf(304, longer[5:]...), 5, 6)
	// There is no room for a new one, until another one has gone.
	full := append(manyFields(39), field("n0", "again"))
	wantRefreshed(t, full, fieldsOf("n0", "x", "new", "y"), append(append(fieldsOf("n0", "x"), full[1:39]...), field("new", "y"))...)
	wantNotRefreshed(t, keptThen(full...), answerOf(304, field("new", "y"), field("n0", "x")), 5, 6)
}

func headText(l []impl.Field) string {
	s, _ := impl.ResponseBytes(responseOf("", l...))
	return s
}

// The second reading of what is kept, in the words of the document.

func goodItemByHand(it impl.Item) bool {
	_, star, list := varyByForm(it.Kept.Answer.Fields)
	good := !slices.ContainsFunc(it.Asks, func(f impl.Field) bool { return !impl.GoodField(f) })
	return good && len(it.Key) <= 200 && len(it.Asks) <= 40 && impl.GoodKept(it.Kept) && list && !star
}

func goodItemsByHand(l []impl.Item) bool {
	return len(l) <= 30 && !slices.ContainsFunc(l, func(it impl.Item) bool { return !goodItemByHand(it) })
}

func matchesByHand(it impl.Item, asks []impl.Field) bool {
	names, _, _ := varyByForm(it.Kept.Answer.Fields)
	for _, name := range names {
		own, other := valuesByHand(it.Asks, name), valuesByHand(asks, name)
		if (len(own) == 0) != (len(other) == 0) || strings.Join(own, ", ") != strings.Join(other, ", ") {
			return false
		}
	}
	return true
}

// pickByHand tells -1 where there is none.
func pickByHand(l []impl.Item, key string, asks []impl.Field) int {
	at := []int{}
	for i, it := range l {
		if it.Key == key && matchesByHand(it, asks) {
			at = append(at, i)
		}
	}
	sort.SliceStable(at, func(i, j int) bool { return l[at[i]].Kept.Came > l[at[j]].Kept.Came })
	return append(at, -1)[0]
}

func putByHand(l []impl.Item, it impl.Item) []impl.Item {
	others := slices.DeleteFunc(slices.Clone(l), func(old impl.Item) bool { return old.Key == it.Key && matchesByHand(old, it.Asks) })
	return append([]impl.Item{it}, others[:min(len(others), 29)]...)
}

func forgetByHand(l []impl.Item, key string) []impl.Item {
	return slices.DeleteFunc(slices.Clone(l), func(it impl.Item) bool { return it.Key == key })
}

func refreshedByHand(k impl.Kept, a impl.Response, asked int, came int) (impl.Kept, bool) {
	l := slices.Clone(k.Answer.Fields)
	for i, f := range a.Fields {
		again := len(valuesByHand(a.Fields[:i], f.Name)) > 0
		switch {
		case strings.EqualFold(f.Name, "content-length"):
		case again:
			l = append(l, f)
		default:
			l, _ = setByHand(l, f)
		}
		if len(l) > 40 {
			return impl.Kept{}, false
		}
	}
	k.Answer.Fields, k.Asked, k.Came = l, asked, came
	if a.Status != 304 || !impl.GoodKept(k) {
		return impl.Kept{}, false
	}
	return k, true
}

func validatorsByHand(k impl.Kept) []impl.Field {
	l := []impl.Field{}
	if tags := valuesByHand(k.Answer.Fields, "etag"); len(tags) == 1 && tagForm.MatchString(tags[0]) {
		l = append(l, field("if-none-match", tags[0]))
	}
	if _, ok := onlyDateByHand(k.Answer.Fields, "last-modified"); ok {
		l = append(l, field("if-modified-since", valuesByHand(k.Answer.Fields, "last-modified")[0]))
	}
	return l
}

func anyAsks(r *rand.Rand) []impl.Field {
	l := []impl.Field{}
	for range r.Intn(4) {
		l = append(l, field([]string{"a", "A", "b", "B", "c"}[r.Intn(5)], []string{"", "1", "1", "2", "1, 2"}[r.Intn(5)]))
	}
	return l
}

func anyAnswerFields(r *rand.Rand) []impl.Field {
	one := func(l ...string) string { return l[r.Intn(len(l))] }
	l := []impl.Field{}
	for range r.Intn(5) {
		name := one("vary", "Vary", "ETag", "etag", "Last-Modified", "last-modified", "Cache-Control", "Expires", "x", "X", "y")
		value := one("", "1", "2")
		switch smallOf(name) {
		case "vary":
			value = one("a", "b", "A, b", "c,a", "", "x", "B")
		case "etag":
			value = one(`"e"`, `"f"`, `W/"e"`, "e", "")
		case "last-modified", "expires":
			value = one(append(datesAt(arrived-r.Intn(1000)), "", "x")...)
		case "cache-control":
			value = one("max-age=5", "no-store", "public", "private", "must-revalidate", "s-maxage=5", "no-cache", "")
		}
		l = append(l, field(name, value))
	}
	return l
}

func anyItem(r *rand.Rand) impl.Item {
	return itemOf([]string{"k", "k", "x", ""}[r.Intn(4)], arrived+r.Intn(4), anyAsks(r), anyAnswerFields(r)...)
}

func anyItems(r *rand.Rand) []impl.Item {
	l := []impl.Item{}
	for range r.Intn([]int{5, 9, 31}[r.Intn(3)]) {
		l = append(l, anyItem(r))
	}
	return l
}

func TestStoreBySecondReading(t *testing.T) {
	r := rand.New(rand.NewSource(93))
	counts := map[string]int{}
	for range 20000 {
		l, it, asks := anyItems(r), anyItem(r), anyAsks(r)
		key := []string{"k", "x", ""}[r.Intn(3)]
		wantMatch(t, it, asks, matchesByHand(it, asks))
		at := pickByHand(l, key, asks)
		wantPick(t, l, key, asks, at)
		put := putByHand(l, it)
		wantPut(t, l, it, put...)
		others := forgetByHand(l, key)
		wantForgotten(t, l, key, others...)
		wantValidators(t, it.Kept, validatorsByHand(it.Kept)...)
		asked, answered := requestOf("", append(anyAsks(r), append(anyControl(r), fieldsOf("Authorization", "x")[:r.Intn(2)]...)...)...), answerOf([]int{200, 304, 500}[r.Intn(3)], anyAnswerFields(r)...)
		keep := mayKeepByHand(asked, answered)
		wantKeep(t, asked, answered, keep)
		counts[fmt.Sprint("picked ", min(at, 1))]++
		counts[fmt.Sprint("gone ", min(len(l)+1-len(put), 2))]++
		counts[fmt.Sprint("forgotten ", min(len(l)-len(others), 1))]++
		counts[fmt.Sprint("validators ", len(validatorsByHand(it.Kept)))]++
		counts[fmt.Sprint("kept ", keep)]++
		if t.Failed() {
			t.FailNow()
		}
	}
	if len(counts) != 13 {
		t.Error(counts)
	}
	for kind, n := range counts {
		if n < 200 {
			t.Error(kind, n)
		}
	}
}

// Promise 9.
func TestWhatIsPutIsPickedAgain(t *testing.T) {
	r := rand.New(rand.NewSource(94))
	for range 20000 {
		l, it := anyItems(r), anyItem(r)
		put, ok := impl.PutItem(l, it)
		if !ok || len(put) > 30 || !sameItem(put[0], it) {
			t.Fatalf("PutItem(%+v, %+v) = %+v, %v", l, it, put, ok)
		}
		// The same choice: by names in other letters, with all values of a
		// name joined to one field, and beside what no answer varies by.
		wantPick(t, put, it.Key, it.Asks, 0)
		joined := fieldsOf("Zzz", "1")
		for _, name := range []string{"C", "b", "A"} {
			values := valuesByHand(it.Asks, name)
			if one := strings.Join(values, ", "); len(values) > 0 && !strings.HasPrefix(one, " ") && !strings.HasSuffix(one, " ") {
				values = []string{one}
			}
			for _, value := range values {
				joined = append(joined, field(name, value))
			}
		}
		wantPick(t, put, it.Key, joined, 0)
		if again, ok := impl.PutItem(put, it); !ok || !sameItems(again, put) {
			t.Fatalf("PutItem(%+v, %+v) = %+v, %v", put, it, again, ok)
		}
		if others, ok := impl.Forget(put, it.Key); !ok {
			t.Fatalf("Forget(%+v, %q) tells false", put, it.Key)
		} else {
			wantPick(t, others, it.Key, it.Asks, -1)
		}
		if t.Failed() {
			t.FailNow()
		}
	}
}

// Promise 9.
func TestWhatIsMadeNewHasTheNewFieldsAndItsOldBody(t *testing.T) {
	r := rand.New(rand.NewSource(95))
	counts := map[bool]int{}
	for range 20000 {
		k := impl.Kept{Answer: responseOf("hi", append(append(manyFields(max(r.Intn(48)-12, 0)), anyAnswerFields(r)...), field("Content-Length", "2"))...), Asked: 1, Came: 2}
		a := answerOf(304, append(anyAnswerFields(r), append(anyAnswerFields(r), fieldsOf("content-length", "0")[:r.Intn(2)]...)...)...)
		if !impl.GoodKept(k) {
			continue
		}
		want, fits := refreshedByHand(k, a, 5, 6)
		got, ok := impl.Refreshed(k, a, 5, 6)
		counts[ok]++
		if ok != fits || !sameKept(got, want) {
			t.Fatalf("Refreshed(%+v, %+v) = %+v, %v, not %+v, %v", k, a, got, ok, want, fits)
		}
		if !ok {
			continue
		}
		if got.Answer.Body != "hi" || got.Answer.Status != 200 || got.Came != 6 {
			t.Fatalf("Refreshed(%+v, %+v) = %+v", k, a, got)
		}
		for _, f := range append(slices.Clone(k.Answer.Fields), a.Fields...) {
			values := valuesByHand(a.Fields, f.Name)
			if len(values) == 0 || smallOf(f.Name) == "content-length" {
				values = valuesByHand(k.Answer.Fields, f.Name)
			}
			if !slices.Equal(valuesByHand(got.Answer.Fields, f.Name), values) {
				t.Fatalf("Refreshed(%+v, %+v) = %+v: %q", k, a, got, f.Name)
			}
		}
	}
	if counts[true] < 1000 || counts[false] < 500 {
		t.Error(counts)
	}
}

// itemsWithSpare are a copy in which each list has something behind its length.
func itemsWithSpare(l []impl.Item) []impl.Item {
	copied := []impl.Item{}
	for _, it := range l {
		copied = append(copied, itemWithSpare(it))
	}
	return withSpare(copied, itemOf("k", impl.MaxSecond, nil))
}

func itemWithSpare(it impl.Item) impl.Item {
	it.Asks = withSpare(it.Asks, field("a", "1"))
	it.Kept.Answer.Fields = withSpare(it.Kept.Answer.Fields, field("Vary", "*"))
	return it
}

func copyItems(l []impl.Item) []impl.Item {
	copied := slices.Clone(l)
	for i := range copied {
		copied[i].Asks = slices.Clone(l[i].Asks)
		copied[i].Kept.Answer.Fields = slices.Clone(l[i].Kept.Answer.Fields)
	}
	return copied
}

// wholeItems tells all that is in the memory of items, also behind each length.
func wholeItems(l []impl.Item) string {
	s := ""
	for _, it := range l[:cap(l)] {
		s += fmt.Sprint(it, it.Asks[:cap(it.Asks)], it.Kept.Answer.Fields[:cap(it.Kept.Answer.Fields)], "\n")
	}
	return s
}

// listsOf are all lists of fields of items.
func listsOf(l []impl.Item) [][]impl.Field {
	lists := [][]impl.Field{}
	for _, it := range l {
		lists = append(lists, it.Asks, it.Kept.Answer.Fields)
	}
	return lists
}

// checkOwnMemory asks whether no two lists have memory together, and whether
// there is nothing behind their lengths; it writes into them.
func checkOwnMemory(t *testing.T, lists [][]impl.Field) {
	t.Helper()
	for i, l := range lists {
		for _, f := range l[len(l):cap(l)] {
			if f != (impl.Field{}) {
				t.Fatalf("%q lies behind a list", f)
			}
		}
		fill(l, field("list", strconv.Itoa(i)))
	}
	for i, l := range lists {
		for _, f := range l[:cap(l)] {
			if f != field("list", strconv.Itoa(i)) {
				t.Fatalf("lists %d and %s share memory", i, f.Value)
			}
		}
	}
}

func TestStoreFunctionsWriteIntoNothingAndShareNothing(t *testing.T) {
	r := rand.New(rand.NewSource(96))
	for range 3000 {
		l, it, asks, key := anyItems(r), anyItem(r), anyAsks(r), []string{"k", "x", "y"}[r.Intn(3)]
		if len(l) > 1 && r.Intn(2) == 0 {
			// Two items may have the same lists.
			l[0].Asks, l[0].Kept.Answer.Fields = l[1].Asks, l[1].Kept.Answer.Fields
		}
		if r.Intn(4) == 0 {
			it.Asks = append(it.Asks, impl.Field{})
		}
		given, one, asked := itemsWithSpare(l), itemWithSpare(it), requestOf("")
		asked.Fields = withSpare(asks, field("a", "2"))
		came := answerOf(304)
		came.Fields = withSpare(anyAnswerFields(r), field("ETag", `"spare"`))
		before, beforeOne := wholeItems(given), wholeItems([]impl.Item{one})
		beforeAsked, beforeCame := fmt.Sprint(asked, asked.Fields[:cap(asked.Fields)]), fmt.Sprint(came, came.Fields[:cap(came.Fields)])

		told := storeAnswers(given, one, asked, came, key)
		plainAsked, plainCame := asked, came
		plainAsked.Fields, plainCame.Fields = slices.Clone(asks), slices.Clone(came.Fields)
		if fmt.Sprint(told...) != fmt.Sprint(storeAnswers(copyItems(l), copyItems([]impl.Item{it})[0], plainAsked, plainCame, key)...) {
			t.Fatalf("what lies behind the lists counts: %+v, %+v", l, it)
		}
		for _, answer := range told {
			switch answered := answer.(type) {
			case []impl.Item:
				checkOwnMemory(t, listsOf(answered))
				for _, behind := range answered[len(answered):cap(answered)] {
					if !sameItem(behind, impl.Item{}) {
						t.Fatalf("%+v lies behind the items", behind)
					}
				}
				fill(answered, impl.Item{Key: "overwritten"})
			case impl.Kept:
				checkOwnMemory(t, [][]impl.Field{answered.Answer.Fields})
			case []impl.Field:
				checkOwnMemory(t, [][]impl.Field{answered})
			case []string:
				fill(answered, "overwritten")
			}
		}
		if wholeItems(given) != before || wholeItems([]impl.Item{one}) != beforeOne {
			t.Fatalf("%+v or %+v is written into", given, one)
		}
		if fmt.Sprint(asked, asked.Fields[:cap(asked.Fields)]) != beforeAsked || fmt.Sprint(came, came.Fields[:cap(came.Fields)]) != beforeCame {
			t.Fatalf("%+v or %+v is written into", asked, came)
		}
	}
}

// storeAnswers are those of all functions.
func storeAnswers(l []impl.Item, it impl.Item, r impl.Request, came impl.Response, key string) []any {
	may, ok := impl.MayKeep(r, it.Kept.Answer)
	told, ok1 := impl.KeyOf(impl.Url{Scheme: "http", Host: "h", Path: "/"}, r)
	names, star, ok2 := impl.VaryOf(it.Kept.Answer)
	is, ok3 := impl.Matches(it, r)
	at, ok4 := impl.PickItem(l, key, r)
	put, ok5 := impl.PutItem(l, it)
	k, ok6 := impl.Refreshed(it.Kept, came, arrived, arrived)
	validators, ok7 := impl.ValidatorsOf(it.Kept)
	others, ok8 := impl.Forget(l, key)
	return []any{may, ok, told, ok1, names, star, ok2, is, ok3, at, ok4, put, ok5, k, ok6, validators, ok7, others, ok8}
}

// Any bytes and numbers, at each function: no panic, and the second reading's
// answer, or nothing.
func TestStoreFunctionsAnswerAtAnything(t *testing.T) {
	r := rand.New(rand.NewSource(97))
	text := func() string {
		b := make([]byte, max(r.Intn(9)-6, 0))
		r.Read(b)
		return randomOf(r, []string{"a", ",", "*", `"`, "b", " ", "k", "max-age=5", "/", "..", "%41"}, 5) + string(b)
	}
	seldom := func() bool { return r.Intn(14) == 0 }
	fields := func(l []impl.Field) []impl.Field {
		if seldom() {
			l = append(l, field([]string{"Vary", "a", "ETag", "x"}[r.Intn(4)], text()))
		}
		if r.Intn(40) == 0 {
			l = append(l, field(text(), "x"))
		}
		if r.Intn(60) == 0 {
			l = append(manyFields(38), l...)
		}
		return l
	}
	number := func(usual int) int {
		if seldom() {
			return []int{0, -1, impl.MaxSecond, impl.MaxSecond + 1, int(r.Uint64()), math.MaxInt, math.MinInt}[r.Intn(7)]
		}
		return usual
	}
	item := func() impl.Item {
		it := anyItem(r)
		it.Asks, it.Kept.Answer.Fields = fields(it.Asks), fields(it.Kept.Answer.Fields)
		if seldom() {
			it.Key = text() + strings.Repeat("k", r.Intn(2)*r.Intn(300))
			it.Kept.Asked, it.Kept.Came = number(it.Kept.Asked), number(it.Kept.Came)
		}
		return it
	}
	counts := map[string]int{}
	for range 20000 {
		it, key := item(), []string{"k", "x", "", text()}[r.Intn(4)]
		l := []impl.Item{}
		for range r.Intn(5) + r.Intn(2)*r.Intn(2)*r.Intn(2)*27 {
			l = append(l, item())
		}
		asked := impl.Request{Method: "GET", Target: "/" + text(), Fields: fields(anyAsks(r))}
		if seldom() {
			asked.Method, asked.Body = text(), text()
		}
		goodAsked, goodItem, goodItems := impl.GoodRequest(asked), goodItemByHand(it), goodItemsByHand(l)
		counts[fmt.Sprint(goodAsked, goodItem, goodItems)]++

		is, ok := impl.Matches(it, asked)
		if ok != (goodAsked && goodItem) || is != (ok && matchesByHand(it, asked.Fields)) {
			t.Fatalf("Matches(%+v, %+v) = %v, %v", it, asked, is, ok)
		}
		at := -1
		if goodAsked && goodItems {
			at = pickByHand(l, key, asked.Fields)
		}
		if picked, there := impl.PickItem(l, key, asked); picked != max(at, 0) || there != (at >= 0) {
			t.Fatalf("PickItem(%+v, %q, %+v) = %d, %v", l, key, asked, picked, there)
		}
		wanted := []impl.Item{}
		if goodItem && goodItems {
			wanted = putByHand(l, it)
		}
		if put, ok := impl.PutItem(l, it); ok != (goodItem && goodItems) || !sameItems(put, wanted) {
			t.Fatalf("PutItem(%+v, %+v) = %+v, %v", l, it, put, ok)
		}
		others := []impl.Item{}
		if goodItems {
			others = forgetByHand(l, key)
		}
		if left, ok := impl.Forget(l, key); ok != goodItems || !sameItems(left, others) {
			t.Fatalf("Forget(%+v, %q) = %+v, %v", l, key, left, ok)
		}
		checkOneAnswer(t, it.Kept, asked, answerOf([]int{304, 304, 304, 200, 0}[r.Intn(5)], fields(anyAnswerFields(r))...), number(arrived), number(arrived+1))
		if u, ok := impl.KeyOf(impl.Url{Scheme: "http", Host: text() + "h", Path: "/" + text()}, asked); !ok && u != "" || ok && !goodAsked {
			t.Fatalf("KeyOf %+v = %q, %v", asked, u, ok)
		}
	}
	if len(counts) != 8 {
		t.Error(counts)
	}
	for kind, n := range counts {
		if n < 100 {
			t.Error(kind, n)
		}
	}
}

// checkOneAnswer is of the functions that take no items.
func checkOneAnswer(t *testing.T, k impl.Kept, asked impl.Request, a impl.Response, from int, to int) {
	t.Helper()
	goodAnswer := impl.GoodResponse(k.Answer)
	names, star, list := []string(nil), false, false
	if goodAnswer {
		names, star, list = varyByForm(k.Answer.Fields)
	}
	if told, any, ok := impl.VaryOf(k.Answer); !slices.Equal(told, names) || any != star || ok != list {
		t.Fatalf("VaryOf(%+v) = %q, %v, %v", k.Answer, told, any, ok)
	}
	good := goodAnswer && impl.GoodRequest(asked)
	if may, ok := impl.MayKeep(asked, k.Answer); ok != good || may != (good && mayKeepByHand(asked, k.Answer)) {
		t.Fatalf("MayKeep(%+v, %+v) = %v, %v", asked, k.Answer, may, ok)
	}
	want, fits := impl.Kept{}, impl.GoodKept(k) && impl.GoodResponse(a)
	if fits {
		want, fits = refreshedByHand(k, a, from, to)
	}
	if got, ok := impl.Refreshed(k, a, from, to); ok != fits || !sameKept(got, want) {
		t.Fatalf("Refreshed(%+v, %+v, %d, %d) = %+v, %v", k, a, from, to, got, ok)
	}
	validators, ok := impl.ValidatorsOf(k)
	if ok != impl.GoodKept(k) || !ok && len(validators) != 0 {
		t.Fatalf("ValidatorsOf(%+v) = %q, %v", k, validators, ok)
	}
	// At other times two digits of a year are read otherwise.
	if ok && k.Came >= arrived && k.Came < arrived+4 && !slices.Equal(validators, validatorsByHand(k)) {
		t.Fatalf("ValidatorsOf(%+v) = %q", k, validators)
	}
}
