package tests

import (
	"fmt"
	"math/rand"
	"net/url"
	"strings"
	"testing"

	"loop.example/g00256/impl"
)

func readUrl(t *testing.T, s string) impl.Url {
	t.Helper()
	u, ok := impl.ReadUrl(s)
	if !ok {
		t.Fatalf("ReadUrl(%q) tells false", s)
	}
	return u
}

func urlText(t *testing.T, u impl.Url) string {
	t.Helper()
	s, ok := impl.UrlText(u)
	if !ok {
		t.Fatalf("UrlText(%+v) tells false", u)
	}
	return s
}

// urlOfLength is a good address whose text has so many bytes.
func urlOfLength(n int) impl.Url {
	return impl.Url{Scheme: "http", Host: "h", Path: "/" + strings.Repeat("a", n-len("http://h/"))}
}

func TestUrlTextsAreReadAndToldAgain(t *testing.T) {
	for s, want := range map[string]impl.Url{
		"http://h/":               {Scheme: "http", Host: "h", Path: "/"},
		"https://h/":              {Scheme: "https", Host: "h", Path: "/"},
		"http://h:1/":             {Scheme: "http", Host: "h", Port: 1, Path: "/"},
		"http://h:80/":            {Scheme: "http", Host: "h", Port: 80, Path: "/"},
		"https://h:443/":          {Scheme: "https", Host: "h", Port: 443, Path: "/"},
		"http://h:65535/":         {Scheme: "http", Host: "h", Port: 65535, Path: "/"},
		"http://h/?":              {Scheme: "http", Host: "h", Path: "/", Asks: true},
		"http://h/?q":             {Scheme: "http", Host: "h", Path: "/", Query: "q", Asks: true},
		"http://h/a?b?c/d":        {Scheme: "http", Host: "h", Path: "/a", Query: "b?c/d", Asks: true},
		"http://h//a//":           {Scheme: "http", Host: "h", Path: "//a//"},
		"http://h/./a/../b":       {Scheme: "http", Host: "h", Path: "/./a/../b"},
		"http://h/:80":            {Scheme: "http", Host: "h", Path: "/:80"},
		"http://h/://x":           {Scheme: "http", Host: "h", Path: "/://x"},
		"http://-.A9z/":           {Scheme: "http", Host: "-.A9z", Path: "/"},
		"http://h/!$&'()*+,;=:@":  {Scheme: "http", Host: "h", Path: "/!$&'()*+,;=:@"},
		"http://h/-._~":           {Scheme: "http", Host: "h", Path: "/-._~"},
		"http://h/?!$&'()*+,;=:@": {Scheme: "http", Host: "h", Path: "/", Query: "!$&'()*+,;=:@", Asks: true},
		"http://h/%00%ff%Aa?%7e":  {Scheme: "http", Host: "h", Path: "/%00%ff%Aa", Query: "%7e", Asks: true},
	} {
		u, ok := impl.ReadUrl(s)
		if !ok || u != want {
			t.Errorf("ReadUrl(%q) = %+v, %v", s, u, ok)
		}
		if !impl.GoodUrl(want) {
			t.Errorf("GoodUrl(%+v) tells false", want)
		}
		if told, ok := impl.UrlText(want); !ok || told != s {
			t.Errorf("UrlText(%+v) = %q, %v", want, told, ok)
		}
	}
}

func TestMissingPathIsASlash(t *testing.T) {
	for s, want := range map[string]string{
		"http://h":       "http://h/",
		"https://h:8":    "https://h:8/",
		"http://h?":      "http://h/?",
		"http://h?q/r?s": "http://h/?q/r?s",
		"http://h:80?q":  "http://h:80/?q",
	} {
		if told := urlText(t, readUrl(t, s)); told != want {
			t.Errorf("ReadUrl(%q) is told %q", s, told)
		}
	}
	if u, ok := impl.ReadUrl("http://h?" + strings.Repeat("q", 190)); !ok || len(urlText(t, u)) != impl.MaxUrl {
		t.Error("a missing path is not read at 199 bytes", u, ok)
	}
	// With its path this one would be told with a byte too many.
	if u, ok := impl.ReadUrl("http://h?" + strings.Repeat("q", 191)); ok || u != (impl.Url{}) {
		t.Error("a missing path is read at 200 bytes", u, ok)
	}
}

func TestReadUrlRefuses(t *testing.T) {
	for _, s := range []string{
		"", ":", "/", "h", "http", "http:", "http:/", "http:/h/", "http//h/", "http:///", "http://", "http://?q", "http://:80/",
		"ftp://h/", "HTTP://h/", "Http://h/", "httpx://h/", "ws://h/", "://h/", " http://h/", "http ://h/",
		"http://h:/", "http://h:0/", "http://h:00/", "http://h:080/", "http://h:65536/", "http://h:99999/", "http://h:100000/", "http://h:99999999999999999999/",
		"http://h:-1/", "http://h:+1/", "http://h:8a/", "http://h: 80/", "http://h:80:80/", "http://h:80a", "http://h::80/",
		"http://u@h/", "http://h_/", "http://[1]/", "http://h%41/", "http://h~/", "http://h h/", "http://\xe4/", "http://h\x00/",
		"http://h/ ", "http://h/#", "http://h/a#b", "http://h/a\"", "http://h/<", "http://h/>", "http://h/[", "http://h/]", "http://h/\\", "http://h/^", "http://h/`", "http://h/{", "http://h/|", "http://h/}", "http://h/\x7f", "http://h/\x80", "http://h/\xff", "http://h/\n", "http://h/\x00",
		"http://h/%", "http://h/%4", "http://h/%4g", "http://h/%g4", "http://h/%%41", "http://h/%4%41", "http://h/% 41", "http://h/%4/1", "http://h/%41 ", "http://h/%41%", "http://h/?%41#",
		"http://h/?%", "http://h/?%4", "http://h/?%4g", "http://h/?#", "http://h/? ", "http://h/?\xff", "http://h/?[",
		"http://" + strings.Repeat("h", 61) + "/",
		"http://h/" + strings.Repeat("a", 192),
		"http://h/" + strings.Repeat("a", 100000),
	} {
		if u, ok := impl.ReadUrl(s); ok || u != (impl.Url{}) {
			t.Errorf("ReadUrl(%q) = %+v, %v", s, u, ok)
		}
	}
}

// badUrls are addresses that are not good, each but for one thing.
func badUrls() []impl.Url {
	good := impl.Url{Scheme: "http", Host: "h", Path: "/"}
	bad := []impl.Url{{}, urlOfLength(impl.MaxUrl + 1), urlOfLength(100000)}
	for _, s := range []string{"", "HTTP", "htt", "httpx", "ftp", "http:", "\xff"} {
		u := good
		u.Scheme = s
		bad = append(bad, u)
	}
	for _, s := range []string{"", "h_", "h/", "h:80", "h%41", "h ", "u@h", "\x00", "h\x80", "h\xff", strings.Repeat("h", 61), strings.Repeat("h", 100000)} {
		u := good
		u.Host = s
		bad = append(bad, u)
	}
	for _, n := range []int{-1, -80, 65536, 1 << 32, 1<<32 + 80, 1<<63 - 1, -1 << 63} {
		u := good
		u.Port = n
		bad = append(bad, u)
	}
	for _, s := range []string{"", "a", "a/", "?", "/?", "/ ", "/#", "/%", "/%4", "/%zz", "/%%41", "/%41 ", "/%41%", "/%41\xff", "/\"", "/\x7f", "/\x80", "/\xff", "/\x00", " /"} {
		u := good
		u.Path = s
		bad = append(bad, u)
	}
	for _, s := range []string{"#", " ", "%", "%a", "%gg", "%%41", "\x7f", "\x80", "[", strings.Repeat("q", 191)} {
		u := good
		u.Query, u.Asks = s, true
		bad = append(bad, u)
	}
	u := good
	u.Query = "q"
	return append(bad, u)
}

func TestBadUrlsAreRefused(t *testing.T) {
	good := impl.Url{Scheme: "http", Host: "h", Path: "/"}
	for _, u := range badUrls() {
		if impl.GoodUrl(u) {
			t.Errorf("GoodUrl(%+v)", u)
		}
		if s, ok := impl.UrlText(u); ok || s != "" {
			t.Errorf("UrlText(%+v) = %q, %v", u, s, ok)
		}
		if n, ok := impl.NormalUrl(u); ok || n != (impl.Url{}) {
			t.Errorf("NormalUrl(%+v) = %+v, %v", u, n, ok)
		}
		for _, ref := range []string{"", "g", "?q", "/g", "//k", "http://k/"} {
			if r, ok := impl.ResolveUrl(u, ref); ok || r != (impl.Url{}) {
				t.Errorf("ResolveUrl(%+v, %q) = %+v, %v", u, ref, r, ok)
			}
		}
		for _, pair := range [][2]impl.Url{{u, u}, {u, good}, {good, u}} {
			if same, ok := impl.SameUrl(pair[0], pair[1]); ok || same {
				t.Errorf("SameUrl(%+v, %+v) = %v, %v", pair[0], pair[1], same, ok)
			}
		}
	}
}

func TestUrlLimitsMayBeMet(t *testing.T) {
	good := impl.Url{Scheme: "https", Host: "h", Path: "/"}
	for _, n := range []int{1, 59, 60} {
		u := good
		u.Host = strings.Repeat("h", n)
		if !impl.GoodUrl(u) || readUrl(t, urlText(t, u)) != u {
			t.Error("host of", n)
		}
	}
	for n := range 65536 {
		u := good
		u.Port = n
		if !impl.GoodUrl(u) || readUrl(t, urlText(t, u)) != u {
			t.Error("port", n)
		}
	}
	long := []impl.Url{urlOfLength(199), urlOfLength(200)}
	with := urlOfLength(196)
	with.Port = 999
	asks := urlOfLength(199)
	asks.Asks = true
	query := urlOfLength(190)
	query.Query, query.Asks = "123456789", true
	for i, u := range append(long, with, asks, query) {
		if s, ok := impl.UrlText(u); !ok || i > 0 && len(s) != impl.MaxUrl {
			t.Error(i, len(s), ok)
		} else if readUrl(t, s) != u {
			t.Error(i, "does not come back")
		}
	}
	with.Port = 1000
	query.Query += "0"
	secure := urlOfLength(200)
	secure.Scheme = "https"
	beyond := urlOfLength(200)
	beyond.Asks = true
	for i, u := range []impl.Url{with, query, secure, beyond, urlOfLength(201)} {
		if s, ok := impl.UrlText(u); ok || s != "" || impl.GoodUrl(u) {
			t.Error(i, "is beyond the limit")
		}
	}
}

// Each byte, alone, in each place: told apart by the words of the document.
func TestEachByteInEachPlace(t *testing.T) {
	const letters = "abcdefghijklmnopqrstuvwxyzABCDEFGHIJKLMNOPQRSTUVWXYZ0123456789"
	const unreserved = letters + "-._~"
	for n := 0; n < 256; n++ {
		s := string([]byte{byte(n)})
		check := func(what string, u impl.Url, want bool) {
			if got := impl.GoodUrl(u); got != want {
				t.Errorf("byte %d in a %s: %v", n, what, got)
			}
		}
		check("host", impl.Url{Scheme: "http", Host: s, Path: "/"}, strings.Contains(letters+"-.", s))
		check("path", impl.Url{Scheme: "http", Host: "h", Path: "/" + s}, strings.Contains(unreserved+"!$&'()*+,;=:@/", s))
		check("query", impl.Url{Scheme: "http", Host: "h", Path: "/", Query: s, Asks: true}, strings.Contains(unreserved+"!$&'()*+,;=:@/?", s))
		hex := strings.Contains("0123456789abcdefABCDEF", s)
		check("first digit", impl.Url{Scheme: "http", Host: "h", Path: "/%" + s + "0"}, hex)
		check("second digit", impl.Url{Scheme: "http", Host: "h", Path: "/%0" + s}, hex)

		want := s
		if !strings.Contains(unreserved, s) {
			want = fmt.Sprintf("%%%02X", n)
		}
		if e, ok := impl.PercentEncode(s); !ok || e != want {
			t.Errorf("PercentEncode(%q) = %q, %v", s, e, ok)
		}
		for _, form := range []string{"%%%02X", "%%%02x"} {
			told := fmt.Sprintf(form, n)
			if d, ok := impl.PercentDecode(told); !ok || d != s {
				t.Errorf("PercentDecode(%q) = %q, %v", told, d, ok)
			}
			u, ok := impl.NormalUrl(impl.Url{Scheme: "http", Host: "h", Path: "/x" + told, Query: told, Asks: true})
			if !ok || u.Path != "/x"+want || u.Query != want {
				t.Errorf("NormalUrl of %q: %+v, %v", told, u, ok)
			}
		}
	}
}

func TestNormalUrl(t *testing.T) {
	for s, want := range map[string]string{
		"http://EX.com/":             "http://ex.com/",
		"http://AZ-az.09/":           "http://az-az.09/",
		"http://h:80/":               "http://h/",
		"https://h:443/":             "https://h/",
		"http://h:443/":              "http://h:443/",
		"https://h:80/":              "https://h:80/",
		"http://h:65535/":            "http://h:65535/",
		"http://h/%41%7e%2D":         "http://h/A~-",
		"http://h/%2f%c3%Bc":         "http://h/%2F%C3%BC",
		"http://h/%2541":             "http://h/%2541",
		"http://h/%25%34%31":         "http://h/%2541",
		"http://h/%2e%2E/b":          "http://h/b",
		"http://h/a/%2e%2E/b":        "http://h/b",
		"http://h/a/.%2e":            "http://h/",
		"http://h/a/%2e":             "http://h/a/",
		"http://h/a%2f../b":          "http://h/a%2F../b",
		"http://h/a/b/../../c":       "http://h/c",
		"http://h/?%2e%2E/%61%2f":    "http://h/?../a%2F",
		"http://h/?/../a/./":         "http://h/?/../a/./",
		"http://h/?":                 "http://h/?",
		"http://h/A?B":               "http://h/A?B",
		"http://h":                   "http://h/",
		"http://h/%3f%23%5B":         "http://h/%3F%23%5B",
		"http://h/%00%7f%80%ff":      "http://h/%00%7F%80%FF",
		"http://h/%21%24%3a%40":      "http://h/%21%24%3A%40",
		"http://Ex.com:80/%7ea?q=%7": "",
	} {
		u, ok := impl.ReadUrl(s)
		n, ok2 := impl.NormalUrl(u)
		if want == "" {
			if ok || ok2 {
				t.Errorf("%q is taken", s)
			}
			continue
		}
		if !ok2 || urlText(t, n) != want {
			t.Errorf("NormalUrl of %q: %+v, %v, not %q", s, n, ok2, want)
		}
		if again, ok := impl.NormalUrl(n); !ok || again != n {
			t.Errorf("%q made normal once more: %+v, %v", want, again, ok)
		}
	}
}

func TestDropDots(t *testing.T) {
	for path, want := range map[string]string{
		"/":                  "/",
		"//":                 "//",
		"/a":                 "/a",
		"/a/":                "/a/",
		"/.":                 "/",
		"/..":                "/",
		"/./":                "/",
		"/../":               "/",
		"/../..":             "/",
		"/../../a":           "/a",
		"/a/.":               "/a/",
		"/a/./":              "/a/",
		"/a/./b":             "/a/b",
		"/a/..":              "/",
		"/a/../":             "/",
		"/a/../..":           "/",
		"/a/../../b":         "/b",
		"/a/b/..":            "/a/",
		"/a/b/../":           "/a/",
		"/a/b/../c":          "/a/c",
		"/a/b/../../c/./d/.": "/c/d/",
		"/a/./..":            "/",
		"/a/./../b":          "/b",
		"/a//..":             "/a/",
		"/a//../b":           "/a/b",
		"/a/..//b":           "//b",
		"/..//":              "//",
		"//..":               "/",
		"//../a":             "/a",
		"/...":               "/...",
		"/.a/..b/c./d..":     "/.a/..b/c./d..",
		"/a/.../..":          "/a/",
		"/%2e%2e/a":          "/%2e%2e/a",
		"/\x00/\xff/..":      "/\x00/",
		"/a?b/../c#d e/..":   "/",
		"/ /. /..":           "/ /",
	} {
		if d, ok := impl.DropDots(path); !ok || d != want {
			t.Errorf("DropDots(%q) = %q, %v, not %q", path, d, ok, want)
		}
	}
	for _, path := range []string{"", "a", ".", "..", "../", "./a", " /", "\xff/", "/" + strings.Repeat("a", 200), "/" + strings.Repeat("../", 70)} {
		if d, ok := impl.DropDots(path); ok || d != "" {
			t.Errorf("DropDots(%q) = %q, %v", path, d, ok)
		}
	}
	met := "/" + strings.Repeat("a", 199)
	if d, ok := impl.DropDots(met); !ok || d != met {
		t.Error("200 bytes", d, ok)
	}
}

// dotsByTheRfc is remove_dot_segments of RFC 3986, 5.2.4, of a path that
// begins with a slash.
func dotsByTheRfc(in string) string {
	out := ""
	for in != "" {
		switch {
		case strings.HasPrefix(in, "/./"):
			in = in[2:]
		case in == "/.":
			in = "/"
		case strings.HasPrefix(in, "/../"), in == "/..":
			in = "/" + strings.TrimPrefix(in[3:], "/")
			out = out[:max(strings.LastIndexByte(out, '/'), 0)]
		default:
			n := strings.IndexByte(in[1:], '/') + 1
			if n == 0 {
				n = len(in)
			}
			out += in[:n]
			in = in[n:]
		}
	}
	return out
}

func randomOf(r *rand.Rand, parts []string, most int) string {
	s := ""
	for range r.Intn(most + 1) {
		s += parts[r.Intn(len(parts))]
	}
	return s
}

func TestDropDotsByTheRfc(t *testing.T) {
	r := rand.New(rand.NewSource(1))
	for range 20000 {
		path := "/" + randomOf(r, []string{"/", "/", ".", "..", "a", "b", "/../", "/./", "\xff"}, 12)
		d, ok := impl.DropDots(path)
		if want := dotsByTheRfc(path); !ok || d != want {
			t.Fatalf("DropDots(%q) = %q, %v, not %q", path, d, ok, want)
		}
		if again, ok := impl.DropDots(d); !ok || again != d {
			t.Fatalf("DropDots(%q) once more: %q, %v", d, again, ok)
		}
	}
}

// The examples of RFC 3986, 5.4, but for fragments; what is no address of a
// known scheme is a path here.
func TestResolveUrlByTheRfc(t *testing.T) {
	base := readUrl(t, "http://a/b/c/d;p?q")
	for ref, want := range map[string]string{
		"g": "http://a/b/c/g", "./g": "http://a/b/c/g", "g/": "http://a/b/c/g/", "/g": "http://a/g", "//g": "http://g/",
		"?y": "http://a/b/c/d;p?y", "g?y": "http://a/b/c/g?y", ";x": "http://a/b/c/;x", "g;x": "http://a/b/c/g;x",
		"": "http://a/b/c/d;p?q", ".": "http://a/b/c/", "./": "http://a/b/c/", "..": "http://a/b/", "../": "http://a/b/",
		"../g": "http://a/b/g", "../..": "http://a/", "../../": "http://a/", "../../g": "http://a/g",
		"../../../g": "http://a/g", "../../../../g": "http://a/g", "/./g": "http://a/g", "/../g": "http://a/g",
		"g.": "http://a/b/c/g.", ".g": "http://a/b/c/.g", "g..": "http://a/b/c/g..", "..g": "http://a/b/c/..g",
		"./../g": "http://a/b/g", "./g/.": "http://a/b/c/g/", "g/./h": "http://a/b/c/g/h", "g/../h": "http://a/b/c/h",
		"g;x=1/./y": "http://a/b/c/g;x=1/y", "g;x=1/../y": "http://a/b/c/y",
		"g?y/./x": "http://a/b/c/g?y/./x", "g?y/../x": "http://a/b/c/g?y/../x",
	} {
		u, ok := impl.ResolveUrl(base, ref)
		if !ok || urlText(t, u) != want {
			t.Errorf("ResolveUrl of %q: %+v, %v, not %q", ref, u, ok, want)
		}
	}
}

func TestResolveUrlOfEachKind(t *testing.T) {
	for _, c := range [][3]string{
		{"https://H:8/a/./b?q", "", "https://H:8/a/./b?q"},
		{"http://h/a", "https://K:443/x/../y?z", "https://K:443/y?z"},
		{"http://h/a", "https://k", "https://k/"},
		{"http://h/a", "http://k?q", "http://k/?q"},
		{"https://h:8/a?q", "//K:80/x/./y?z", "https://K:80/x/y?z"},
		{"https://h:8/a?q", "//k", "https://k/"},
		{"https://h:8/a?q", "//k?r", "https://k/?r"},
		{"https://h:8/a?q", "/", "https://h:8/"},
		{"https://h:8/a?q", "/x//y?", "https://h:8/x//y?"},
		{"https://h:8/a/../b?q", "?", "https://h:8/b?"},
		{"https://h:8/a/./b?q", "?r?s", "https://h:8/a/b?r?s"},
		{"https://h:8/a/b?q", "g", "https://h:8/a/g"},
		{"https://h:8/a/b/?q", "g", "https://h:8/a/b/g"},
		{"https://h:8/a/b?q", "g?", "https://h:8/a/g?"},
		{"http://h", "g", "http://h/g"},
		{"http://h/a/../b/c", "g", "http://h/b/g"},
		{"http://h/a/%2e%2e/c", "%2E%2e/g", "http://h/a/%2e%2e/%2E%2e/g"},
		{"http://h/b/c?x/y", "g", "http://h/b/g"},
		{"http://h/b/c", "k:8", "http://h/b/k:8"},
		// Texts that ReadUrl does not read are paths.
		{"http://h/b/c", "ftp://k/x", "http://h/b/ftp://k/x"},
		{"http://h/b/c", "http://k:0/x", "http://h/b/http://k:0/x"},
		{"http://h/b/c", "http:x", "http://h/b/http:x"},
		// A bad byte may go with its part.
		{"http://h/b/c", "a b/../g", "http://h/b/g"},
		{"http://h/b/c", "%/../g", "http://h/b/g"},
		{"http://h/b/c", "//k/ /..", "http://k/"},
	} {
		u, ok := impl.ResolveUrl(readUrl(t, c[0]), c[1])
		if !ok || urlText(t, u) != c[2] {
			t.Errorf("ResolveUrl of %q and %q: %+v, %v, not %q", c[0], c[1], u, ok, c[2])
		}
	}
}

func TestResolveUrlOfLongPaths(t *testing.T) {
	base := readUrl(t, "http://h/b/c")
	for _, c := range [][2]string{
		{strings.Repeat("a/../", 100) + "g", "http://h/b/g"},
		{"/" + strings.Repeat("./", 30000) + "g?q", "http://h/g?q"},
		{"//k:8/" + strings.Repeat("../", 30000) + "g?q", "http://k:8/g?q"},
		{"/" + strings.Repeat("x", 5000) + "/..", "http://h/"},
		{"/" + strings.Repeat("x", 191), "http://h/" + strings.Repeat("x", 191)},
		{strings.Repeat("x", 189), "http://h/b/" + strings.Repeat("x", 189)},
		{"?" + strings.Repeat("q", 187), "http://h/b/c?" + strings.Repeat("q", 187)},
	} {
		u, ok := impl.ResolveUrl(base, c[0])
		if !ok || urlText(t, u) != c[1] {
			t.Errorf("ResolveUrl of %d bytes: %+v, %v", len(c[0]), u, ok)
		}
	}
	for _, ref := range []string{
		"/" + strings.Repeat("x", 192), strings.Repeat("x", 190), "?" + strings.Repeat("q", 188), "//" + strings.Repeat("k", 61), "/" + strings.Repeat("x", 100000),
	} {
		if u, ok := impl.ResolveUrl(base, ref); ok || u != (impl.Url{}) {
			t.Errorf("ResolveUrl of %d bytes: %+v, %v", len(ref), u, ok)
		}
	}
}

func TestResolveUrlRefuses(t *testing.T) {
	base := readUrl(t, "http://h/b/c?q")
	for _, ref := range []string{
		" ", "a b", "#", "g#s", "%", "%4", "/%zz", "?%", "?a b", "?#", "\x00", "\xff", "/\x80", "a\\b", "g?\x7f",
		"//", "///", "///x", "//?q", "//:80/x", "//k:/x", "//k:0/x", "//k:080/x", "//k:65536/x", "//k:x/", "//u@k/", "//k_/x", "//k/a b", "//k/?#", "//\xff/",
	} {
		if u, ok := impl.ResolveUrl(base, ref); ok || u != (impl.Url{}) {
			t.Errorf("ResolveUrl of %q: %+v, %v", ref, u, ok)
		}
	}
}

func TestPercents(t *testing.T) {
	for s, want := range map[string]string{
		"": "", "a b": "a%20b", "-._~": "-._~", "%": "%25", "a/b?c": "a%2Fb%3Fc", "\x00\x7f\x80\xff": "%00%7F%80%FF", "!$&'()*+,;=:@": "%21%24%26%27%28%29%2A%2B%2C%3B%3D%3A%40", "ä": "%C3%A4",
	} {
		if e, ok := impl.PercentEncode(s); !ok || e != want {
			t.Errorf("PercentEncode(%q) = %q, %v", s, e, ok)
		}
		if d, ok := impl.PercentDecode(want); !ok || d != s {
			t.Errorf("PercentDecode(%q) = %q, %v", want, d, ok)
		}
	}
	for s, want := range map[string]string{"%2f%2F": "//", "%2541": "%41", "a b\xff": "a b\xff", "%41%": "", "+": "+", "%aB%Cd": "\xab\xcd"} {
		if d, ok := impl.PercentDecode(s); ok != (want != "") || d != want {
			t.Errorf("PercentDecode(%q) = %q, %v", s, d, ok)
		}
	}
	for _, s := range []string{"%", "%4", "a%", "a%4", "%g0", "%0g", "%%41", "%4%41", "% 41", "%-1", "%+1", "%0x", "ok%41%zz", "%\xff0", strings.Repeat("%", 200), strings.Repeat("a", 201), strings.Repeat("%41", 67)} {
		if d, ok := impl.PercentDecode(s); ok || d != "" {
			t.Errorf("PercentDecode(%q) = %q, %v", s, d, ok)
		}
	}
	if e, ok := impl.PercentEncode(strings.Repeat(" ", 60)); !ok || e != strings.Repeat("%20", 60) {
		t.Error("60 bytes", e, ok)
	}
	for _, s := range []string{strings.Repeat("a", 61), strings.Repeat(" ", 61), strings.Repeat("\xff", 100000)} {
		if e, ok := impl.PercentEncode(s); ok || e != "" {
			t.Errorf("PercentEncode of %d bytes: %q, %v", len(s), e, ok)
		}
	}
	if d, ok := impl.PercentDecode(strings.Repeat("%41", 66) + "bc"); !ok || d != strings.Repeat("A", 66)+"bc" {
		t.Error("200 bytes", d, ok)
	}
	if d, ok := impl.PercentDecode(strings.Repeat("\xff", 200)); !ok || d != strings.Repeat("\xff", 200) {
		t.Error("200 bytes", d, ok)
	}
}

func TestSameUrl(t *testing.T) {
	for _, c := range []struct {
		a, b string
		want bool
	}{
		{"http://h", "http://h/", true},
		{"http://H:80/%7ea", "http://h/~a", true},
		{"https://h:443/a/%2e", "https://h/a/", true},
		{"http://h/%c3", "http://h/%C3", true},
		{"http://h/?%41", "http://h/?A", true},
		{"http://h/x/../y", "http://h/y", true},
		{"http://h/", "https://h/", false},
		{"http://h:443/", "http://h/", false},
		{"http://h/", "http://h/?", false},
		{"http://h/a", "http://h/A", false},
		{"http://h/a", "http://h/a/", false},
		{"http://h/?a", "http://h/?A", false},
		{"http://h/%2f", "http://h//", false},
		{"http://h/", "http://k/", false},
	} {
		same, ok := impl.SameUrl(readUrl(t, c.a), readUrl(t, c.b))
		back, ok2 := impl.SameUrl(readUrl(t, c.b), readUrl(t, c.a))
		if !ok || !ok2 || same != c.want || back != c.want {
			t.Errorf("SameUrl of %q and %q: %v, %v, back %v, %v", c.a, c.b, same, ok, back, ok2)
		}
	}
}

func randomUrl(r *rand.Rand) impl.Url {
	bits := []string{"/", "a", "Z", "9", ".", "..", "/../", "/./", "~", "%41", "%2e", "%2E", "%2f", "%fF", "%25", ":", "@", "!"}
	u := impl.Url{
		Scheme: []string{"http", "https"}[r.Intn(2)],
		Host:   "h" + randomOf(r, []string{"a", "B", ".", "-", "0"}, 8),
		Port:   []int{0, 0, 1, 80, 443, 8080, 65535}[r.Intn(7)],
		Path:   "/" + randomOf(r, bits, 12),
	}
	if r.Intn(2) == 0 {
		u.Asks = true
		u.Query = randomOf(r, append(bits, "?"), 8)
	}
	return u
}

func TestRandomUrlsComeBack(t *testing.T) {
	r := rand.New(rand.NewSource(2))
	for range 20000 {
		u := randomUrl(r)
		if s := urlText(t, u); readUrl(t, s) != u {
			t.Fatalf("%q does not come back", s)
		}
		n, ok := impl.NormalUrl(u)
		if !ok || !impl.GoodUrl(n) {
			t.Fatalf("NormalUrl(%+v) = %+v, %v", u, n, ok)
		}
		if again, ok := impl.NormalUrl(n); !ok || again != n {
			t.Fatalf("NormalUrl(%+v) once more: %+v, %v", n, again, ok)
		}
		if same, ok := impl.SameUrl(u, n); !ok || !same {
			t.Fatalf("SameUrl(%+v, %+v) = %v, %v", u, n, same, ok)
		}
		v := randomUrl(r)
		m, _ := impl.NormalUrl(v)
		if same, ok := impl.SameUrl(u, v); !ok || same != (n == m) {
			t.Fatalf("SameUrl(%+v, %+v) = %v, %v", u, v, same, ok)
		}
	}
}

func TestWhatIsResolvedIsResolvedNoFurther(t *testing.T) {
	r := rand.New(rand.NewSource(3))
	bits := []string{"/", "//", "a", ".", "..", "../", "./", "?", "%41", "%", ":", "http:", "https://k", "//k", ":8", " ", "\xff", "#"}
	for range 40000 {
		base, other := randomUrl(r), randomUrl(r)
		ref := randomOf(r, bits, 7)
		u, ok := impl.ResolveUrl(base, ref)
		if !ok {
			if u != (impl.Url{}) {
				t.Fatalf("ResolveUrl(%+v, %q) = %+v, false", base, ref, u)
			}
			continue
		}
		if ref == "" && u != base {
			t.Fatalf("the empty reference of %+v is %+v", base, u)
		}
		if empty, ok := impl.ResolveUrl(u, ""); !ok || empty != u {
			t.Fatalf("the empty reference of %+v is %+v, %v", u, empty, ok)
		}
		if ref == "" { // base stands as it was, with its dots
			continue
		}
		for _, b := range []impl.Url{base, other, u} {
			if again, ok := impl.ResolveUrl(b, urlText(t, u)); !ok || again != u {
				t.Fatalf("%+v once more, by %+v: %+v, %v", u, b, again, ok)
			}
		}
	}
}

// The library's own reader of addresses as a second opinion, where it means
// the same: plain references of few bytes.
func TestResolveUrlBesideTheLibrary(t *testing.T) {
	r := rand.New(rand.NewSource(4))
	for range 20000 {
		base := "http://h/" + randomOf(r, []string{"a/", "b", "../", "./", "c/"}, 5)
		ref := randomOf(r, []string{"a/", "b", "..", "/", ".", "c"}, 6)
		if r.Intn(2) == 0 {
			ref += "?" + randomOf(r, []string{"q", "/", "..", "?"}, 4)
		}
		if ref == "" || strings.HasPrefix(ref, "//") || strings.Contains(base+ref, "//.") || strings.Contains(ref, "//") {
			continue
		}
		b, err := url.Parse(base)
		if err != nil {
			t.Fatal(err)
		}
		want, err := b.Parse(ref)
		if err != nil {
			t.Fatal(err)
		}
		u, ok := impl.ResolveUrl(readUrl(t, base), ref)
		if !ok || urlText(t, u) != want.String() {
			t.Fatalf("ResolveUrl of %q and %q: %+v, %v, not %q", base, ref, u, ok, want)
		}
	}
}

// Any bytes, at each function: no panic, and zero beside a false.
func TestUrlFunctionsAnswerAtAnything(t *testing.T) {
	r := rand.New(rand.NewSource(5))
	text := func() string {
		b := make([]byte, r.Intn(12))
		for i := range b {
			b[i] = byte(r.Intn(256))
		}
		return randomOf(r, []string{"", "http", "https", "://", "h", ":", "80", "/", "%", "%4", "%41", "?", ".."}, 6) + string(b)
	}
	zero := impl.Url{}
	for range 40000 {
		u := impl.Url{Scheme: text(), Host: text(), Port: r.Int() - r.Int(), Path: "/" + text(), Query: text(), Asks: r.Intn(2) == 0}
		s := text()
		if r.Intn(2) == 0 {
			u.Scheme, u.Host = "http", "h"
		}
		if r.Intn(2) == 0 {
			u.Port = r.Intn(70000)
		}
		good := impl.GoodUrl(u)
		if told, ok := impl.UrlText(u); ok != good || !ok && told != "" {
			t.Fatalf("UrlText(%+v) = %q, %v", u, told, ok)
		}
		if n, ok := impl.NormalUrl(u); ok != good || !ok && n != zero {
			t.Fatalf("NormalUrl(%+v) = %+v, %v", u, n, ok)
		}
		if a, ok := impl.ResolveUrl(u, s); ok && !good || !ok && a != zero || ok && !impl.GoodUrl(a) {
			t.Fatalf("ResolveUrl(%+v, %q) = %+v, %v", u, s, a, ok)
		}
		if same, ok := impl.SameUrl(u, u); ok != good || same != good {
			t.Fatalf("SameUrl(%+v) = %v, %v", u, same, ok)
		}
		if a, ok := impl.ReadUrl(s); ok && !impl.GoodUrl(a) || !ok && a != zero {
			t.Fatalf("ReadUrl(%q) = %+v, %v", s, a, ok)
		}
		if d, ok := impl.DropDots(s); ok != strings.HasPrefix(s, "/") || !ok && d != "" {
			t.Fatalf("DropDots(%q) = %q, %v", s, d, ok)
		}
		e, ok := impl.PercentEncode(s)
		if ok != (len(s) <= 60) || !ok && e != "" {
			t.Fatalf("PercentEncode(%q) = %q, %v", s, e, ok)
		}
		if d, back := impl.PercentDecode(e); ok && (!back || d != s) {
			t.Fatalf("PercentDecode(%q) = %q, %v", e, d, back)
		}
		if d, ok := impl.PercentDecode(s); !ok && d != "" {
			t.Fatalf("PercentDecode(%q) = %q, %v", s, d, ok)
		}
	}
}
