package tests

import (
	"math"
	"math/rand"
	"regexp"
	"slices"
	"strings"
	"testing"
	"time"

	"loop.example/g00256/impl"
)

// The second to which the states of these tests were modified: it has a day
// of one digit, so that it is told in all forms.
const changed = 784111777

// In the year of this second the library takes two digits as ReadDate does.
const nowIn2018 = 1514764800

func tag(text string) impl.Tag {
	return impl.Tag{Text: text}
}

func weakTag(text string) impl.Tag {
	return impl.Tag{Weak: true, Text: text}
}

func stateOf(t impl.Tag) impl.State {
	return impl.State{There: true, Tagged: true, Tag: t, Dated: true, Modified: changed}
}

// datesAt tells a second in each form.
func datesAt(second int) []string {
	at := time.Unix(int64(second), 0).UTC()
	return []string{at.Format(usualForm), at.Format(longForm), at.Format(oldForm)}
}

func wantCond(t *testing.T, method string, l []impl.Field, s impl.State, want int) {
	t.Helper()
	if c, ok := impl.CheckCond(method, l, s, nowIn2018); c != want || !ok {
		t.Errorf("CheckCond(%q, %q, %+v) = %d, %v, not %d", method, l, s, c, ok, want)
	}
}

func wantApplies(t *testing.T, l []impl.Field, s impl.State, want bool) {
	t.Helper()
	if a, ok := impl.RangeApplies(l, s, nowIn2018); a != want || !ok {
		t.Errorf("RangeApplies(%q, %+v) = %v, %v, not %v", l, s, a, ok, want)
	}
}

// wantCondRefused is of what both functions may not be asked.
func wantCondRefused(t *testing.T, l []impl.Field, s impl.State, now int) {
	t.Helper()
	for _, method := range []string{"GET", "HEAD", "PUT", ""} {
		if c, ok := impl.CheckCond(method, l, s, now); c != 0 || ok {
			t.Errorf("CheckCond(%q, %q, %+v, %d) = %d, %v", method, l, s, now, c, ok)
		}
	}
	if a, ok := impl.RangeApplies(l, s, now); a || ok {
		t.Errorf("RangeApplies(%q, %+v, %d) = %v, %v", l, s, now, a, ok)
	}
}

func badTags() []impl.Tag {
	l := []impl.Tag{}
	for _, text := range []string{" ", "a b", " a", "a ", `"`, `a"`, `"a`, `"a"`, `a"b`, `\`, `a\`, `\a`, `a\"b`, "\x00", "a\tb", "\n", "\r\n", "\x1f", "a\x7f", "\x80", "a\xff", "ä", strings.Repeat("a", 61), strings.Repeat("a", 100000)} {
		l = append(l, tag(text), weakTag(text))
	}
	return l
}

func badStates() []impl.State {
	l := []impl.State{
		{Tagged: true}, {Tag: tag("a")}, {Tag: weakTag("")}, {Dated: true}, {Modified: 1}, {Modified: -1}, {Modified: changed}, {Dated: true, Modified: changed}, {Tagged: true, Tag: tag("a")},
		{Tagged: true, Tag: tag("a"), Dated: true, Modified: changed},
		{There: true, Tag: tag("a")}, {There: true, Tag: weakTag("")}, {There: true, Tag: weakTag("a")}, {There: true, Tag: tag("a"), Dated: true, Modified: changed},
		{There: true, Modified: 1}, {There: true, Modified: -1}, {There: true, Modified: impl.MaxSecond}, {There: true, Tagged: true, Tag: tag("a"), Modified: changed},
	}
	for _, second := range []int{-1, -changed, math.MinInt, impl.MaxSecond + 1, math.MaxInt} {
		l = append(l, impl.State{There: true, Dated: true, Modified: second}, impl.State{There: true, Tagged: true, Tag: tag("a"), Dated: true, Modified: second}, impl.State{There: true, Modified: second}, impl.State{Modified: second})
	}
	for _, bad := range badTags() {
		l = append(l, impl.State{There: true, Tagged: true, Tag: bad}, impl.State{There: true, Tag: bad}, impl.State{Tagged: true, Tag: bad}, impl.State{There: true, Tagged: true, Tag: bad, Dated: true, Modified: changed})
	}
	return l
}

func TestCondNumbers(t *testing.T) {
	if impl.CondGo != 0 || impl.CondNot != 304 || impl.CondFailed != 412 {
		t.Error(impl.CondGo, impl.CondNot, impl.CondFailed)
	}
}

func TestTagsComeBackFromTheirTexts(t *testing.T) {
	for told, want := range map[string]impl.Tag{
		`""`: {}, `W/""`: weakTag(""), `"a"`: tag("a"), `W/"a"`: weakTag("a"), `"W/"`: tag("W/"), `W/"W/"`: weakTag("W/"), `"w/a"`: tag("w/a"), `"*"`: tag("*"), `"a,b"`: tag("a,b"), `W/","`: weakTag(","),
		`"!#$%&'()*+,-./:;<=>?@[]^_{|}~"`:     tag("!#$%&'()*+,-./:;<=>?@[]^_{|}~"),
		`"` + strings.Repeat("a", 59) + `"`:   tag(strings.Repeat("a", 59)),
		`W/"` + strings.Repeat("a", 59) + `"`: weakTag(strings.Repeat("a", 59)),
		`"` + strings.Repeat("~", 60) + `"`:   tag(strings.Repeat("~", 60)),
		`W/"` + strings.Repeat("!", 60) + `"`: weakTag(strings.Repeat("!", 60)),
	} {
		if s, ok := impl.TagText(want); s != told || !ok {
			t.Errorf("TagText(%+v) = %q, %v", want, s, ok)
		}
		if read, ok := impl.ReadTag(told); read != want || !ok {
			t.Errorf("ReadTag(%q) = %+v, %v", told, read, ok)
		}
		if l, star, ok := impl.TagsOf(told); !slices.Equal(l, []impl.Tag{want}) || star || !ok {
			t.Errorf("TagsOf(%q) = %+v, %v, %v", told, l, star, ok)
		}
	}
	for _, bad := range badTags() {
		if s, ok := impl.TagText(bad); s != "" || ok {
			t.Errorf("TagText(%+v) = %q, %v", bad, s, ok)
		}
		for _, told := range []string{`"` + bad.Text + `"`, `W/"` + bad.Text + `"`} {
			if read, ok := impl.ReadTag(told); read != (impl.Tag{}) || ok {
				t.Errorf("ReadTag(%q) = %+v, %v", told, read, ok)
			}
		}
	}
}

func TestEachByteInATag(t *testing.T) {
	for n := range 256 {
		s := string([]byte{byte(n)})
		good := n >= 33 && n <= 126 && s != `"` && s != `\`
		for _, text := range []string{s, s + "a", "a" + s, "a" + s + "a", strings.Repeat(s, 60), strings.Repeat("a", 59) + s} {
			for _, weak := range []bool{false, true} {
				given := impl.Tag{Weak: weak, Text: text}
				want, told := impl.Tag{}, `"`+text+`"`
				if weak {
					told = "W/" + told
				}
				text := ""
				if good {
					want, text = given, told
				}
				if s, ok := impl.TagText(given); s != text || ok != good {
					t.Errorf("TagText(%+v) = %q, %v", given, s, ok)
				}
				if read, ok := impl.ReadTag(told); read != want || ok != good {
					t.Errorf("ReadTag(%q) = %+v, %v", told, read, ok)
				}
				if same, ok := impl.WeakSame(given, given); same != good || ok != good {
					t.Errorf("WeakSame(%+v) = %v, %v", given, same, ok)
				}
				if same, ok := impl.StrongSame(given, given); same != (good && !weak) || ok != good {
					t.Errorf("StrongSame(%+v) = %v, %v", given, same, ok)
				}
				if _, ok := impl.CheckCond("GET", nil, impl.State{There: true, Tagged: true, Tag: given}, 0); ok != good {
					t.Errorf("CheckCond of a state with %+v = %v", given, ok)
				}
			}
		}
		// Around a tag a byte is nothing, but for what tells a weak one.
		for _, told := range []string{s + `"a"`, `"a"` + s, s + `W/"a"`, `W/"a"` + s, "W" + s + `"a"`, s + `/"a"`, `W/` + s + `a"`, `"a` + s} {
			read, ok := impl.ReadTag(told)
			want := map[string]impl.Tag{`W/"a"`: weakTag("a"), `"a"`: tag("a")}[told]
			if read != want || ok != (want != impl.Tag{}) {
				t.Errorf("ReadTag(%q) = %+v, %v", told, read, ok)
			}
		}
	}
}

func TestTextsThatAreNoTags(t *testing.T) {
	for _, s := range []string{
		"", "a", "*", "W", "W/", `"`, `W/"`, `"a`, `a"`, `W/"a`, `W/a"`, `W/a`, `"""`, `""""`, `"a""b"`, `"a"b"`, `W/"a"b"`,
		`w/"a"`, `w/""`, `W"a"`, `/"a"`, `"a"W/`, `"W/a`, `W/W/"a"`, `W//"a"`, `W\"a"`, `WW/"a"`, `V/"a"`, `W /"a"`, `W/ "a"`, `S/"a"`,
		` "a"`, `"a" `, ` W/"a"`, `W/"a" `, "\t\"a\"", "\"a\"\n", "\"a\"\r\n", "\"a\"\x00", "\x00\"a\"", `x"a"`, `"a"x`, `"a","b"`, `"a", "b"`, `"a",`, `,"a"`, `""a`, `a""`, `'a'`, "`a`", `“a”`, `"a'`, `'a"`, `\"a\"`, `"\"`, `"\""`, `"a\"`, `"\\"`, `W/"\"`,
		`"` + strings.Repeat("a", 61) + `"`, `W/"` + strings.Repeat("a", 61) + `"`, strings.Repeat(`"`, 62), strings.Repeat("W/", 100) + `"a"`, `"` + strings.Repeat("a", 100000) + `"`,
	} {
		if read, ok := impl.ReadTag(s); read != (impl.Tag{}) || ok {
			t.Errorf("ReadTag(%q) = %+v, %v", s, read, ok)
		}
	}
}

func TestTagsThatAreTheSame(t *testing.T) {
	long := strings.Repeat("a", 60)
	for _, c := range []struct {
		a, b         impl.Tag
		strong, weak bool
	}{
		{tag("a"), tag("a"), true, true}, {tag(""), tag(""), true, true}, {tag(long), tag(long), true, true},
		{tag("a"), weakTag("a"), false, true}, {tag(""), weakTag(""), false, true}, {tag(long), weakTag(long), false, true},
		{weakTag("a"), weakTag("a"), false, true}, {weakTag(""), weakTag(""), false, true}, {weakTag(long), weakTag(long), false, true},
		{tag("a"), tag("b"), false, false}, {tag("a"), tag("A"), false, false}, {tag("a"), tag("aa"), false, false}, {tag(""), tag("a"), false, false}, {tag("0"), tag("00"), false, false}, {tag(long), tag(long[:59]), false, false}, {tag(long), tag(long[:59] + "b"), false, false},
		{weakTag("a"), weakTag("b"), false, false}, {weakTag("a"), weakTag("A"), false, false}, {weakTag(""), weakTag("a"), false, false},
		{tag("a"), weakTag("b"), false, false}, {tag("b"), weakTag("a"), false, false}, {tag("W/a"), weakTag("a"), false, false}, {tag(""), weakTag("a"), false, false}, {tag("*"), tag("a"), false, false}, {tag("*"), weakTag(""), false, false},
	} {
		for range 2 {
			if same, ok := impl.StrongSame(c.a, c.b); same != c.strong || !ok {
				t.Errorf("StrongSame(%+v, %+v) = %v, %v", c.a, c.b, same, ok)
			}
			if same, ok := impl.WeakSame(c.a, c.b); same != c.weak || !ok {
				t.Errorf("WeakSame(%+v, %+v) = %v, %v", c.a, c.b, same, ok)
			}
			c.a, c.b = c.b, c.a
		}
	}
	for _, bad := range badTags() {
		for _, other := range []impl.Tag{{}, tag("a"), weakTag("a"), bad, tag(bad.Text), weakTag(bad.Text), tag(" ")} {
			for _, pair := range [][2]impl.Tag{{bad, other}, {other, bad}} {
				if same, ok := impl.StrongSame(pair[0], pair[1]); same || ok {
					t.Errorf("StrongSame(%+v) = %v, %v", pair, same, ok)
				}
				if same, ok := impl.WeakSame(pair[0], pair[1]); same || ok {
					t.Errorf("WeakSame(%+v) = %v, %v", pair, same, ok)
				}
			}
		}
	}
}

func randomTag(r *rand.Rand) impl.Tag {
	return impl.Tag{Weak: r.Intn(2) == 0, Text: randomOf(r, []string{"a", "b", "A", ",", "W/", "*", "~"}, 3)}
}

// What is strongly the same is so weakly, and the texts tell it.
func TestStronglyTheSameIsWeaklyTheSame(t *testing.T) {
	r := rand.New(rand.NewSource(71))
	strongs, weaks := 0, 0
	for range 50000 {
		a, b := randomTag(r), randomTag(r)
		if r.Intn(4) == 0 {
			a.Text = b.Text
		}
		strong, ok := impl.StrongSame(a, b)
		weak, ok2 := impl.WeakSame(a, b)
		if !ok || !ok2 || strong && !weak {
			t.Fatal(a, b, strong, weak, ok, ok2)
		}
		toldA, _ := impl.TagText(a)
		toldB, _ := impl.TagText(b)
		if weak != (strings.TrimPrefix(toldA, "W/") == strings.TrimPrefix(toldB, "W/")) || strong != (toldA == toldB && toldA[0] == '"') {
			t.Fatalf("%s and %s: %v, %v", toldA, toldB, strong, weak)
		}
		if back, ok := impl.ReadTag(toldA); back != a || !ok {
			t.Fatalf("ReadTag(%q) = %+v, %v", toldA, back, ok)
		}
		if strong {
			strongs++
		}
		if weak {
			weaks++
		}
	}
	if strongs < 1000 || weaks < strongs+1000 {
		t.Error("too few of them are the same:", strongs, weaks)
	}
}

func wantTags(t *testing.T, s string, star bool, good bool, want ...impl.Tag) {
	t.Helper()
	if l, got, ok := impl.TagsOf(s); !slices.Equal(l, want) || got != star || ok != good {
		t.Errorf("TagsOf(%q) = %+v, %v, %v, not %+v, %v, %v", s, l, got, ok, want, star, good)
	}
}

func TestTagsOfLists(t *testing.T) {
	for _, s := range []string{"*", " *", "* ", "  *  ", "*,", ",*", ", ,* ,,", " , * , "} {
		wantTags(t, s, true, true)
	}
	for _, s := range []string{
		"", " ", ",", ",,,", " , ,  ,", strings.Repeat(",", 300), strings.Repeat(" ", 300),
		"**", "* *", "*,*", "* , *", `*,"a"`, `"a",*`, `"a", *, "b"`, `*, W/"a"`, `*"a"`, `"a"*`, `W/*`, `*a`, `'*'`, "*;q=1",
		"a", `"a",b`, `b,"a"`, `"a","b",c`, `"a" "b"`, `"a";"b"`, `"a"b"`, `"a`, `a"`, `"a","b`, `"a,b`, `"`, `"a"",b"`, `"a""b"`, `W/`, `W/,"a"`, `w/"a"`, `"a",w/"b"`, `W/ "a"`, `W /"a"`, `"a b"`, `"a", "b c"`, `" "`, `"a\"`, `"a\\"`, `"\a"`, `"a\","b"`,
		"\"a\"\t", "\t\"a\"", "\"a\",\x00", "\"a\x7f\"", "\"\x80\"", "\"a\",\xff", "*\x00", "\t*", `"ä"`,
		`"` + strings.Repeat("a", 61) + `"`, `"a","` + strings.Repeat("a", 61) + `"`,
	} {
		wantTags(t, s, false, false)
	}
	for s, want := range map[string][]impl.Tag{
		`"*"`: {tag("*")}, `W/"*"`: {weakTag("*")}, `"*","*"`: {tag("*"), tag("*")},
		`"a","b"`: {tag("a"), tag("b")}, `"b","a"`: {tag("b"), tag("a")}, `"a","a"`: {tag("a"), tag("a")}, `"",""`: {{}, {}},
		`"a", W/"b", "c"`: {tag("a"), weakTag("b"), tag("c")}, `W/"a",W/"a","a"`: {weakTag("a"), weakTag("a"), tag("a")},
		`  "a"  ,  W/"b"  `: {tag("a"), weakTag("b")}, `,"a"`: {tag("a")}, `"a",`: {tag("a")}, ` ,, "a" , ,"b",, ,`: {tag("a"), tag("b")},
		`"a,b"`: {tag("a,b")}, `"a,b","c"`: {tag("a,b"), tag("c")}, `",",W/","`: {tag(","), weakTag(",")}, `",,,"`: {tag(",,,")}, `"a,","b",",c"`: {tag("a,"), tag("b"), tag(",c")}, `",*,"`: {tag(",*,")},
	} {
		wantTags(t, s, false, true, want...)
	}
}

func TestHowManyTags(t *testing.T) {
	for n := 1; n <= 25; n++ {
		want := []impl.Tag{}
		parts := []string{}
		for i := range n {
			one := impl.Tag{Weak: i%3 == 1, Text: string([]byte{byte('a' + i)})}
			told, _ := impl.TagText(one)
			want, parts = append(want, one), append(parts, told)
		}
		for _, between := range []string{",", ", ", " ,,  , "} {
			if n <= 20 {
				wantTags(t, strings.Join(parts, between), false, true, want...)
			} else {
				wantTags(t, strings.Join(parts, between), false, false)
			}
		}
	}
	// What is empty is no tag, but `""` is one.
	wantTags(t, strings.Repeat(`"",`, 20), false, true, make([]impl.Tag, 20)...)
	wantTags(t, strings.Repeat(`"",`, 21), false, false)
	wantTags(t, strings.Repeat(`,,, "",,`, 20), false, true, make([]impl.Tag, 20)...)
	wantTags(t, strings.Repeat(`"a",`, 20)+"x", false, false)
	wantTags(t, strings.Repeat(`"a",`, 20)+"*", false, false)
}

// A list has at most 300 bytes.
func TestLongListsOfTags(t *testing.T) {
	for n, good := range map[int]bool{299: true, 300: true, 301: false, 302: false, 5000: false} {
		for _, part := range []string{`"a"`, "*"} {
			for _, s := range []string{part + strings.Repeat(",", n-len(part)), strings.Repeat(" ", n-len(part)) + part} {
				switch {
				case !good:
					wantTags(t, s, false, false)
				case part == "*":
					wantTags(t, s, true, true)
				default:
					wantTags(t, s, false, true, tag("a"))
				}
			}
		}
	}
	long := strings.Repeat("t", 60)
	wantTags(t, strings.Repeat(`"`+long+`",`, 4), false, true, slices.Repeat([]impl.Tag{tag(long)}, 4)...)
	wantTags(t, strings.Repeat(`"`+long+`",`, 5), false, false)
}

var tagForm = regexp.MustCompile(`^(W/)?"([!#-\[\]-~]{0,60})"$`)

func tagByForm(s string) (impl.Tag, bool) {
	m := tagForm.FindStringSubmatch(s)
	if m == nil {
		return impl.Tag{}, false
	}
	return impl.Tag{Weak: m[1] != "", Text: m[2]}, true
}

func tagsByForm(s string) ([]impl.Tag, bool, bool) {
	parts, good := listByForm(s)
	if good && slices.Equal(parts, []string{"*"}) {
		return nil, true, true
	}
	l := []impl.Tag{}
	for _, part := range parts {
		one, is := tagByForm(part)
		l, good = append(l, one), good && is
	}
	if !good || len(l) < 1 || len(l) > 20 {
		return nil, false, false
	}
	return l, false, true
}

func checkTagsByForm(t *testing.T, s string) bool {
	t.Helper()
	want, good := tagByForm(s)
	if read, ok := impl.ReadTag(s); read != want || ok != good {
		t.Fatalf("ReadTag(%q) = %+v, %v, not %+v, %v", s, read, ok, want, good)
	}
	if told, ok := impl.TagText(want); good && (told != s || !ok) {
		t.Fatalf("TagText(%+v) = %q, %v, not %q", want, told, ok, s)
	}
	wanted, star, good := tagsByForm(s)
	if l, got, ok := impl.TagsOf(s); !slices.Equal(l, wanted) || got != star || ok != good {
		t.Fatalf("TagsOf(%q) = %+v, %v, %v, not %+v, %v, %v", s, l, got, ok, wanted, star, good)
	}
	return good
}

func TestAllShortTextsOfTags(t *testing.T) {
	texts, good := []string{""}, 0
	for range 6 {
		longer := []string{}
		for _, s := range texts {
			for _, bit := range []string{`"`, "W/", "a", "*", ",", " ", `\`} {
				longer = append(longer, s+bit)
			}
		}
		texts = longer
		for _, s := range texts {
			if checkTagsByForm(t, s) {
				good++
			}
		}
	}
	if good < 1000 {
		t.Error("too few of them are tags:", good)
	}
}

func TestGoodStates(t *testing.T) {
	states := []impl.State{
		{}, {There: true}, {There: true, Tagged: true}, {There: true, Tagged: true, Tag: weakTag("")}, {There: true, Dated: true},
		{There: true, Dated: true, Modified: 1}, {There: true, Dated: true, Modified: impl.MaxSecond}, {There: true, Dated: true, Modified: impl.MaxSecond - 1},
		{There: true, Tagged: true, Tag: tag(strings.Repeat("a", 60))}, {There: true, Tagged: true, Tag: weakTag(strings.Repeat("a", 60)), Dated: true, Modified: impl.MaxSecond},
		{There: true, Tagged: true, Dated: true}, stateOf(tag("a")), stateOf(weakTag("!~")),
	}
	for _, s := range states {
		for _, method := range []string{"GET", "HEAD", "PUT", "get"} {
			wantCond(t, method, nil, s, impl.CondGo)
		}
		wantApplies(t, nil, s, true)
	}
	for _, s := range badStates() {
		wantCondRefused(t, nil, s, nowIn2018)
		wantCondRefused(t, []impl.Field{field("If-None-Match", "*"), field("If-Range", `"a"`)}, s, nowIn2018)
	}
}

// Of no condition, and of fields that are none.
func TestNoCondition(t *testing.T) {
	for _, l := range [][]impl.Field{
		nil, {}, {field("Host", "h")}, manyFields(40), {field("If-Range", `"b"`)}, {field("Range", "bytes=0-1")},
		{field("match", "*")}, {field("if-matches", `"b"`)}, {field("if_match", `"b"`)}, {field("ifmatch", `"b"`)}, {field("if-none", "*")}, {field("none-match", "*")}, {field("if-modified", datesAt(changed)[0])}, {field("unmodified-since", datesAt(0)[0])}, {field("x-if-none-match", "*")},
	} {
		for _, s := range []impl.State{{}, {There: true}, stateOf(tag("a"))} {
			for _, method := range []string{"GET", "HEAD", "PUT", "x"} {
				wantCond(t, method, l, s, impl.CondGo)
			}
		}
	}
}

// The names that a field may have, in great and small letters.
func spellings(name string) []string {
	first := strings.ToUpper(name[:1]) + name[1:]
	return []string{name, strings.ToUpper(name), first, strings.ReplaceAll(strings.ReplaceAll(first, "-m", "-M"), "-s", "-S")}
}

var methods = []string{"GET", "HEAD", "PUT", "POST", "DELETE", "OPTIONS", "get", "head", "Get", "GETS", "GE", "HEADER", "*", strings.Repeat("M", 60)}

// wantEach asks by each method: reads is the code of GET and HEAD.
func wantEach(t *testing.T, l []impl.Field, s impl.State, reads int, others int) {
	t.Helper()
	for _, method := range methods {
		want := others
		if method == "GET" || method == "HEAD" {
			want = reads
		}
		wantCond(t, method, l, s, want)
	}
}

func TestIfMatchAlone(t *testing.T) {
	undated := impl.State{There: true, Tagged: true, Tag: tag("a")}
	untagged := impl.State{There: true, Dated: true, Modified: changed}
	for _, c := range []struct {
		value string
		s     impl.State
		want  int
	}{
		{"*", impl.State{}, impl.CondFailed}, {", *,", impl.State{}, impl.CondFailed}, {"*", impl.State{There: true}, impl.CondGo}, {"*", untagged, impl.CondGo}, {"*", undated, impl.CondGo}, {"*", stateOf(weakTag("a")), impl.CondGo},
		{`"a"`, stateOf(tag("a")), impl.CondGo}, {`"a"`, undated, impl.CondGo}, {`"b", "a"`, undated, impl.CondGo}, {`"a", "b"`, undated, impl.CondGo}, {`W/"a", "a"`, undated, impl.CondGo}, {`"b",W/"c","a","d"`, undated, impl.CondGo},
		{`"b"`, undated, impl.CondFailed}, {`"A"`, undated, impl.CondFailed}, {`""`, undated, impl.CondFailed}, {`"a,a"`, undated, impl.CondFailed}, {`"*"`, undated, impl.CondFailed}, {`"b", "c", "d"`, undated, impl.CondFailed},
		{`W/"a"`, undated, impl.CondFailed}, {`W/"a", W/"b"`, undated, impl.CondFailed}, {`"a"`, stateOf(weakTag("a")), impl.CondFailed}, {`W/"a"`, stateOf(weakTag("a")), impl.CondFailed}, {`W/"a", "a"`, stateOf(weakTag("a")), impl.CondFailed},
		{`"a"`, untagged, impl.CondFailed}, {`""`, untagged, impl.CondFailed}, {`""`, impl.State{There: true}, impl.CondFailed}, {`""`, impl.State{}, impl.CondFailed}, {`"a"`, impl.State{}, impl.CondFailed}, {`W/""`, impl.State{}, impl.CondFailed},
		{`""`, stateOf(impl.Tag{}), impl.CondGo}, {`W/""`, stateOf(impl.Tag{}), impl.CondFailed}, {`""`, stateOf(weakTag("")), impl.CondFailed},
	} {
		for _, name := range spellings("if-match") {
			wantEach(t, []impl.Field{field(name, c.value)}, c.s, c.want, c.want)
		}
	}
}

func TestIfNoneMatchAlone(t *testing.T) {
	undated := impl.State{There: true, Tagged: true, Tag: tag("a")}
	weak := impl.State{There: true, Tagged: true, Tag: weakTag("a"), Dated: true, Modified: changed}
	untagged := impl.State{There: true, Dated: true, Modified: changed}
	for _, c := range []struct {
		value string
		s     impl.State
		same  bool
	}{
		{"*", impl.State{}, false}, {", *,", impl.State{}, false}, {"*", impl.State{There: true}, true}, {"*", untagged, true}, {"*", undated, true}, {"*", weak, true},
		{`"a"`, stateOf(tag("a")), true}, {`"a"`, undated, true}, {`W/"a"`, undated, true}, {`"a"`, weak, true}, {`W/"a"`, weak, true}, {`"b", W/"a"`, undated, true}, {`"a", "b"`, weak, true}, {`"b",W/"c","a","d"`, undated, true},
		{`"b"`, undated, false}, {`W/"b"`, weak, false}, {`"A"`, undated, false}, {`""`, undated, false}, {`"a,a"`, undated, false}, {`"*"`, undated, false}, {`"b", "c", W/"d"`, undated, false},
		{`"a"`, untagged, false}, {`""`, untagged, false}, {`W/""`, untagged, false}, {`""`, impl.State{There: true}, false}, {`""`, impl.State{}, false}, {`"a"`, impl.State{}, false},
		{`""`, stateOf(impl.Tag{}), true}, {`W/""`, stateOf(impl.Tag{}), true}, {`""`, stateOf(weakTag("")), true},
	} {
		for _, name := range spellings("if-none-match") {
			if c.same {
				wantEach(t, []impl.Field{field(name, c.value)}, c.s, impl.CondNot, impl.CondFailed)
			} else {
				wantEach(t, []impl.Field{field(name, c.value)}, c.s, impl.CondGo, impl.CondGo)
			}
		}
	}
}

func TestDatesAlone(t *testing.T) {
	states := []impl.State{stateOf(tag("a")), {There: true, Dated: true, Modified: changed}}
	undated := []impl.State{{}, {There: true}, {There: true, Tagged: true, Tag: tag("a")}}
	for _, far := range []int{-86400 * 365, -86400, -60, -1, 0, 1, 60, 86400, 86400 * 365} {
		for _, told := range datesAt(changed + far) {
			for _, name := range spellings("if-unmodified-since") {
				for _, s := range states {
					if far >= 0 {
						wantEach(t, []impl.Field{field(name, told)}, s, impl.CondGo, impl.CondGo)
					} else {
						wantEach(t, []impl.Field{field(name, told)}, s, impl.CondFailed, impl.CondFailed)
					}
				}
				for _, s := range undated {
					wantEach(t, []impl.Field{field(name, told)}, s, impl.CondGo, impl.CondGo)
				}
			}
			for _, name := range spellings("if-modified-since") {
				for _, s := range states {
					if far >= 0 {
						wantEach(t, []impl.Field{field(name, told)}, s, impl.CondNot, impl.CondGo)
					} else {
						wantEach(t, []impl.Field{field(name, told)}, s, impl.CondGo, impl.CondGo)
					}
				}
				for _, s := range undated {
					wantEach(t, []impl.Field{field(name, told)}, s, impl.CondGo, impl.CondGo)
				}
			}
		}
	}
	// The first second and the last one.
	first, last := impl.State{There: true, Dated: true}, impl.State{There: true, Dated: true, Modified: impl.MaxSecond}
	for _, told := range []string{"Thu, 01 Jan 1970 00:00:00 GMT", "Thu Jan  1 00:00:00 1970"} {
		wantEach(t, []impl.Field{field("if-modified-since", told)}, first, impl.CondNot, impl.CondGo)
		wantEach(t, []impl.Field{field("if-unmodified-since", told)}, first, impl.CondGo, impl.CondGo)
		wantEach(t, []impl.Field{field("if-modified-since", told)}, last, impl.CondGo, impl.CondGo)
		wantEach(t, []impl.Field{field("if-unmodified-since", told)}, last, impl.CondFailed, impl.CondFailed)
	}
	for _, told := range []string{"Fri, 31 Dec 9999 23:59:59 GMT", "Fri Dec 31 23:59:59 9999"} {
		wantEach(t, []impl.Field{field("if-modified-since", told)}, last, impl.CondNot, impl.CondGo)
		wantEach(t, []impl.Field{field("if-unmodified-since", told)}, last, impl.CondGo, impl.CondGo)
		wantEach(t, []impl.Field{field("if-modified-since", told)}, first, impl.CondNot, impl.CondGo)
	}
	wantEach(t, []impl.Field{field("if-unmodified-since", "Fri, 31 Dec 9999 23:59:58 GMT")}, last, impl.CondFailed, impl.CondFailed)
}

// By now two digits of a year are another year: four hundred years later the
// days have the same names.
func TestDatesByNow(t *testing.T) {
	const told = "Sunday, 06-Nov-94 08:49:37 GMT"
	l := []impl.Field{field("If-Modified-Since", told), field("If-Range", told)}
	not := []impl.Field{field("If-Unmodified-Since", told)}
	check := func(now int, modified int, code int, notCode int, applies bool) {
		t.Helper()
		s := impl.State{There: true, Dated: true, Modified: modified}
		if c, ok := impl.CheckCond("GET", l, s, now); c != code || !ok {
			t.Errorf("at %d, of %d: %d, %v", now, modified, c, ok)
		}
		if c, ok := impl.CheckCond("PUT", not, s, now); c != notCode || !ok {
			t.Errorf("at %d, of %d: %d, %v", now, modified, c, ok)
		}
		if a, ok := impl.RangeApplies(l, s, now); a != applies || !ok {
			t.Errorf("at %d, of %d: %v, %v", now, modified, a, ok)
		}
	}
	for _, year := range []int{1994, 2394, 9994} {
		modified := secondsOf(t, impl.Date{Year: year, Month: 11, Day: 6, Hour: 8, Minute: 49, Second: 37})
		for now, meant := range map[int]int{0: 1994, newYear(t, 2044) - 1: 1994, newYear(t, 2344): 2394, newYear(t, 2444) - 1: 2394, impl.MaxSecond: 9994} {
			if year <= meant {
				check(now, modified, impl.CondNot, impl.CondGo, year == meant)
			} else {
				check(now, modified, impl.CondGo, impl.CondFailed, false)
			}
		}
		// Of 2094, 2294 and 2494 that day has another name: there is no such date.
		for _, now := range []int{newYear(t, 2044), newYear(t, 2344) - 1, newYear(t, 2444)} {
			check(now, modified, impl.CondGo, impl.CondGo, false)
		}
	}
}

func wrongDates() []string {
	return []string{
		"", "x", "*", `"a"`, "0", "784111777", "Sun, 06 Nov 1994 08:49:37", "Sun, 06 Nov 1994 08:49:37 UTC", "Mon, 06 Nov 1994 08:49:37 GMT", "sun, 06 Nov 1994 08:49:37 GMT", "Sun, 06 nov 1994 08:49:37 GMT", "Sun, 6 Nov 1994 08:49:37 GMT", "Sun, 06 Nov 1994 08:49:60 GMT", "Sun, 06 Nov 1994 24:49:37 GMT", "Sun, 06 Nov 1994 08:49:37 GMT,", "Sun, 06 Nov 1994 08:49:37 GMT, Sun, 06 Nov 1994 08:49:37 GMT", "Wed, 31 Dec 1969 23:59:59 GMT", "Sat, 01 Jan 10000 00:00:00 GMT", `"Sun, 06 Nov 1994 08:49:37 GMT"`, "Sunday, 06-Nov-1994 08:49:37 GMT", "Monday, 06-Nov-94 08:49:37 GMT", "Sun Nov 06 08:49:37 1994", "Sun Nov  6 08:49:37 1994 GMT",
	}
}

func wrongTags() []string {
	return []string{"", ",", "a", `"a`, `a"`, `"a",b`, `*,"a"`, `"a",*`, "*,*", `w/"a"`, `"a b"`, `"a" "b"`, `"a\"`, `"a";"b"`, strings.Repeat(`"",`, 21) + `""`, `"` + strings.Repeat("a", 61) + `"`, datesAt(changed)[0]}
}

// A condition that is not right is left out.
func TestConditionsThatAreNotRight(t *testing.T) {
	states := []impl.State{{}, {There: true}, stateOf(tag("a")), stateOf(weakTag("a")), stateOf(impl.Tag{})}
	early, late := field("If-Modified-Since", datesAt(changed + 1)[0]), field("If-Unmodified-Since", datesAt(changed - 1)[0])
	for _, wrong := range wrongTags() {
		match, none := field("If-Match", wrong), field("If-None-Match", wrong)
		for _, s := range states {
			wantEach(t, []impl.Field{match}, s, impl.CondGo, impl.CondGo)
			wantEach(t, []impl.Field{none}, s, impl.CondGo, impl.CondGo)
			wantEach(t, []impl.Field{match, none}, s, impl.CondGo, impl.CondGo)
			// It stands there all the same, so that the date is not looked at.
			wantEach(t, []impl.Field{match, late}, s, impl.CondGo, impl.CondGo)
			wantEach(t, []impl.Field{late, match}, s, impl.CondGo, impl.CondGo)
			wantEach(t, []impl.Field{none, early}, s, impl.CondGo, impl.CondGo)
			wantEach(t, []impl.Field{early, none}, s, impl.CondGo, impl.CondGo)
		}
		// What is right beside it is looked at.
		s := stateOf(tag("a"))
		wantEach(t, []impl.Field{match, field("If-None-Match", `"a"`)}, s, impl.CondNot, impl.CondFailed)
		wantEach(t, []impl.Field{match, early}, s, impl.CondNot, impl.CondGo)
		wantEach(t, []impl.Field{none, field("If-Match", `"b"`)}, s, impl.CondFailed, impl.CondFailed)
		wantEach(t, []impl.Field{none, late}, s, impl.CondFailed, impl.CondFailed)
	}
	for _, wrong := range wrongDates() {
		since, not := field("If-Modified-Since", wrong), field("If-Unmodified-Since", wrong)
		for _, s := range states {
			wantEach(t, []impl.Field{since}, s, impl.CondGo, impl.CondGo)
			wantEach(t, []impl.Field{not}, s, impl.CondGo, impl.CondGo)
			wantEach(t, []impl.Field{since, not}, s, impl.CondGo, impl.CondGo)
		}
		s := stateOf(tag("a"))
		wantEach(t, []impl.Field{not, early}, s, impl.CondNot, impl.CondGo)
		wantEach(t, []impl.Field{since, late}, s, impl.CondFailed, impl.CondFailed)
		wantEach(t, []impl.Field{not, field("If-None-Match", "*")}, s, impl.CondNot, impl.CondFailed)
		wantEach(t, []impl.Field{since, field("If-Match", `"b"`)}, s, impl.CondFailed, impl.CondFailed)
	}
}

// Tags of several fields are joined; dates are of one field alone.
func TestConditionsInSeveralFields(t *testing.T) {
	s := stateOf(tag("a"))
	for _, c := range []struct {
		values []string
		match  int
		same   bool
	}{
		{[]string{`"b"`, `"a"`}, impl.CondGo, true}, {[]string{`"a"`, `"b"`}, impl.CondGo, true}, {[]string{`"b"`, `W/"a"`}, impl.CondFailed, true}, {[]string{`"b"`, `"c"`}, impl.CondFailed, false}, {[]string{`"b", "c"`, "", `"d", "a"`}, impl.CondGo, true},
		{[]string{"", `"a"`}, impl.CondGo, true}, {[]string{"", "*"}, impl.CondGo, true}, {[]string{"*", "", ","}, impl.CondGo, true}, {[]string{`"b`, `c"`}, impl.CondGo, false}, {[]string{`"b"`, "x"}, impl.CondGo, false}, {[]string{`"a"`, "x"}, impl.CondGo, false}, {[]string{"*", `"b"`}, impl.CondGo, false}, {[]string{"*", "*"}, impl.CondGo, false}, {[]string{"", ""}, impl.CondGo, false},
	} {
		match, none := []impl.Field{field("Host", "h")}, []impl.Field{field("Host", "h")}
		for i, value := range c.values {
			match = append(match, field(spellings("if-match")[i], value), field("x", `"x"`))
			none = append(none, field(spellings("if-none-match")[i], value), field("x", `"x"`))
		}
		wantEach(t, match, s, c.match, c.match)
		if c.same {
			wantEach(t, none, s, impl.CondNot, impl.CondFailed)
		} else {
			wantEach(t, none, s, impl.CondGo, impl.CondGo)
		}
	}
	// Twenty tags, each in a field of its own, and one more; and more bytes than
	// a list may have.
	for n, good := range map[int]bool{20: true, 21: false} {
		match, none := slices.Repeat([]impl.Field{field("If-Match", `"b"`)}, n), slices.Repeat([]impl.Field{field("If-None-Match", `"b"`)}, n-1)
		none = append(none, field("If-None-Match", `"a"`))
		if good {
			wantEach(t, match, s, impl.CondFailed, impl.CondFailed)
			wantEach(t, none, s, impl.CondNot, impl.CondFailed)
		} else {
			wantEach(t, match, s, impl.CondGo, impl.CondGo)
			wantEach(t, none, s, impl.CondGo, impl.CondGo)
		}
	}
	for n, want := range map[int]int{148: impl.CondFailed, 149: impl.CondFailed, 150: impl.CondGo} {
		// With `, ` between they have 2n and 2 bytes.
		half := `"b"` + strings.Repeat(",", n-3)
		wantEach(t, []impl.Field{field("If-Match", half), field("If-Match", half)}, s, want, want)
	}
	for _, name := range []string{"If-Modified-Since", "If-Unmodified-Since"} {
		for _, second := range []int{changed - 1, changed, changed + 1} {
			told := datesAt(second)
			for _, values := range [][]string{{told[0], told[0]}, {told[0], told[1]}, {told[2], ""}, {"", told[2]}, {"x", told[0]}, {told[0], told[0], told[0]}} {
				l := []impl.Field{}
				for i, value := range values {
					l = append(l, field(spellings(strings.ToLower(name))[i], value))
				}
				wantEach(t, l, s, impl.CondGo, impl.CondGo)
			}
		}
	}
}

// Each two together, in either order of the fields.
func TestTwoConditionsTogether(t *testing.T) {
	const match, none, since, not = "If-Match", "If-None-Match", "If-Modified-Since", "If-Unmodified-Since"
	earlier, same, later := datesAt(changed - 1)[0], datesAt(changed)[1], datesAt(changed + 1)[2]
	s := stateOf(tag("a"))
	for _, c := range []struct {
		a, valueA, b, valueB string
		reads, others        int
	}{
		{match, `"a"`, none, `"a"`, impl.CondNot, impl.CondFailed}, {match, `"a"`, none, `"b"`, impl.CondGo, impl.CondGo}, {match, `"b"`, none, `"a"`, impl.CondFailed, impl.CondFailed}, {match, `"b"`, none, `"b"`, impl.CondFailed, impl.CondFailed}, {match, "*", none, "*", impl.CondNot, impl.CondFailed},
		// With an if-match no if-unmodified-since is looked at.
		{match, `"a"`, not, earlier, impl.CondGo, impl.CondGo}, {match, `"a"`, not, later, impl.CondGo, impl.CondGo}, {match, `"b"`, not, later, impl.CondFailed, impl.CondFailed}, {match, "*", not, earlier, impl.CondGo, impl.CondGo},
		{match, `"a"`, since, same, impl.CondNot, impl.CondGo}, {match, `"a"`, since, earlier, impl.CondGo, impl.CondGo}, {match, `"b"`, since, same, impl.CondFailed, impl.CondFailed}, {match, `W/"a"`, since, later, impl.CondFailed, impl.CondFailed},
		{not, same, none, `"a"`, impl.CondNot, impl.CondFailed}, {not, later, none, `"b"`, impl.CondGo, impl.CondGo}, {not, earlier, none, `"a"`, impl.CondFailed, impl.CondFailed}, {not, earlier, none, `"b"`, impl.CondFailed, impl.CondFailed},
		{not, same, since, same, impl.CondNot, impl.CondGo}, {not, later, since, earlier, impl.CondGo, impl.CondGo}, {not, earlier, since, earlier, impl.CondFailed, impl.CondFailed}, {not, earlier, since, later, impl.CondFailed, impl.CondFailed},
		// With an if-none-match no if-modified-since is looked at.
		{none, `"b"`, since, same, impl.CondGo, impl.CondGo}, {none, `"b"`, since, later, impl.CondGo, impl.CondGo}, {none, `"a"`, since, earlier, impl.CondNot, impl.CondFailed}, {none, `W/"a"`, since, later, impl.CondNot, impl.CondFailed}, {none, "*", since, earlier, impl.CondNot, impl.CondFailed},
	} {
		a, b := field(c.a, c.valueA), field(c.b, c.valueB)
		wantEach(t, []impl.Field{a, b}, s, c.reads, c.others)
		wantEach(t, []impl.Field{b, a}, s, c.reads, c.others)
		wantEach(t, []impl.Field{field("Host", "h"), b, field("If-Range", "x"), a}, s, c.reads, c.others)
	}
	none2 := field(none, "*")
	wantEach(t, []impl.Field{none2, field(since, later)}, impl.State{}, impl.CondGo, impl.CondGo)
	wantEach(t, []impl.Field{none2, field(match, "*")}, impl.State{}, impl.CondFailed, impl.CondFailed)
	wantEach(t, []impl.Field{none2, field(not, earlier)}, impl.State{}, impl.CondGo, impl.CondGo)
}

func TestWhatConditionsRefuse(t *testing.T) {
	s := stateOf(tag("a"))
	l := []impl.Field{field("If-None-Match", `"a"`), field("If-Range", `"a"`)}
	for _, method := range badTokens() {
		for _, fields := range [][]impl.Field{l, nil} {
			if c, ok := impl.CheckCond(method, fields, s, nowIn2018); c != 0 || ok {
				t.Errorf("CheckCond(%q, %q) = %d, %v", method, fields, c, ok)
			}
		}
	}
	for _, bad := range badFields() {
		wantCondRefused(t, []impl.Field{bad}, s, nowIn2018)
		wantCondRefused(t, append(slices.Clone(l), bad), s, nowIn2018)
		wantCondRefused(t, append([]impl.Field{bad}, l...), impl.State{}, nowIn2018)
	}
	wantCondRefused(t, manyFields(41), s, nowIn2018)
	wantCondRefused(t, append(manyFields(39), l...), s, nowIn2018)
	wantCond(t, "GET", append(manyFields(38), l...), s, impl.CondNot)
	wantApplies(t, append(manyFields(38), l...), s, true)
	for _, now := range []int{-1, -2, math.MinInt, impl.MaxSecond + 1, impl.MaxSecond + 2, math.MaxInt} {
		wantCondRefused(t, l, s, now)
		wantCondRefused(t, nil, impl.State{}, now)
	}
	for _, now := range []int{0, 1, changed, impl.MaxSecond - 1, impl.MaxSecond} {
		for method, want := range map[string]int{"GET": impl.CondNot, "HEAD": impl.CondNot, "PUT": impl.CondFailed} {
			if c, ok := impl.CheckCond(method, l, s, now); c != want || !ok {
				t.Errorf("CheckCond(%q) at %d = %d, %v", method, now, c, ok)
			}
		}
		if a, ok := impl.RangeApplies(l, s, now); !a || !ok {
			t.Errorf("RangeApplies at %d = %v, %v", now, a, ok)
		}
	}
}

func TestRangeApplies(t *testing.T) {
	untagged := impl.State{There: true, Dated: true, Modified: changed}
	undated := impl.State{There: true, Tagged: true, Tag: tag("a")}
	for _, name := range spellings("if-range") {
		ask := func(value string, s impl.State, want bool) {
			t.Helper()
			wantApplies(t, []impl.Field{field(name, value)}, s, want)
			wantApplies(t, []impl.Field{field("If-Match", `"x"`), field(name, value), field("Range", "bytes=0-1")}, s, want)
		}
		for _, s := range []impl.State{stateOf(tag("a")), undated} {
			ask(`"a"`, s, true)
			for _, value := range []string{`W/"a"`, `"b"`, `"A"`, `""`, `W/"b"`, "*", `"*"`, "a", `"a`, `a"`, `w/"a"`, `"a","a"`, `"a",`, `,"a"`, `"a", "b"`, "", "x", "0"} {
				ask(value, s, false)
			}
		}
		for _, value := range []string{`"a"`, `W/"a"`, `"b"`, `""`} {
			ask(value, stateOf(weakTag("a")), false)
			ask(value, untagged, false)
			ask(value, impl.State{There: true}, false)
			ask(value, impl.State{}, false)
		}
		ask(`""`, stateOf(impl.Tag{}), true)
		ask(`W/""`, stateOf(impl.Tag{}), false)
		ask(`""`, stateOf(weakTag("")), false)
		for _, far := range []int{-86400, -1, 0, 1, 86400} {
			for _, told := range datesAt(changed + far) {
				for _, s := range []impl.State{untagged, stateOf(tag("a")), stateOf(weakTag("a"))} {
					ask(told, s, far == 0)
				}
				for _, s := range []impl.State{{}, {There: true}, undated} {
					ask(told, s, false)
				}
			}
		}
		for _, wrong := range wrongDates() {
			ask(wrong, untagged, false)
			ask(wrong, impl.State{}, false)
		}
		// The first second is not that of a state which has no date.
		for _, told := range datesAt(0) {
			ask(told, impl.State{There: true, Dated: true}, true)
			ask(told, impl.State{There: true}, false)
			ask(told, impl.State{}, false)
		}
		ask("Fri, 31 Dec 9999 23:59:59 GMT", impl.State{There: true, Dated: true, Modified: impl.MaxSecond}, true)
	}
	s := stateOf(tag("a"))
	date := datesAt(changed)[0]
	for _, values := range [][]string{{`"a"`, `"a"`}, {`"a"`, date}, {date, `"a"`}, {date, date}, {`"a"`, ""}, {"", `"a"`}, {"", ""}, {`"a"`, `"a"`, `"a"`}} {
		l := []impl.Field{}
		for i, value := range values {
			l = append(l, field(spellings("if-range")[i], value))
		}
		wantApplies(t, l, s, false)
		wantApplies(t, l, impl.State{}, false)
	}
	for _, l := range [][]impl.Field{nil, {field("Range", "bytes=0-1")}, {field("if-ranges", `"b"`)}, {field("If-Match", `"b"`)}} {
		for _, s := range []impl.State{s, untagged, undated, {There: true}, {}} {
			wantApplies(t, l, s, true)
		}
	}
}

// What one field asks, by the second reading.
const (
	notAsked = iota
	leftOut
	isSo
	isNotSo
)

func valuesByHand(l []impl.Field, name string) []string {
	values := []string{}
	for _, f := range l {
		if strings.EqualFold(f.Name, name) {
			values = append(values, f.Value)
		}
	}
	return values
}

// tagsAskedByHand tells of the texts of tags whether one is the state's.
func tagsAskedByHand(l []impl.Field, name string, s impl.State, weakly bool) int {
	values := valuesByHand(l, name)
	tags, star, good := tagsByForm(strings.Join(values, ", "))
	switch {
	case len(values) == 0:
		return notAsked
	case !good:
		return leftOut
	case star && s.There:
		return isSo
	}
	for _, one := range tags {
		if s.Tagged && one.Text == s.Tag.Text && (weakly || !one.Weak && !s.Tag.Weak) {
			return isSo
		}
	}
	return isNotSo
}

// unmodifiedByHand tells whether the state was modified at the date at the
// latest.
func unmodifiedByHand(l []impl.Field, name string, s impl.State) int {
	values := valuesByHand(l, name)
	if len(values) == 0 {
		return notAsked
	}
	d, good := readByTheLibrary(values[0])
	switch {
	case len(values) > 1 || !good || !s.Dated:
		return leftOut
	case libraryTime(d).Before(time.Unix(int64(s.Modified), 0)):
		return isNotSo
	}
	return isSo
}

func condByHand(method string, l []impl.Field, s impl.State) int {
	reads := method == "GET" || method == "HEAD"
	match, none := tagsAskedByHand(l, "if-match", s, false), tagsAskedByHand(l, "if-none-match", s, true)
	not, since := unmodifiedByHand(l, "if-unmodified-since", s), unmodifiedByHand(l, "if-modified-since", s)
	switch {
	case match == isNotSo, match == notAsked && not == isNotSo:
		return 412
	case none == isSo && !reads:
		return 412
	case none == isSo, none == notAsked && since == isSo && reads:
		return 304
	}
	return 0
}

func appliesByHand(l []impl.Field, s impl.State) bool {
	values := valuesByHand(l, "if-range")
	if len(values) != 1 {
		return len(values) == 0
	}
	one, isTag := tagByForm(values[0])
	d, isDate := readByTheLibrary(values[0])
	return isTag && s.Tagged && one == s.Tag && !one.Weak || isDate && s.Dated && int(libraryTime(d).Unix()) == s.Modified
}

func goodStateByHand(s impl.State) bool {
	switch {
	case !s.There:
		return s == impl.State{}
	case !s.Tagged && s.Tag != impl.Tag{}:
		return false
	case s.Tagged && !tagForm.MatchString(`"`+s.Tag.Text+`"`):
		return false
	case !s.Dated:
		return s.Modified == 0
	}
	return s.Modified >= 0 && s.Modified <= 253402300799
}

func TestConditionsBySecondReading(t *testing.T) {
	r := rand.New(rand.NewSource(72))
	one := func(l []string) string { return l[r.Intn(len(l))] }
	names := []string{"if-match", "If-None-Match", "if-modified-since", "IF-UNMODIFIED-SINCE", "if-range", "Host", "If-Match", "IF-NONE-MATCH"}
	dates := slices.Concat(datesAt(changed-1), datesAt(changed), datesAt(changed+1), []string{"x", ""})
	tags := []string{`"a"`, `W/"a"`, `"b"`, `"a", "b"`, `"b",W/"a"`, "*", "", `""`, `W/""`, "x", `*,"a"`, `"b" ,, "c"`}
	states := []impl.State{{}, {There: true}, stateOf(tag("a")), stateOf(weakTag("a")), stateOf(impl.Tag{}), {There: true, Tagged: true, Tag: tag("a")}, {There: true, Tagged: true}, {There: true, Dated: true, Modified: changed}}
	codes, applies := map[int]int{}, map[bool]int{}
	for range 100000 {
		l := []impl.Field{}
		for range r.Intn(5) {
			f := field(one(names), one(tags))
			if strings.Contains(smallOf(f.Name), "since") != (r.Intn(8) == 0) {
				f.Value = one(dates)
			}
			l = append(l, f)
		}
		if r.Intn(4) == 0 {
			l = append(l, field("If-Range", one(append(dates, tags...))))
		}
		method, s := one([]string{"GET", "HEAD", "PUT", "get"}), states[r.Intn(len(states))]
		want := condByHand(method, l, s)
		wantCond(t, method, l, s, want)
		// 304 is told of GET and HEAD alone.
		if c, _ := impl.CheckCond(method, l, s, nowIn2018); c == impl.CondNot && method != "GET" && method != "HEAD" {
			t.Fatalf("304 of %s", method)
		}
		apply := appliesByHand(l, s)
		wantApplies(t, l, s, apply)
		codes[want]++
		if len(valuesByHand(l, "if-range")) > 0 {
			applies[apply]++
		}
		if t.Failed() {
			t.FailNow()
		}
	}
	if codes[0] < 5000 || codes[304] < 2000 || codes[412] < 5000 || applies[true] < 1000 || applies[false] < 5000 {
		t.Error("too few of one kind:", codes, applies)
	}
}

func TestCondFunctionsWriteIntoNothing(t *testing.T) {
	behind := field("If-None-Match", "*")
	date := datesAt(changed)[0]
	for _, l := range [][]impl.Field{nil, {}, {field("If-Match", `"a"`), field("b", "2"), field("if-match", `"c"`)}, {field("If-None-Match", `"b", "d"`), field("IF-RANGE", `"a"`)}, {field("If-Modified-Since", date)}, {field("If-Unmodified-Since", date), field("If-Range", date)}, {field("a", "1"), {}}, manyFields(39), manyFields(40), manyFields(41)} {
		for _, s := range []impl.State{{}, stateOf(tag("a")), stateOf(weakTag("b")), {Modified: 1}} {
			given := withSpare(l, behind)
			before := slices.Clone(given[:cap(given)])
			code, ok := impl.CheckCond("GET", given, s, nowIn2018)
			applies, ok2 := impl.RangeApplies(given, s, nowIn2018)
			if !slices.Equal(given[:cap(given)], before) {
				t.Fatalf("%q is written into", l)
			}
			// What lies behind the length is no condition.
			plain, right := impl.CheckCond("GET", slices.Clone(l), s, nowIn2018)
			plain2, right2 := impl.RangeApplies(slices.Clone(l), s, nowIn2018)
			if code != plain || ok != right || applies != plain2 || ok2 != right2 {
				t.Errorf("what lies behind %q counts: %d, %v", l, code, applies)
			}
		}
	}
}

func TestTagsShareNoMemory(t *testing.T) {
	for _, told := range []string{`"a"`, `W/"abc"`, `"` + strings.Repeat("t", 60) + `"`} {
		read, ok := impl.ReadTag(told)
		again, _ := impl.ReadTag(told)
		if !ok || shareMemory(read.Text, told) || shareMemory(read.Text, again.Text) {
			t.Errorf("ReadTag(%q) shares memory", told)
		}
		back, ok := impl.TagText(read)
		if !ok || back != told || shareMemory(back, read.Text) {
			t.Errorf("TagText(%+v) shares memory", read)
		}
	}
	s := `"a,b", W/"cd" ,"e"`
	want := []impl.Tag{tag("a,b"), weakTag("cd"), tag("e")}
	for range 2 {
		l, star, ok := impl.TagsOf(s)
		if !slices.Equal(l, want) || star || !ok {
			t.Errorf("TagsOf(%q) = %+v, %v, %v", s, l, star, ok)
		}
		for _, one := range l {
			if shareMemory(one.Text, s) {
				t.Errorf("TagsOf(%q) shares memory", s)
			}
		}
		fill(l, tag("overwritten"))
	}
}

// Any bytes and numbers, at each function: no panic, and the second reading's
// answer.
func TestCondFunctionsAnswerAtAnything(t *testing.T) {
	r := rand.New(rand.NewSource(73))
	bits := []string{`"`, `"a"`, "W/", "a", "*", ",", " ", `\`, "w", "/", `W/"b"`, strings.Repeat("t", 59)}
	text := func() string {
		b := make([]byte, max(r.Intn(8)-5, 0))
		r.Read(b)
		return randomOf(r, bits, 7) + string(b)
	}
	names := []string{"If-Match", "If-None-Match", "If-Range", "If-Modified-Since", "If-Unmodified-Since"}
	dates := slices.Concat(datesAt(changed), datesAt(0))
	refused := 0
	for range 60000 {
		s := text()
		checkTagsByForm(t, s)
		a, b := impl.Tag{Weak: r.Intn(2) == 0, Text: text()}, impl.Tag{Weak: r.Intn(2) == 0, Text: text()}
		goodA, goodB := tagForm.MatchString(`"`+a.Text+`"`), tagForm.MatchString(`"`+b.Text+`"`)
		if told, ok := impl.TagText(a); ok != goodA || !ok && told != "" {
			t.Fatalf("TagText(%+v) = %q, %v", a, told, ok)
		}
		good := goodA && goodB
		if same, ok := impl.WeakSame(a, b); ok != good || same != (good && a.Text == b.Text) {
			t.Fatalf("WeakSame(%+v, %+v) = %v, %v", a, b, same, ok)
		}
		if same, ok := impl.StrongSame(a, b); ok != good || same != (good && a == b && !a.Weak) {
			t.Fatalf("StrongSame(%+v, %+v) = %v, %v", a, b, same, ok)
		}
		l, areGood := []impl.Field{}, true
		for range r.Intn(4) {
			f := field(names[r.Intn(5)], strings.Trim(text(), " "))
			switch r.Intn(12) {
			case 0:
				f.Name = text()
			case 1:
				f.Value = text()
			case 2, 3, 4:
				f.Value = dates[r.Intn(6)]
			}
			l = append(l, f)
			areGood = areGood && impl.GoodField(f)
		}
		state := impl.State{There: r.Intn(9) > 0, Tagged: r.Intn(2) == 0, Dated: r.Intn(2) == 0}
		if state.Tagged || r.Intn(9) == 0 {
			state.Tag = []impl.Tag{a, tag("a"), weakTag("b"), {}}[r.Intn(4)]
		}
		if state.Dated || r.Intn(9) == 0 {
			state.Modified = []int{0, changed, -1, impl.MaxSecond, impl.MaxSecond + 1, int(r.Uint64())}[r.Intn(6)]
		}
		method := []string{"GET", "HEAD", "PUT", text()}[r.Intn(4)]
		now := []int{nowIn2018, nowIn2018 + r.Intn(1000), -1, impl.MaxSecond + 1, int(r.Uint64() | 1<<62)}[min(r.Intn(40), 4)]
		if r.Intn(8) > 0 {
			now = nowIn2018
		}
		asked := areGood && goodStateByHand(state) && now >= 0 && now <= impl.MaxSecond
		code, ok := impl.CheckCond(method, l, state, now)
		if ok != (asked && isTokenText(method)) || !ok && code != 0 || ok && code != condByHand(method, l, state) {
			t.Fatalf("CheckCond(%q, %q, %+v, %d) = %d, %v", method, l, state, now, code, ok)
		}
		applies, ok := impl.RangeApplies(l, state, now)
		if ok != asked || applies != (ok && appliesByHand(l, state)) {
			t.Fatalf("RangeApplies(%q, %+v, %d) = %v, %v", l, state, now, applies, ok)
		}
		if !asked {
			refused++
		}
	}
	if refused < 5000 || refused > 55000 {
		t.Error("too many of one kind:", refused)
	}
}
