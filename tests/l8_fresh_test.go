package tests

import (
	"fmt"
	"math"
	"math/rand"
	"regexp"
	"slices"
	"strconv"
	"strings"
	"testing"

	"loop.example/g00256/impl"
)

// The second at which the answers of these tests came; around it ReadDate
// takes two digits as the library does.
const arrived = nowIn2018 + 500000

func controlFields(values ...string) []impl.Field {
	l := []impl.Field{}
	for i, value := range values {
		l = append(l, field([]string{"Cache-Control", "cache-control", "CACHE-CONTROL", "cAcHe-cOnTrOl"}[i%4], value))
	}
	return l
}

func wantControl(t *testing.T, want impl.Control, values ...string) {
	t.Helper()
	l := controlFields(values...)
	if c, ok := impl.ControlOf(l); c != want || !ok {
		t.Errorf("ControlOf(%q) = %+v, %v, not %+v", values, c, ok, want)
	}
	if len(l) > 38 {
		return
	}
	among := append([]impl.Field{field("Control", "no-store")}, l...)
	among = append(among, field("Cache-Controls", "no-cache, max-age=1"))
	if c, ok := impl.ControlOf(among); c != want || !ok {
		t.Errorf("ControlOf(%q) = %+v, %v, not %+v", among, c, ok, want)
	}
}

func keptOf(asked int, came int, l ...impl.Field) impl.Kept {
	return impl.Kept{Answer: responseOf("", l...), Asked: asked, Came: came}
}

// keptThen came at once, at the usual second.
func keptThen(l ...impl.Field) impl.Kept {
	return keptOf(arrived, arrived, l...)
}

func dateField(second int) impl.Field {
	return field("Date", datesAt(second)[0])
}

func wantAge(t *testing.T, k impl.Kept, now int, want int) {
	t.Helper()
	if age, ok := impl.AgeOf(k, now); age != want || !ok {
		t.Errorf("AgeOf(%+v, %d) = %d, %v, not %d", k, now, age, ok, want)
	}
}

func wantLifetime(t *testing.T, k impl.Kept, want int, wantTold bool) {
	t.Helper()
	if lifetime, told, ok := impl.LifetimeOf(k); lifetime != want || told != wantTold || !ok {
		t.Errorf("LifetimeOf(%+v) = %d, %v, %v, not %d, %v", k, lifetime, told, ok, want, wantTold)
	}
}

// wantUntil holds FreshUntil against IsFresh, too.
func wantUntil(t *testing.T, k impl.Kept, want int) {
	t.Helper()
	until, ok := impl.FreshUntil(k)
	if until != want || !ok {
		t.Errorf("FreshUntil(%+v) = %d, %v, not %d", k, until, ok, want)
	}
	checkUntil(t, k, until)
}

func checkUntil(t *testing.T, k impl.Kept, until int) {
	t.Helper()
	if until < k.Came || until > impl.MaxSecond {
		t.Errorf("FreshUntil(%+v) = %d", k, until)
	}
	if until > k.Came {
		for _, now := range []int{k.Came, k.Came + (until-k.Came)/2, until - 1} {
			if now < until {
				wantFresh(t, k, now, true)
			}
		}
	}
	if fresh, ok := impl.IsFresh(k, until); !ok || fresh && until != impl.MaxSecond {
		t.Errorf("IsFresh(%+v, %d) = %v, %v at its end", k, until, fresh, ok)
	}
	if until < impl.MaxSecond {
		for _, now := range []int{until, until + 1, until + (impl.MaxSecond-until)/2, impl.MaxSecond} {
			wantFresh(t, k, now, false)
		}
	}
}

func wantFresh(t *testing.T, k impl.Kept, now int, want bool) {
	t.Helper()
	if fresh, ok := impl.IsFresh(k, now); fresh != want || !ok {
		t.Errorf("IsFresh(%+v, %d) = %v, %v", k, now, fresh, ok)
	}
}

func wantShown(t *testing.T, k impl.Kept, asks []impl.Field, now int, want bool) {
	t.Helper()
	age, _ := impl.AgeOf(k, now)
	if may, shown, ok := impl.MayShow(k, asks, now); may != want || shown != age || !ok {
		t.Errorf("MayShow(%+v, %q, %d) = %v, %d, %v, not %v, %d", k, asks, now, may, shown, ok, want, age)
	}
}

func wantNowRefused(t *testing.T, k impl.Kept, now int) {
	t.Helper()
	if age, ok := impl.AgeOf(k, now); age != 0 || ok {
		t.Errorf("AgeOf(%+v, %d) = %d, %v", k, now, age, ok)
	}
	if fresh, ok := impl.IsFresh(k, now); fresh || ok {
		t.Errorf("IsFresh(%+v, %d) = %v, %v", k, now, fresh, ok)
	}
	for _, asks := range [][]impl.Field{nil, controlFields("max-stale")} {
		if may, age, ok := impl.MayShow(k, asks, now); may || age != 0 || ok {
			t.Errorf("MayShow(%+v, %q, %d) = %v, %d, %v", k, asks, now, may, age, ok)
		}
	}
}

func wantKeptRefused(t *testing.T, k impl.Kept) {
	t.Helper()
	if impl.GoodKept(k) {
		t.Errorf("GoodKept(%+v)", k)
	}
	if lifetime, told, ok := impl.LifetimeOf(k); lifetime != 0 || told || ok {
		t.Errorf("LifetimeOf(%+v) = %d, %v, %v", k, lifetime, told, ok)
	}
	if until, ok := impl.FreshUntil(k); until != 0 || ok {
		t.Errorf("FreshUntil(%+v) = %d, %v", k, until, ok)
	}
	for _, now := range []int{k.Came, k.Came + 1, k.Asked, 0, arrived, impl.MaxSecond} {
		wantNowRefused(t, k, now)
	}
}

func TestMaxAge(t *testing.T) {
	if impl.MaxAge != 1<<31 {
		t.Error(impl.MaxAge)
	}
}

// flags are the directives that say what they say without a number.
func flags() map[string]impl.Control {
	return map[string]impl.Control{
		"no-store": {NoStore: true}, "no-cache": {NoCache: true}, "private": {Private: true}, "public": {Public: true}, "must-revalidate": {Must: true}, "proxy-revalidate": {Must: true},
	}
}

// numbered are those with a number.
func numbered() map[string]func(int) impl.Control {
	return map[string]func(int) impl.Control{
		"max-age":                func(n int) impl.Control { return impl.Control{HasAge: true, Age: n} },
		"s-maxage":               func(n int) impl.Control { return impl.Control{HasShared: true, Shared: n} },
		"max-stale":              func(n int) impl.Control { return impl.Control{HasStale: true, Stale: n} },
		"min-fresh":              func(n int) impl.Control { return impl.Control{HasFresh: true, Fresh: n} },
		"stale-while-revalidate": func(n int) impl.Control { return impl.Control{While: n} },
		"stale-if-error":         func(n int) impl.Control { return impl.Control{IfError: n} },
	}
}

// numbersTold tells what each text tells as a number of seconds, 0 where it is
// none.
func numbersTold() map[string]int {
	noughts := strings.Repeat("0", 200)
	told := map[string]int{
		"0": 0, "1": 1, "9": 9, "10": 10, "60": 60, "007": 7, "00": 0, "0000000000000": 0, "00000000000005": 5, "0000000000000060": 60,
		"2147483647": impl.MaxAge - 1, "2147483648": impl.MaxAge, "2147483649": impl.MaxAge, "02147483647": impl.MaxAge - 1, "4294967296": impl.MaxAge, "4294967297": impl.MaxAge,
		"123456789": 123456789, "1234567890": 1234567890, "99999999999": impl.MaxAge, "100000000000": impl.MaxAge, "999999999999": impl.MaxAge, "0999999999999": impl.MaxAge, "00000100000000000": impl.MaxAge,
		noughts: 0, noughts + "7": 7, noughts + "2147483647": impl.MaxAge - 1, noughts + "999999999999": impl.MaxAge,
	}
	for _, s := range []string{
		"1000000000000", "9999999999999", "01000000000000", noughts + "1000000000000", "1000000000001", "18446744073709551617", "18446744073709551676", "9223372036854775808", strings.Repeat("1", 200),
		"x", "-1", "-0", "+1", "+0", "1.0", "1.", ".5", "1e3", "0x1", "1_0", "5s", "s5", "5x5", "5;5", "5;x=1", "5 5", "5=5", "=5", "5=", "'5'", "`5`", "(5)", "*", "?", "/5", "5/", ":5", "5:", "999999999999x", "x999999999999", "no-store", "max-age=5",
	} {
		told[s] = 0
	}
	return told
}

func TestDirectivesWithoutANumber(t *testing.T) {
	for name, want := range flags() {
		for _, spelled := range []string{name, strings.ToUpper(name), strings.ToUpper(name[:1]) + name[1:], name[:3] + strings.ToUpper(name[3:])} {
			for _, behind := range []string{"", "=", "=x", "=0", "=5", `=""`, `="x"`, `="x, y"`, `="a\"b"`, `="Set-Cookie"`, "=x y", "==", "=x=y"} {
				wantControl(t, want, spelled+behind)
				wantControl(t, want, ", ,"+spelled+behind+" , ,x")
				wantControl(t, want, "x=5", spelled+behind, "")
				wantControl(t, want, spelled+behind, spelled)
			}
		}
	}
	wantControl(t, impl.Control{NoStore: true, NoCache: true, Private: true, Public: true, Must: true}, "no-store, no-cache, private, public, must-revalidate")
	wantControl(t, impl.Control{NoStore: true, NoCache: true, Private: true, Public: true, Must: true}, "proxy-revalidate, must-revalidate", "public,PRIVATE", "No-Store", `no-cache="a"`)
}

func TestDirectivesWithANumber(t *testing.T) {
	for name, of := range numbered() {
		for s, n := range numbersTold() {
			for _, spelled := range []string{name, strings.ToUpper(name), strings.ToUpper(name[:1]) + name[1:]} {
				wantControl(t, of(n), spelled+"="+s)
				wantControl(t, of(n), spelled+`="`+s+`"`)
				wantControl(t, of(n), "x , "+spelled+"="+s+",,", "y="+s)
			}
			// Within quotes a `\` may stand ahead of any byte.
			if len(s) < 100 {
				wantControl(t, of(n), name+`="\`+strings.Join(strings.Split(s, ""), `\`)+`"`)
			}
		}
		for _, s := range []string{"", `""`, " 5", `" 5"`, `"5 "`, `" "`, `"5"x`, `x"5"`, `"5""5"`, `5"5"`, `"5"5`, `""5""`, `\5`, `"5,5"`, `"5, 5"`, `"\"5\""`, `"'5'"`, `"\ 5"`, `"5" "5"`, `"5";x`, `"5" ;x`, `="5"`} {
			wantControl(t, of(0), name+"="+s)
			wantControl(t, of(0), "x", name+"="+s)
		}
		if name == "max-stale" {
			wantControl(t, of(impl.MaxAge), name)
			wantControl(t, of(impl.MaxAge), "Max-Stale", "MAX-STALE ,, max-stale")
		} else {
			wantControl(t, of(0), name)
			wantControl(t, of(0), strings.ToUpper(name), "x")
		}
	}
	all := impl.Control{HasAge: true, Age: 1, HasShared: true, Shared: 2, HasStale: true, Stale: 3, HasFresh: true, Fresh: 4, While: 5, IfError: 6}
	wantControl(t, all, `max-age=1, s-maxage=2, max-stale="3", min-fresh=4, stale-while-revalidate=5, stale-if-error=6`)
	wantControl(t, all, "stale-if-error=6,stale-while-revalidate=05", "min-fresh=4", "MAX-STALE=3,S-MAXAGE=002", "Max-Age=1")
}

func TestTheLeastOfSeveralNumbers(t *testing.T) {
	for name, of := range numbered() {
		for told, n := range map[string]int{
			"9 8": 8, "8 9": 8, "8 8": 8, "10 9": 9, "9 10": 9, "5 3 4": 3, "3 4 5": 3, "5 4 3": 3, "0 1": 0, "1 0": 0, "1 x": 0, "x 1": 0, `7 ""`: 0, `"6" 7`: 6, `7 "6"`: 6, "007 8": 7, "8 007": 7,
			"9 1000000000000": 0, "1000000000000 9": 0, "9 999999999999": 9, "2147483649 2147483647": impl.MaxAge - 1, "2147483648 999999999999": impl.MaxAge, "4 9 9 9": 4, "9 9 9 4": 4, "9 4 0 9": 0,
		} {
			parts := []string{}
			for i, value := range strings.Fields(told) {
				parts = append(parts, []string{name, strings.ToUpper(name)}[i%2]+"="+value)
			}
			wantControl(t, of(n), strings.Join(parts, ", "))
			wantControl(t, of(n), strings.Join(parts, ",x=1 ,, max-ages=0,"))
			wantControl(t, of(n), parts...)
		}
		without := 0
		if name == "max-stale" {
			without = 5
		}
		wantControl(t, of(without), name+", "+name+"=5")
		wantControl(t, of(without), name+"=5, "+name)
		wantControl(t, of(without), name, name+"=5", name)
		wantControl(t, of(0), name+"=, "+name+"=5")
		wantControl(t, of(0), name+"=5, "+name+"=, "+name)
	}
	wantControl(t, impl.Control{HasAge: true, Age: 9, HasShared: true, Shared: 8}, "max-age=9, s-maxage=8")
	wantControl(t, impl.Control{HasAge: true, Age: 8, HasShared: true, Shared: 9}, "s-maxage=9, max-age=8")
}

func TestWhatIsNoDirective(t *testing.T) {
	nothing := []string{
		"", "x", "x=5", "=", "=5", "==", `="no-store"`, `"no-store"`, "'no-store'", "nostore", "no_store", "no-stor", "no-stores", "xno-store", "no--store", "no-store x", "no-store;x", "no-store =x", "no store", "x=no-store", "x no-store", "no-store:x", "no-store/", `no-store"x"`, "-no-store", "no-store-",
		"maxage=5", "max_age=5", "max-ag=5", "max-ages=5", "max-age =5", "max-age:5", "max-age;5", "max-age 5", "max-age5", "xmax-age=5", "s-max-age=5", "smaxage=5", "s_maxage=5", "=max-age=5", `"max-age=5"`, `"max-age"=5`, `max-age""=5`, "x=max-age=5", "min-age=5", "max-fresh=5", "max-stale =5", "max-stale x", "stale-while=5", "stale-if-errors=5", "stale=5", "revalidate", "must-revalidates", "must", "publics", "no-transform", "only-if-cached", "immutable", "must-understand", "*",
	}
	for _, s := range nothing {
		wantControl(t, impl.Control{}, s)
		wantControl(t, impl.Control{NoCache: true, HasAge: true, Age: 7}, "no-cache,"+s, "max-age=7")
		wantControl(t, impl.Control{NoCache: true, HasAge: true, Age: 7}, strings.Trim(s+" ,max-age=7 , no-cache", " "))
	}
	wantControl(t, impl.Control{}, nothing[1:10]...)
	wantControl(t, impl.Control{})
	for _, l := range [][]impl.Field{nil, {}, manyFields(40), {field("Pragma", "no-cache")}, {field("no-store", "no-store"), field("max-age", "5")}, {field("Expires", "0")}} {
		if c, ok := impl.ControlOf(l); c != (impl.Control{}) || !ok {
			t.Errorf("ControlOf(%q) = %+v, %v", l, c, ok)
		}
	}
}

func TestControlOfLists(t *testing.T) {
	// What is no list tells nothing at all.
	for _, s := range []string{`"`, `no-store, "`, `", no-store`, `no-store"`, `no-store, x="a`, `no-store, x=a"`, `max-age="5`, `max-age=5"`, `max-age="`, `max-age=\"`, `no-cache="a\", no-store`, `no-store, x="\"`, `"a" "b`, `no-store,"a\\\"`, `max-age=5, "no-cache"", no-store`, `no-store, max-age="5""`} {
		wantControl(t, impl.Control{}, s)
		wantControl(t, impl.Control{}, "no-cache", s)
		wantControl(t, impl.Control{}, s, "no-cache")
	}
	for _, c := range []struct {
		want   impl.Control
		values []string
	}{
		{impl.Control{NoStore: true, Public: true}, []string{",no-store,, ,public,"}},
		{impl.Control{NoStore: true, Public: true}, []string{"", "no-store", "", "", "public", ""}},
		{impl.Control{NoStore: true, Public: true}, []string{"no-store   ,    public"}},
		{impl.Control{}, []string{",", ", ,", ",,,"}},
		// Commas within quotes part nothing, also where two fields are joined.
		{impl.Control{Private: true}, []string{`x="no-store, no-cache", private`}},
		{impl.Control{NoCache: true, HasAge: true, Age: 7}, []string{`no-cache="a, max-age=5", max-age=7`}},
		{impl.Control{}, []string{`x="\", no-store, \\"`}},
		{impl.Control{Public: true}, []string{`x="\\", public, y=", no-store,"`}},
		{impl.Control{NoStore: true, NoCache: true}, []string{`no-store, x="a`, `b", no-cache`}},
		{impl.Control{NoStore: true}, []string{`no-store, x="a`, "no-cache, max-age=5", `"`}},
		{impl.Control{}, []string{`"`, "no-store, max-age=5", `"`}},
		{impl.Control{HasAge: true}, []string{`max-age="5`, `"`}},
		{impl.Control{HasAge: true}, []string{`max-age="`, `5"`}},
		// A `\` outside of quotes takes nothing with it.
		{impl.Control{NoStore: true}, []string{`x\, no-store`}}, {impl.Control{NoStore: true}, []string{`\"x", no-store`}},
	} {
		wantControl(t, c.want, c.values...)
	}
	// However long.
	long := strings.Repeat("x, ", 97)
	wantControl(t, impl.Control{NoStore: true}, "no-store, "+strings.Repeat("y", 290))
	wantControl(t, impl.Control{NoStore: true, HasAge: true, Age: 5, Public: true}, "no-store, "+long[:280]+"x", long+"max-age=5", long+"x", "public")
	for n := 1; n <= 40; n++ {
		values := slices.Repeat([]string{long + "max-age=7"}, n)
		wantControl(t, impl.Control{HasAge: true, Age: 7}, values...)
		values[n-1] = strings.Repeat(",", 290) + "max-age=6"
		wantControl(t, impl.Control{HasAge: true, Age: 6}, values...)
		values[n-1] = "max-age=" + strings.Repeat("0", 291) + "5"
		wantControl(t, impl.Control{HasAge: true, Age: 5}, values...)
		values[n-1] = `max-age="` + strings.Repeat("0", 289) + `4"`
		wantControl(t, impl.Control{HasAge: true, Age: 4}, values...)
		values[n-1] = `"`
		wantControl(t, impl.Control{}, values...)
	}
}

func TestControlRefused(t *testing.T) {
	good := controlFields("no-store, max-age=5")
	for _, bad := range badFields() {
		for _, l := range [][]impl.Field{{bad}, append(slices.Clone(good), bad), append([]impl.Field{bad}, good...)} {
			if c, ok := impl.ControlOf(l); c != (impl.Control{}) || ok {
				t.Errorf("ControlOf(%q) = %+v, %v", l, c, ok)
			}
			if may, age, ok := impl.MayShow(keptThen(good...), l, arrived); may || age != 0 || ok {
				t.Errorf("MayShow with %q = %v, %d, %v", l, may, age, ok)
			}
		}
	}
	for _, bad := range badValues() {
		for _, value := range []string{"no-store," + bad, bad + ",no-store"} {
			f := field("Cache-Control", value)
			if c, ok := impl.ControlOf([]impl.Field{f}); !impl.GoodField(f) && (c != (impl.Control{}) || ok) {
				t.Errorf("ControlOf(%q) = %+v, %v", value, c, ok)
			}
		}
	}
	for n, want := range map[int]bool{39: true, 40: true, 41: false, 42: false, 1000: false} {
		l := append(manyFields(n-1), good...)
		if c, ok := impl.ControlOf(l); ok != want || c.NoStore != want || c.HasAge != want {
			t.Errorf("ControlOf of %d fields = %+v, %v", n, c, ok)
		}
		if may, age, ok := impl.MayShow(keptThen(good...), l, arrived); ok != want || may != want || age != 0 {
			t.Errorf("MayShow with %d fields = %v, %d, %v", n, may, age, ok)
		}
	}
}

// The second reading of a list of directives, by their form.

var directiveForm = regexp.MustCompile(`^([^=]*)(=)?(.*)$`)
var secondsForm = regexp.MustCompile(`^0*([0-9]{1,12})$`)
var quotedValueForm = regexp.MustCompile(`^"((?:[^"\\]|\\.)*)"$`)

func secondsByForm(s string) int {
	m := secondsForm.FindStringSubmatch(s)
	if m == nil {
		return 0
	}
	n, _ := strconv.ParseInt(m[1], 10, 64)
	return int(min(n, 2147483648))
}

func controlByForm(l []impl.Field) impl.Control {
	told := map[string][]int{}
	parts, good := partsByForm(strings.Join(valuesByHand(l, "cache-control"), ", "))
	if !good {
		return impl.Control{}
	}
	for _, part := range parts {
		m := directiveForm.FindStringSubmatch(part)
		name, value := strings.ToLower(m[1]), m[3]
		if quoted := quotedValueForm.FindStringSubmatch(value); quoted != nil {
			value = takenByte.ReplaceAllString(quoted[1], "$1")
		}
		n := secondsByForm(value)
		if name == "max-stale" && m[2] == "" {
			n = 2147483648
		}
		told[name] = append(told[name], n)
	}
	least := func(name string) (bool, int) {
		if len(told[name]) == 0 {
			return false, 0
		}
		return true, slices.Min(told[name])
	}
	is := func(name string) bool { return len(told[name]) > 0 }
	c := impl.Control{NoStore: is("no-store"), NoCache: is("no-cache"), Private: is("private"), Public: is("public"), Must: is("must-revalidate") || is("proxy-revalidate")}
	c.HasAge, c.Age = least("max-age")
	c.HasShared, c.Shared = least("s-maxage")
	c.HasStale, c.Stale = least("max-stale")
	c.HasFresh, c.Fresh = least("min-fresh")
	_, c.While = least("stale-while-revalidate")
	_, c.IfError = least("stale-if-error")
	return c
}

func checkControlByForm(t *testing.T, l []impl.Field) impl.Control {
	t.Helper()
	want := controlByForm(l)
	c, ok := impl.ControlOf(l)
	if c != want || !ok {
		t.Fatalf("ControlOf(%q) = %+v, %v, not %+v", l, c, ok, want)
	}
	return c
}

func TestEachByteInADirective(t *testing.T) {
	nothing := 0
	for n := range 256 {
		s := string([]byte{byte(n)})
		for _, value := range []string{
			s, s + "no-store", "no-store" + s, "no" + s + "store", "no-stor" + s, s + "o-store", "no-store" + s + "x", "no-store" + s + "max-age=5", "max-age" + s + "5", "max-age=" + s, "max-age=" + s + "5", "max-age=5" + s, "max-age=5" + s + "5", `max-age="` + s + `5"`, `max-age="5` + s + `"`, `max-age="5` + s + `5"`, `max-age=` + s + `5` + s, `max-age="5"` + s, `max-age="\` + s + `5"`, "max-stale" + s, "max-stale" + s + "5", `max-age=5, x="` + s + `", no-store`, "max-age=5" + s + "no-store", s + "max-stale",
		} {
			l := controlFields(value)
			if impl.GoodField(l[0]) {
				if checkControlByForm(t, l) == (impl.Control{}) {
					nothing++
				}
			} else if c, ok := impl.ControlOf(l); c != (impl.Control{}) || ok {
				t.Errorf("ControlOf(%q) = %+v, %v", l, c, ok)
			}
		}
	}
	if nothing < 100 {
		t.Error("too few of them tell nothing:", nothing)
	}
}

func anyDirective(r *rand.Rand) string {
	names := []string{"no-store", "no-cache", "private", "public", "must-revalidate", "proxy-revalidate", "max-age", "s-maxage", "max-stale", "min-fresh", "stale-while-revalidate", "stale-if-error", "Max-Age", "MAX-STALE", "x", "max-ages", ""}
	values := []string{"", "", "=", "=5", "=10", "=007", `="8"`, `="\9"`, "=x", "=2147483647", "=2147483649", "=999999999999", "=1000000000000", `=""`, `="a, b"`, "= 5", `="5`, "=" + strconv.Itoa(r.Intn(200))}
	return names[r.Intn(len(names))] + values[r.Intn(len(values)-min(r.Intn(8), 1))]
}

func anyControl(r *rand.Rand) []impl.Field {
	l := []impl.Field{}
	for range r.Intn(4) {
		s := ""
		for range r.Intn(5) {
			s += anyDirective(r) + []string{",", ", ", " ,, "}[r.Intn(3)]
		}
		if r.Intn(6) == 0 {
			s += `"`
		}
		l = append(l, field([]string{"Cache-Control", "cache-control", "Cache", "CACHE-CONTROL"}[r.Intn(4)], strings.Trim(s, " ")))
	}
	return l
}

func TestControlBySecondReading(t *testing.T) {
	r := rand.New(rand.NewSource(81))
	kinds := map[string]int{}
	for range 60000 {
		c := checkControlByForm(t, anyControl(r))
		if c == (impl.Control{}) {
			kinds["nothing"]++
		}
		for kind, is := range map[string]bool{"age": c.HasAge, "shared": c.HasShared, "stale": c.HasStale, "fresh": c.HasFresh, "while": c.While > 0, "error": c.IfError > 0, "most": c.Stale == impl.MaxAge, "must": c.Must, "no-cache": c.NoCache, "no-store": c.NoStore, "private": c.Private, "public": c.Public} {
			if is {
				kinds[kind]++
			}
		}
	}
	for kind, n := range kinds {
		if n < 1000 || n > 50000 {
			t.Error(kind, n)
		}
	}
	if len(kinds) != 13 {
		t.Error(kinds)
	}
}

func TestGoodKept(t *testing.T) {
	for _, k := range []impl.Kept{
		keptOf(0, 0), keptOf(0, 1), keptOf(0, impl.MaxSecond), keptOf(impl.MaxSecond, impl.MaxSecond), keptOf(impl.MaxSecond-1, impl.MaxSecond), keptOf(5, 5), keptOf(5, 6),
		{Answer: impl.Response{Status: 100}}, {Answer: impl.Response{Status: 599, Reason: strings.Repeat("r", 40)}}, {Answer: responseOf("hi", field("Content-Length", "2"))}, keptThen(manyFields(40)...), keptThen(controlFields(`"`, "no-store")...),
	} {
		if !impl.GoodKept(k) {
			t.Errorf("GoodKept(%+v) tells false", k)
		}
		wantAge(t, k, k.Came, min(k.Came-k.Asked, impl.MaxAge))
		wantLifetime(t, k, 0, false)
		wantUntil(t, k, k.Came)
	}
	good := field("Cache-Control", "max-age=60")
	bad := []impl.Kept{{}, {Asked: 1, Came: 2}}
	for _, r := range badResponses() {
		r.Fields = []impl.Field{good}
		bad = append(bad, impl.Kept{Answer: r}, impl.Kept{Answer: r, Asked: 5, Came: 6})
	}
	for _, f := range badFields() {
		bad = append(bad, keptThen(f), keptThen(good, f), keptThen(f, good))
	}
	bad = append(bad, keptThen(manyFields(41)...), keptThen(good, field("Transfer-Encoding", "chunked")), keptThen(good, field("transfer-encoding", "")), keptThen(good, field("Content-Length", "1")), keptThen(good, field("Content-Length", "x")), keptThen(good, field("Content-Length", "")))
	for _, r := range []impl.Response{responseOf("b", good), responseOf("hi", good, field("Content-Length", "1")), responseOf("hi", good, field("Content-Length", "3")), responseOf("hi", good, field("Content-Length", "2"), field("Content-Length", "3")), responseOf(strings.Repeat("b", 301), field("Content-Length", "301")), responseOf("", slices.Repeat([]impl.Field{field("n", strings.Repeat("v", 300))}, 7)...)} {
		bad = append(bad, impl.Kept{Answer: r, Asked: arrived, Came: arrived})
	}
	for _, times := range [][2]int{{-1, 0}, {-1, -1}, {-5, 5}, {math.MinInt, 0}, {math.MinInt, math.MaxInt}, {1, 0}, {6, 5}, {0, -1}, {arrived + 1, arrived}, {0, impl.MaxSecond + 1}, {impl.MaxSecond, impl.MaxSecond + 1}, {impl.MaxSecond + 1, impl.MaxSecond + 1}, {impl.MaxSecond + 1, impl.MaxSecond}, {0, math.MaxInt}, {math.MaxInt, math.MaxInt}, {math.MaxInt, math.MinInt}, {0, math.MinInt}} {
		bad = append(bad, keptOf(times[0], times[1], good), keptOf(times[0], times[1]))
	}
	for _, k := range bad {
		wantKeptRefused(t, k)
	}
}

func TestNowsOfAnAge(t *testing.T) {
	for _, k := range []impl.Kept{keptOf(arrived-2, arrived), keptOf(arrived-2, arrived, controlFields("max-age=60, s-maxage=70")...), keptOf(0, 0), keptOf(0, 5), keptOf(impl.MaxSecond-3, impl.MaxSecond)} {
		for _, now := range []int{k.Came - 1, k.Came - 2, k.Came - arrived, -1, math.MinInt, impl.MaxSecond + 1, impl.MaxSecond + 2, math.MaxInt} {
			wantNowRefused(t, k, now)
		}
		delay := k.Came - k.Asked
		for _, now := range []int{k.Came, k.Came + 1, k.Came + 2, k.Came + 1000, impl.MaxSecond - 1, impl.MaxSecond} {
			if now >= k.Came && now <= impl.MaxSecond {
				wantAge(t, k, now, min(delay+now-k.Came, impl.MaxAge))
			}
		}
	}
}

func TestAgeByDates(t *testing.T) {
	for _, delay := range []int{0, 1, 7} {
		for _, far := range []int{-1000000, -86400, -61, -8, -7, -6, -2, -1, 0, 1, 5, 100, 86400, 1000000} {
			for _, told := range datesAt(arrived + far) {
				for _, name := range []string{"date", "Date", "DATE"} {
					k := keptOf(arrived-delay, arrived, field("x", told), field(name, told))
					start := max(-far, delay)
					wantAge(t, k, arrived, start)
					wantAge(t, k, arrived+1, start+1)
					wantAge(t, k, arrived+1000, start+1000)
					// Two of them are as none.
					for _, also := range []string{told, "", "x", datesAt(arrived)[0]} {
						k := keptOf(arrived-delay, arrived, field(name, told), field("Date", also))
						wantAge(t, k, arrived, delay)
						wantAge(t, k, arrived+50, delay+50)
					}
				}
				k := keptOf(arrived-delay, arrived, field("Expires", told), field("Last-Modified", told), field("Dates", told))
				wantAge(t, k, arrived+3, delay+3)
			}
		}
		for _, wrong := range wrongDates() {
			wantAge(t, keptOf(arrived-delay, arrived, field("Date", wrong)), arrived+3, delay+3)
		}
	}
	// Two digits of a year are read when it came, whenever it is asked for.
	long := field("Date", "Sunday, 06-Nov-94 08:49:37 GMT")
	later := newYear(t, 2050)
	wantAge(t, keptThen(long), arrived, arrived-changed)
	wantAge(t, keptThen(long), later, later-changed)
	wantAge(t, keptOf(later, later, long), later, 0)
	wantAge(t, keptOf(100, 100, field("Date", "Thursday, 01-Jan-70 00:00:40 GMT")), 110, 70)
	wantAge(t, keptOf(100, 100, field("Date", "Wednesday, 01-Jan-20 00:00:40 GMT")), 110, 10)
	for _, told := range datesAt(0) {
		wantAge(t, keptOf(100, 100, field("Date", told)), 110, 110)
		wantAge(t, keptOf(0, 0, field("Date", told)), 5, 5)
	}
	wantAge(t, keptOf(impl.MaxSecond, impl.MaxSecond, field("Date", "Fri, 31 Dec 9999 23:59:59 GMT")), impl.MaxSecond, 0)
	wantAge(t, keptOf(impl.MaxSecond, impl.MaxSecond, field("Date", "Fri, 31 Dec 9999 23:59:50 GMT")), impl.MaxSecond, 9)
}

func TestAgeByAgeFields(t *testing.T) {
	for s, n := range numbersTold() {
		for _, delay := range []int{0, 3} {
			for _, past := range []int{0, 10} {
				want := min(n+delay+past, impl.MaxAge)
				wantAge(t, keptOf(arrived-delay, arrived, field("Age", s)), arrived+past, want)
				wantAge(t, keptOf(arrived-delay, arrived, field("ages", "77"), field("AGE", s), field("max-age", "88")), arrived+past, want)
				// The first counts, whatever it is.
				for _, second := range []string{"", "x", "0", "99", "2147483648"} {
					wantAge(t, keptOf(arrived-delay, arrived, field("age", s), field("Age", second)), arrived+past, want)
				}
				// By its date it may be older, or not.
				wantAge(t, keptOf(arrived-delay, arrived, field("age", s), dateField(arrived-60)), arrived+past, min(max(n+delay, 60)+past, impl.MaxAge))
				wantAge(t, keptOf(arrived-delay, arrived, dateField(arrived+60), field("age", s)), arrived+past, want)
			}
		}
		if !strings.Contains(s, `"`) {
			wantAge(t, keptThen(field("Age", `"`+s+`"`)), arrived, 0)
		}
	}
	for _, s := range []string{"", `""`, `"5"`, "5, 5", "5,", ",5", "5 5", "5;x", "5, 6", "-5", "5 seconds"} {
		wantAge(t, keptThen(field("Age", s)), arrived+2, 2)
		wantAge(t, keptThen(field("Age", s), field("Age", "99")), arrived+2, 2)
	}
}

func TestAgesAboutMaxAge(t *testing.T) {
	for _, start := range []int{impl.MaxAge - 20, impl.MaxAge - 1, impl.MaxAge} {
		for _, k := range []impl.Kept{keptOf(arrived-5, arrived, field("Age", strconv.Itoa(start-5))), keptOf(impl.MaxSecond-100-start, impl.MaxSecond-100), keptOf(impl.MaxSecond-100, impl.MaxSecond-100, dateField(impl.MaxSecond-100-start))} {
			for _, past := range []int{0, 1, 2, 18, 19, 20, 21, 100} {
				wantAge(t, k, k.Came+past, min(start+past, impl.MaxAge))
			}
		}
	}
	wantAge(t, keptOf(arrived-7, arrived, field("Age", "2147483648")), arrived, impl.MaxAge)
	wantAge(t, keptOf(0, impl.MaxSecond), impl.MaxSecond, impl.MaxAge)
	wantAge(t, keptOf(0, impl.MaxSecond, field("Age", "999999999999"), dateField(0)), impl.MaxSecond, impl.MaxAge)
	wantAge(t, keptOf(0, 0), impl.MaxSecond, impl.MaxAge)
	wantAge(t, keptOf(0, 0), impl.MaxAge, impl.MaxAge)
	wantAge(t, keptOf(0, 0), impl.MaxAge-1, impl.MaxAge-1)
	wantAge(t, keptOf(0, 0), impl.MaxAge+1, impl.MaxAge)
}

func TestLifetimes(t *testing.T) {
	date, expires, modified := dateField(arrived-10), field("Expires", datesAt(arrived + 20)[0]), field("Last-Modified", datesAt(arrived - 110)[0])
	control := func(s string) impl.Field { return field("Cache-Control", s) }
	for _, c := range []struct {
		want int
		told bool
		l    []impl.Field
	}{
		{0, false, nil}, {0, false, []impl.Field{date}}, {60, true, []impl.Field{control("max-age=60")}}, {70, true, []impl.Field{control("s-maxage=70")}},
		{70, true, []impl.Field{control("max-age=60, s-maxage=70")}}, {50, true, []impl.Field{control("max-age=60"), control("s-maxage=50")}}, {0, true, []impl.Field{control("max-age=60, s-maxage=0")}},
		{0, true, []impl.Field{control("max-age=60, s-maxage=x")}}, {0, true, []impl.Field{control("max-age=60, s-maxage")}}, {0, true, []impl.Field{control("max-age=x"), expires}}, {0, true, []impl.Field{control("max-age"), modified}}, {0, true, []impl.Field{control("s-maxage"), date, expires}}, {8, true, []impl.Field{control("max-age=9, max-age=8")}},
		{impl.MaxAge, true, []impl.Field{control("max-age=2147483648")}}, {impl.MaxAge, true, []impl.Field{control("s-maxage=999999999999")}}, {impl.MaxAge - 1, true, []impl.Field{control("max-age=2147483647")}},
		{60, true, []impl.Field{date, expires, modified, control("max-age=60")}}, {70, true, []impl.Field{control("s-maxage=70"), date, expires, modified}}, {0, true, []impl.Field{control("max-age=0"), date, expires}},
		{30, true, []impl.Field{date, expires}}, {30, true, []impl.Field{expires, modified, date}}, {20, true, []impl.Field{expires}}, {20, true, []impl.Field{expires, modified}}, {30, true, []impl.Field{date, expires, control("no-cache, max-stale=9, stale-if-error=8")}}, {30, true, []impl.Field{date, expires, control(`max-age=60, "`)}},
		{10, false, []impl.Field{date, modified}}, {11, false, []impl.Field{modified}}, {11, false, []impl.Field{modified, control("public")}},
		// Two dates are as none: it counts from when it came.
		{20, true, []impl.Field{date, date, expires}}, {11, false, []impl.Field{date, date, modified}}, {20, true, []impl.Field{field("Date", "x"), expires}}, {11, false, []impl.Field{field("Date", ""), modified}},
		{0, true, []impl.Field{date, expires, expires}}, {0, true, []impl.Field{expires, field("expires", "0"), modified}}, {0, true, []impl.Field{field("EXPIRES", ""), expires, modified}},
		{0, false, []impl.Field{date, modified, modified}}, {0, false, []impl.Field{modified, field("last-modified", "")}},
	} {
		wantLifetime(t, keptThen(c.l...), c.want, c.told)
		wantLifetime(t, keptOf(0, arrived, c.l...), c.want, c.told)
		wantUntil(t, keptThen(c.l...), arrived+max(c.want-agesStart(c.l), 0))
	}
	for _, wrong := range wrongDates() {
		wantLifetime(t, keptThen(date, field("Expires", wrong), modified), 0, true)
		wantLifetime(t, keptThen(date, field("Last-Modified", wrong)), 0, false)
		wantLifetime(t, keptThen(field("Date", wrong), expires), 20, true)
	}
}

// agesStart tells how old an answer is that came at once, of which only the
// date counts.
func agesStart(l []impl.Field) int {
	dates := valuesByHand(l, "date")
	if len(dates) == 1 && dates[0] == datesAt(arrived - 10)[0] {
		return 10
	}
	return 0
}

func TestLifetimesByDates(t *testing.T) {
	for _, far := range []int{-1000000, -100, -2, -1, 0, 1, 2, 9, 10, 11, 19, 20, 21, 99, 100, 86400, 1000000} {
		for form := range 3 {
			date, other := field("Date", datesAt(arrived - 50)[(form+1)%3]), datesAt(arrived - 50 + far)[form]
			for _, name := range spellings("expires") {
				wantLifetime(t, keptThen(date, field(name, other)), max(far, 0), true)
			}
			for _, name := range []string{"last-modified", "Last-Modified", "LAST-MODIFIED"} {
				wantLifetime(t, keptThen(field(name, other), date), max(-far, 0)/10, false)
			}
			// Without a date it is when it came, however long it was asked for.
			told := datesAt(arrived + far)[form]
			wantLifetime(t, keptOf(arrived-7, arrived, field("Expires", told)), max(far, 0), true)
			wantLifetime(t, keptOf(arrived-7, arrived, field("Last-Modified", told)), max(-far, 0)/10, false)
		}
	}
	// Two digits of a year are read when it came.
	later := newYear(t, 2050)
	second := secondsOf(t, impl.Date{Year: 2094, Month: 11, Day: 6, Hour: 8, Minute: 49, Second: 37})
	wantLifetime(t, keptThen(field("Expires", "Sunday, 06-Nov-94 08:49:37 GMT")), 0, true)
	wantLifetime(t, keptThen(field("Last-Modified", "Sunday, 06-Nov-94 08:49:37 GMT")), (arrived-changed)/10, false)
	wantLifetime(t, keptOf(later, later, field("Expires", "Saturday, 06-Nov-94 08:49:37 GMT")), second-later, true)
	wantLifetime(t, keptOf(later, later, field("Last-Modified", "Saturday, 06-Nov-94 08:49:37 GMT")), 0, false)
	wantLifetime(t, keptOf(later, later, field("Last-Modified", "Sunday, 06-Nov-94 08:49:37 GMT")), 0, false)
	wantLifetime(t, keptThen(field("Expires", "Saturday, 06-Nov-94 08:49:37 GMT")), 0, true)
	// Not when it was asked for.
	long, usual := field("Date", "Saturday, 06-Nov-94 08:49:37 GMT"), datesAt(second + 70)[0]
	wantLifetime(t, keptOf(100, later, long, field("Expires", usual)), 70, true)
	wantLifetime(t, keptOf(100, later, dateField(second-70), field("Expires", long.Value)), 70, true)
	wantLifetime(t, keptOf(100, later, field("Date", usual), field("Last-Modified", long.Value)), 7, false)
	// The ends of all time: a lifetime has no greatest number of its own.
	first, last := datesAt(0)[0], "Fri, 31 Dec 9999 23:59:59 GMT"
	wantLifetime(t, keptOf(0, 0, field("Expires", last)), impl.MaxSecond, true)
	wantLifetime(t, keptOf(0, impl.MaxSecond, field("Date", first), field("Expires", last)), impl.MaxSecond, true)
	wantLifetime(t, keptOf(0, 0, field("Date", last), field("Expires", first)), 0, true)
	wantLifetime(t, keptOf(0, 0, field("Date", last), field("Last-Modified", first)), impl.MaxSecond/10, false)
	wantLifetime(t, keptOf(0, impl.MaxSecond, field("Last-Modified", first)), impl.MaxSecond/10, false)
	wantLifetime(t, keptOf(0, 0, field("Last-Modified", last)), 0, false)
}

func TestFreshUntilItsEnd(t *testing.T) {
	for _, lifetime := range []int{0, 1, 2, 9, 10, 11, 60, impl.MaxAge - 1, impl.MaxAge} {
		for _, start := range []int{0, 1, 2, 9, 10, 11, 59, 60, 61, impl.MaxAge - 1, impl.MaxAge} {
			told := strconv.Itoa(lifetime)
			for _, l := range [][]impl.Field{controlFields("max-age=" + told), controlFields("max-age=5, s-maxage=" + told), {field("Expires", datesAt(arrived + lifetime)[0])}} {
				k := keptThen(append(l, field("Age", strconv.Itoa(start)))...)
				wantUntil(t, k, arrived+max(lifetime-start, 0))
			}
		}
	}
	// By a tenth: it ends where its age is as much.
	wantUntil(t, keptThen(field("Last-Modified", datesAt(arrived - 100)[0])), arrived+10)
	wantUntil(t, keptThen(dateField(arrived-5), field("Last-Modified", datesAt(arrived - 105)[0])), arrived+5)
	wantUntil(t, keptThen(dateField(arrived-5), field("Last-Modified", datesAt(arrived - 55)[0])), arrived)
	// At the end of all time.
	for _, rest := range []int{0, 1, 59, 60, 61, 100} {
		came := impl.MaxSecond - rest
		k := keptOf(came, came, controlFields("max-age=60")...)
		wantUntil(t, k, min(came+60, impl.MaxSecond))
		if fresh, ok := impl.IsFresh(k, impl.MaxSecond); fresh != (rest < 60) || !ok {
			t.Errorf("IsFresh %d ahead of the end = %v, %v", rest, fresh, ok)
		}
	}
	// No age is more than MaxAge: what lasts longer never ends.
	last := "Fri, 31 Dec 9999 23:59:59 GMT"
	for _, k := range []impl.Kept{keptThen(field("Expires", last)), keptOf(0, 0, field("Expires", last)), keptOf(0, arrived, field("Expires", last), field("Age", "999999999999")), keptThen(field("Expires", datesAt(arrived + impl.MaxAge + 1)[0])), keptThen(field("Expires", datesAt(arrived + impl.MaxAge + 1)[0]), field("Age", "2147483648")), keptOf(0, impl.MaxSecond, dateField(0), field("Expires", last)), keptOf(0, impl.MaxSecond, field("Last-Modified", datesAt(0)[0]))} {
		wantUntil(t, k, impl.MaxSecond)
		wantFresh(t, k, k.Came, true)
		wantFresh(t, k, impl.MaxSecond, true)
		wantShown(t, k, nil, impl.MaxSecond, true)
	}
	wantUntil(t, keptThen(field("Expires", datesAt(arrived + impl.MaxAge)[0])), arrived+impl.MaxAge)
}

// An answer that is fresh for 60 seconds, and came with the age of 10.
func lastsAMinute(directives ...string) impl.Kept {
	return keptOf(arrived-4, arrived, append(controlFields(append([]string{"max-age=60"}, directives...)...), field("Age", "6"))...)
}

func TestMayShowWhatIsFresh(t *testing.T) {
	k := lastsAMinute()
	for past, fresh := range map[int]bool{0: true, 1: true, 48: true, 49: true, 50: false, 51: false, 1000: false} {
		now, age := arrived+past, 10+past
		wantShown(t, k, nil, now, fresh)
		wantShown(t, k, []impl.Field{field("Host", "h"), field("Pragma", "no-cache")}, now, fresh)
		for _, s := range []string{"", "x", "no-store", "private", "public", "must-revalidate", "s-maxage=0", "stale-if-error=100", "stale-while-revalidate=100", `no-cache, "`, "only-if-cached", "s-maxage=5, public"} {
			wantShown(t, k, controlFields(s), now, fresh)
		}
		// It is not shown where the request or the answer has a no-cache.
		for _, s := range []string{"no-cache", "No-Cache", `no-cache="x"`, "no-cache=", "x, no-cache, max-stale", "no-cache, max-age=1000, max-stale=1000, min-fresh=0"} {
			wantShown(t, k, controlFields(s), now, false)
			wantShown(t, lastsAMinute(s), nil, now, false)
			wantShown(t, lastsAMinute(s), controlFields("max-stale"), now, false)
			wantShown(t, lastsAMinute(s), controlFields("no-cache"), now, false)
		}
		// The request's max-age is not less than the age.
		for _, far := range []int{-10, -2, -1, 0, 1, 2, 1000} {
			s := "max-age=" + strconv.Itoa(age+far)
			wantShown(t, k, controlFields(s), now, fresh && far >= 0)
			wantShown(t, k, controlFields(s, "max-stale"), now, far >= 0)
		}
		wantShown(t, k, controlFields("max-age=0"), now, false)
		wantShown(t, k, controlFields("max-age"), now, false)
		wantShown(t, k, controlFields("max-age=x, max-stale"), now, false)
		// That of the answer says how long it lasts, and nothing else.
		wantShown(t, lastsAMinute("s-maxage=1000"), nil, now, age < 1000)
		// It lasts longer than its age by the min-fresh at least.
		for _, far := range []int{-3, -1, 0, 1, 3, 1000} {
			if rest := 60 - age + far; rest >= 0 {
				s := "min-fresh=" + strconv.Itoa(rest)
				wantShown(t, k, controlFields(s), now, fresh && far <= 0)
				// With a max-stale it would be taken stale, but not too short.
				wantShown(t, k, controlFields(s, "max-stale"), now, !fresh || far <= 0)
			}
		}
		wantShown(t, k, controlFields("min-fresh"), now, fresh)
		wantShown(t, k, controlFields("min-fresh=999999999999"), now, false)
		// What the request alone may ask for is nothing in the answer.
		wantShown(t, lastsAMinute("min-fresh=1000, max-stale=1000"), nil, now, fresh)
	}
	wantShown(t, keptThen(), nil, arrived, false)
	wantShown(t, keptThen(), controlFields("max-age=0"), arrived, false)
	wantShown(t, keptThen(controlFields("max-age=1")...), controlFields("max-age=0"), arrived, true)
	wantShown(t, keptThen(controlFields("max-age=1")...), controlFields("max-age=0"), arrived+1, false)
}

func TestMayShowWhatIsStale(t *testing.T) {
	k := lastsAMinute()
	for _, lack := range []int{0, 1, 2, 9, 10, 11, 100} {
		now := arrived + 50 + lack
		wantFresh(t, k, now, false)
		for _, far := range []int{-100, -10, -2, -1, 0, 1, 2, 1000} {
			if lack+far < 0 {
				continue
			}
			s := "max-stale=" + strconv.Itoa(lack+far)
			wantShown(t, k, controlFields(s), now, far >= 0)
			wantShown(t, k, controlFields(s, "max-stale"), now, far >= 0)
			wantShown(t, k, controlFields("max-stale=100000, "+s), now, far >= 0)
			wantShown(t, k, controlFields(s+", max-age=1000"), now, far >= 0)
			wantShown(t, k, controlFields(s+", no-cache"), now, false)
			wantShown(t, k, controlFields(s+", max-age=59"), now, false)
			// The answer may not be taken stale.
			for _, not := range []string{"must-revalidate", "proxy-revalidate", "Must-Revalidate=x", "s-maxage=60", "s-maxage=1", "s-maxage", "must-revalidate, s-maxage=60"} {
				wantShown(t, lastsAMinute(not), controlFields(s), now, false)
			}
			for _, also := range []string{"public", "private", "no-store", "x", "stale-if-error=5", "stale-while-revalidate=5", "max-stale=0", "min-fresh=1000"} {
				wantShown(t, lastsAMinute(also), controlFields(s), now, far >= 0)
			}
			// These say so of an answer, not of a request.
			for _, also := range []string{"must-revalidate", "proxy-revalidate", "s-maxage=0", "public"} {
				wantShown(t, k, controlFields(s, also), now, far >= 0)
			}
			// A min-fresh asks something of what is fresh alone.
			wantShown(t, k, controlFields(s, "min-fresh=5"), now, far >= 0)
		}
		wantShown(t, k, controlFields("max-stale"), now, true)
		wantShown(t, k, controlFields("MAX-STALE=999999999999"), now, true)
		wantShown(t, k, controlFields("max-stale="), now, lack == 0)
		wantShown(t, k, controlFields("max-stale=x"), now, lack == 0)
		wantShown(t, k, controlFields(`max-stale, "`), now, false)
		wantShown(t, lastsAMinute("max-stale"), nil, now, false)
		wantShown(t, lastsAMinute("max-stale=1000"), controlFields("max-age=1000"), now, false)
		wantShown(t, lastsAMinute("stale-while-revalidate=1000, stale-if-error=1000"), nil, now, false)
	}
	// What tells no lifetime is stale, by all of its age.
	for _, past := range []int{0, 1, 5, 6} {
		wantShown(t, keptThen(), controlFields("max-stale=5"), arrived+past, past <= 5)
	}
	// With s-maxage it is shown while it is fresh, whatever else is asked for.
	shared := keptThen(controlFields("s-maxage=60, must-revalidate")...)
	wantShown(t, shared, controlFields("max-stale"), arrived+59, true)
	wantShown(t, shared, controlFields("max-stale"), arrived+60, false)
	// However old.
	wantShown(t, keptOf(0, 0), controlFields("max-stale"), impl.MaxSecond, true)
	wantShown(t, keptOf(0, 0), controlFields("max-stale=2147483648"), impl.MaxSecond, true)
	wantShown(t, keptOf(0, 0), controlFields("max-stale=2147483647"), impl.MaxSecond, false)
}

// The second reading of a kept answer, by the library's dates: good where it
// came near 2018.

func onlyDateByHand(l []impl.Field, name string) (int, bool) {
	values := valuesByHand(l, name)
	if len(values) != 1 {
		return 0, false
	}
	d, ok := readByTheLibrary(values[0])
	return int(libraryTime(d).Unix()), ok
}

func ageByHand(k impl.Kept, now int) int {
	start := k.Came - k.Asked
	if ages := valuesByHand(k.Answer.Fields, "age"); len(ages) > 0 {
		start += secondsByForm(ages[0])
	}
	if date, ok := onlyDateByHand(k.Answer.Fields, "date"); ok && k.Came-date > start {
		start = k.Came - date
	}
	return min(start+now-k.Came, 2147483648)
}

func lifetimeByHand(k impl.Kept) (int, bool) {
	l := k.Answer.Fields
	c := controlByForm(l)
	date, ok := onlyDateByHand(l, "date")
	if !ok {
		date = k.Came
	}
	expires, dated := onlyDateByHand(l, "expires")
	modified, changedThen := onlyDateByHand(l, "last-modified")
	switch {
	case c.HasShared:
		return c.Shared, true
	case c.HasAge:
		return c.Age, true
	case dated && expires > date:
		return expires - date, true
	case len(valuesByHand(l, "expires")) > 0:
		return 0, true
	case changedThen && modified < date:
		return (date - modified) / 10, false
	}
	return 0, false
}

func mayShowByHand(k impl.Kept, asks []impl.Field, now int) bool {
	age := ageByHand(k, now)
	lifetime, _ := lifetimeByHand(k)
	own, asked := controlByForm(k.Answer.Fields), controlByForm(asks)
	switch {
	case own.NoCache, asked.NoCache, asked.HasAge && age > asked.Age:
		return false
	case age < lifetime && asked.HasFresh:
		return age+asked.Fresh <= lifetime
	case age < lifetime:
		return true
	case own.Must, own.HasShared, !asked.HasStale:
		return false
	}
	return age <= lifetime+asked.Stale
}

func anyKept(r *rand.Rand) impl.Kept {
	one := func(l ...string) string { return l[r.Intn(len(l))] }
	near := func() string { return datesAt(arrived + r.Intn(161) - 80)[r.Intn(3)] }
	l := []impl.Field{}
	for _, name := range []string{"Date", "date", "Age", "age", "Expires", "expires", "Last-Modified"} {
		if r.Intn(3) > 0 {
			continue
		}
		value := near()
		if smallOf(name) == "age" {
			value = strconv.Itoa(r.Intn(100))
		}
		if r.Intn(8) == 0 {
			value = one("", "x", "0", "2147483640", "999999999999", "1000000000000", "0005", near(), "5, 6")
		}
		l = append(l, field(name, value))
	}
	if r.Intn(2) == 0 {
		l = append(l, field("Cache-Control", one("max-age=50", "s-maxage=60", "no-cache", "max-age=70, must-revalidate", "public", "max-age=2147483648", "max-age=x", "max-age=90, s-maxage=40")))
	}
	if r.Intn(6) == 0 {
		l = append(l, anyControl(r)...)
	}
	return keptOf(arrived-r.Intn(30)*r.Intn(2), arrived, l...)
}

func TestFreshnessBySecondReading(t *testing.T) {
	r := rand.New(rand.NewSource(82))
	kinds := map[string]int{}
	for range 60000 {
		k := anyKept(r)
		asks := anyControl(r)
		if r.Intn(3) > 0 {
			names := []string{"max-stale", "max-stale=", "max-age=", "min-fresh="}
			s := names[r.Intn(4)]
			if strings.HasSuffix(s, "=") {
				s += strconv.Itoa(r.Intn(100))
			}
			asks = controlFields(s, names[r.Intn(4)]+"50")
		}
		now := k.Came + []int{r.Intn(100), 0, r.Intn(3000000000), impl.MaxSecond - k.Came}[min(r.Intn(20), 3)]
		if r.Intn(8) > 0 {
			now = k.Came + r.Intn(100)
		}
		lifetime, told := lifetimeByHand(k)
		age := ageByHand(k, now)
		wantAge(t, k, now, age)
		wantLifetime(t, k, lifetime, told)
		wantFresh(t, k, now, lifetime > age)
		shown := mayShowByHand(k, asks, now)
		wantShown(t, k, asks, now, shown)
		until, _ := impl.FreshUntil(k)
		checkUntil(t, k, until)
		kinds[fmt.Sprintf("told %v", told)]++
		kinds[fmt.Sprintf("fresh %v shown %v", lifetime > age, shown)]++
		if age == impl.MaxAge {
			kinds["old"]++
		}
		if until > k.Came {
			kinds["fresh when it came"]++
		}
		if t.Failed() {
			t.FailNow()
		}
	}
	if len(kinds) != 8 {
		t.Error(kinds)
	}
	for kind, n := range kinds {
		if n < 1000 {
			t.Error(kind, n)
		}
	}
}

// Promise 8.
func TestAnswersGetOlderByTheTimeThatGoesBy(t *testing.T) {
	r := rand.New(rand.NewSource(83))
	shows := map[bool]int{}
	for range 40000 {
		k := anyKept(r)
		now := k.Came + r.Intn(200)
		later := now + []int{r.Intn(100), r.Intn(2 * impl.MaxAge)}[r.Intn(2)]
		age, ok := impl.AgeOf(k, now)
		older, ok2 := impl.AgeOf(k, later)
		if !ok || !ok2 || older != min(age+later-now, impl.MaxAge) || age < k.Came-k.Asked+now-k.Came && age != impl.MaxAge {
			t.Fatalf("AgeOf(%+v): %d at %d, %d at %d", k, age, now, older, later)
		}
		lifetime, _, _ := impl.LifetimeOf(k)
		asks := append(anyControl(r), controlFields("max-stale=" + strconv.Itoa(r.Intn(200)))[:r.Intn(2)]...)
		may, _, ok := impl.MayShow(k, asks, now)
		fresh, ok2 := impl.IsFresh(k, now)
		asked, ok3 := impl.ControlOf(asks)
		if !ok || !ok2 || !ok3 || may && !fresh && (!asked.HasStale || asked.Stale < age-lifetime) {
			t.Fatalf("MayShow(%+v, %q, %d) = %v, %v; it is %d old and lasts for %d", k, asks, now, may, ok, age, lifetime)
		}
		// What is fresh later was so before.
		if freshLater, _ := impl.IsFresh(k, later); freshLater && !fresh {
			t.Fatalf("IsFresh(%+v): at %d, and not at %d", k, later, now)
		}
		if !fresh {
			shows[may]++
		}
	}
	if shows[true] < 1000 || shows[false] < 1000 {
		t.Error("too few of one kind:", shows)
	}
}

func TestFreshFunctionsWriteIntoNothing(t *testing.T) {
	behind := field("Cache-Control", "no-cache, max-age=0")
	lists := [][]impl.Field{nil, {}, controlFields("max-age=60, no-store"), controlFields("Max-Stale", `S-MAXAGE="7"`), {dateField(arrived - 5), field("Age", "7"), field("Expires", datesAt(arrived + 60)[1])}, {dateField(arrived - 5), field("Last-Modified", datesAt(changed)[2])}, controlFields(`"`), {field("a", "1"), {}}, manyFields(39), manyFields(40), manyFields(41)}
	for _, l := range lists {
		for _, asks := range lists {
			given, givenAsks := withSpare(l, behind), withSpare(asks, behind)
			before, beforeAsks := slices.Clone(given[:cap(given)]), slices.Clone(givenAsks[:cap(givenAsks)])
			k, plain := keptThen(given...), keptThen(slices.Clone(l)...)
			k.Answer.Fields = given
			if fmt.Sprint(freshAnswers(k, givenAsks, arrived+9)...) != fmt.Sprint(freshAnswers(plain, slices.Clone(asks), arrived+9)...) {
				t.Errorf("what lies behind %q or %q counts", l, asks)
			}
			if !slices.Equal(given[:cap(given)], before) || !slices.Equal(givenAsks[:cap(givenAsks)], beforeAsks) {
				t.Fatalf("%q or %q is written into", l, asks)
			}
			if !sameResponse(k.Answer, responseOf("", l...)) || k.Asked != arrived || k.Came != arrived {
				t.Fatalf("%+v is written into", k)
			}
		}
	}
}

// freshAnswers are those of all functions.
func freshAnswers(k impl.Kept, asks []impl.Field, now int) []any {
	control, ok := impl.ControlOf(asks)
	own, ok1 := impl.ControlOf(k.Answer.Fields)
	age, ok2 := impl.AgeOf(k, now)
	lifetime, told, ok3 := impl.LifetimeOf(k)
	fresh, ok4 := impl.IsFresh(k, now)
	may, shown, ok5 := impl.MayShow(k, asks, now)
	until, ok6 := impl.FreshUntil(k)
	return []any{control, ok, own, ok1, impl.GoodKept(k), age, ok2, lifetime, told, ok3, fresh, ok4, may, shown, ok5, until, ok6}
}

// Any bytes and numbers, at each function: no panic, and the second reading's
// answer, or nothing.
func TestFreshFunctionsAnswerAtAnything(t *testing.T) {
	r := rand.New(rand.NewSource(84))
	text := func() string {
		b := make([]byte, max(r.Intn(9)-6, 0))
		r.Read(b)
		return randomOf(r, []string{"max-age", "=", `"`, "5", ",", " ", `\`, "no-store", "0", "max-stale", "x", datesAt(arrived)[1]}, 7) + string(b)
	}
	number := func(usual int) int {
		if r.Intn(5) > 0 {
			return usual + r.Intn(3) - 1
		}
		return []int{usual, 0, -1, impl.MaxSecond, impl.MaxSecond + 1, int(r.Uint64()), math.MaxInt, math.MinInt}[r.Intn(8)]
	}
	fields := func() []impl.Field {
		l := anyControl(r)
		for range r.Intn(3) {
			l = append(l, field([]string{"Cache-Control", "Age", "Date", "Expires", "Last-Modified", text()}[min(r.Intn(6), 5-r.Intn(2))], strings.Trim(text(), " ")))
		}
		if r.Intn(12) == 0 {
			l = append(l, field("Cache-Control", text()))
		}
		return l
	}
	counts := map[string]int{}
	for range 40000 {
		k := keptOf(number(arrived-3), number(arrived), fields()...)
		if r.Intn(9) == 0 {
			k.Answer = impl.Response{Status: number(200), Reason: text(), Fields: fields(), Body: text()}
		}
		asks, now := fields(), number(arrived+20)
		goodAsks := !slices.ContainsFunc(asks, func(f impl.Field) bool { return !impl.GoodField(f) })
		good := impl.GoodResponse(k.Answer) && k.Asked >= 0 && k.Asked <= k.Came && k.Came <= impl.MaxSecond
		goodNow := good && now >= k.Came && now <= impl.MaxSecond
		control, ok := impl.ControlOf(asks)
		if ok != goodAsks || ok && control != controlByForm(asks) || !ok && control != (impl.Control{}) {
			t.Fatalf("ControlOf(%q) = %+v, %v", asks, control, ok)
		}
		if impl.GoodKept(k) != good {
			t.Fatalf("GoodKept(%+v) tells %v", k, !good)
		}
		if !good {
			counts["bad"]++
			wantKeptRefused(t, k)
			continue
		}
		if !goodNow {
			counts["bad now"]++
			wantNowRefused(t, k, now)
			continue
		}
		if !goodAsks {
			counts["bad asks"]++
			if may, age, ok := impl.MayShow(k, asks, now); may || age != 0 || ok {
				t.Fatalf("MayShow(%+v, %q, %d) = %v, %d, %v", k, asks, now, may, age, ok)
			}
			continue
		}
		counts["good"]++
		until, ok := impl.FreshUntil(k)
		checkUntil(t, k, until)
		// At other times two digits of a year are read otherwise.
		if k.Came == arrived || k.Came == arrived+1 || k.Came == arrived-1 {
			lifetime, told := lifetimeByHand(k)
			wantAge(t, k, now, ageByHand(k, now))
			wantLifetime(t, k, lifetime, told)
			wantShown(t, k, asks, now, mayShowByHand(k, asks, now))
		}
		if !ok || t.Failed() {
			t.FailNow()
		}
	}
	for _, kind := range []string{"bad", "bad now", "bad asks", "good"} {
		if counts[kind] < 1000 {
			t.Error(counts)
		}
	}
}
