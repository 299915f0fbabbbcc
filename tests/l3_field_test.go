package tests

import (
	"fmt"
	"math/rand"
	"regexp"
	"slices"
	"strconv"
	"strings"
	"testing"

	"loop.example/g00256/impl"
)

// tokenBytes are all bytes that a token may have, in the words of the document.
const tokenBytes = "abcdefghijklmnopqrstuvwxyzABCDEFGHIJKLMNOPQRSTUVWXYZ0123456789!#$%&'*+-.^_|~`"

func field(name string, value string) impl.Field {
	return impl.Field{Name: name, Value: value}
}

// manyFields are so many fields of so many names.
func manyFields(n int) []impl.Field {
	l := []impl.Field{}
	for i := range n {
		l = append(l, field("n"+strconv.Itoa(i), strconv.Itoa(i)))
	}
	return l
}

// withSpare is a copy that has something behind its length, in its memory.
func withSpare[T any](l []T, spare T) []T {
	whole := append(slices.Clone(l), spare, spare, spare)
	return whole[:len(l)]
}

// smallOf is the second opinion on small letters, of texts of ASCII.
func smallOf(s string) string {
	return strings.ToLower(s)
}

func isTokenText(s string) bool {
	return len(s) >= 1 && len(s) <= 60 && strings.Trim(s, tokenBytes) == ""
}

func isPlainText(s string) bool {
	return strings.IndexFunc(s, func(r rune) bool { return r < 32 || r > 126 }) < 0
}

func badTokens() []string {
	return []string{"", " ", "a b", " a", "a ", "a:", "a,b", "a;b", "a/b", "a\"", "\"a\"", "a=b", "(a)", "[a]", "{a}", "a@", "a?", "<a>", "a\\", "\x00", "a\x1f", "a\x7f", "\x80", "a\xff", "ä", strings.Repeat("a", 61), strings.Repeat("a", 100000)}
}

func badValues() []string {
	return []string{" ", "  ", " a", "a ", " a ", "\x00", "a\tb", "\t", "a\r\nb", "\x1f", "a\x7f", "\x80", "\xff", "ä", strings.Repeat("v", 301), strings.Repeat("v", 100000), strings.Repeat("v", 300) + " "}
}

func badFields() []impl.Field {
	l := []impl.Field{{}}
	for _, name := range badTokens() {
		l = append(l, field(name, "v"), field(name, ""))
	}
	for _, value := range badValues() {
		l = append(l, field("n", value))
	}
	return l
}

func TestGoodFields(t *testing.T) {
	for _, f := range []impl.Field{
		field("a", ""), field("a", "v"), field("Content-Type", "text/html; charset=utf-8"), field("a", "b  c"), field("0", "0"),
		field(tokenBytes[:60], "v"), field(tokenBytes[20:], "v"), field("*", "*"), field("a", "\"b\\"), field("a", ","), field("a", "!"), field("a", "~"),
		field(strings.Repeat("n", 59), strings.Repeat("v", 299)), field(strings.Repeat("n", 60), strings.Repeat("v", 300)), field("n", "v"+strings.Repeat(" ", 298)+"v"),
	} {
		if !impl.GoodField(f) {
			t.Errorf("GoodField(%q) tells false", f)
		}
	}
	for _, f := range badFields() {
		if impl.GoodField(f) {
			t.Errorf("GoodField(%q)", f)
		}
	}
	if impl.MaxFields != 40 || impl.MaxValue != 300 {
		t.Error("limits", impl.MaxFields, impl.MaxValue)
	}
}

// Each byte, alone, in each place: told apart by the words of the document.
func TestEachByteInEachPlaceOfAField(t *testing.T) {
	one := []impl.Field{field("a", "1")}
	for n := range 256 {
		s := string([]byte{byte(n)})
		check := func(what string, got bool, want bool) {
			if got != want {
				t.Errorf("byte %d %s: %v", n, what, got)
			}
		}
		token, plain := strings.Contains(tokenBytes, s), n >= 32 && n <= 126
		for _, name := range []string{s, "a" + s, s + "a", "a" + s + "a"} {
			check("in a name", impl.GoodField(field(name, "v")), token)
			_, ok := impl.ValuesOf(one, name)
			check("in a name asked for", ok, token)
			_, ok = impl.SetField(one, field(name, "v"))
			check("in a name set", ok, token)
			_, ok = impl.BestChoice("*", []string{name})
			check("in an offered name", ok, token)
		}
		check("alone in a value", impl.GoodField(field("n", s)), plain && n != 32)
		check("ahead in a value", impl.GoodField(field("n", s+"v")), plain && n != 32)
		check("last in a value", impl.GoodField(field("n", "v"+s)), plain && n != 32)
		check("within a value", impl.GoodField(field("n", "v"+s+"v")), plain)

		if c, ok := impl.ChoicesOf("a" + s + "b"); n == ',' {
			check("parts choices", ok && len(c) == 2, true)
		} else {
			check("in a choice", ok, token)
		}
		q, ok := impl.QuoteOf(s)
		check("quoted", ok, plain)
		want := "\"" + s + "\""
		if n == '"' || n == '\\' {
			want = "\"\\" + s + "\""
		}
		check("told within quotes", q == want, plain)
		u, ok := impl.UnquoteOf("\"" + s + "\"")
		check("unquoted", ok && u == s, plain && n != '"' && n != '\\')
		u, ok = impl.UnquoteOf("\"\\" + s + "\"")
		check("unquoted behind a \\", ok && u == s, plain)
		l, ok := impl.ListOf("a" + s + "b")
		check("in a list", ok, plain && n != '"')
		check("parts a list", ok && len(l) == 2, n == ',')
		l, ok = impl.ListOf("\"a" + s + "b\"")
		check("within quotes of a list", ok && len(l) == 1, plain && n != '"')
	}
}

func TestValuesOf(t *testing.T) {
	l := []impl.Field{field("Accept", "a"), field("b", "1"), field("ACCEPT", ""), field("accept", "c, d"), field("accept-x", "e"), field("B", "1"), field("acc", "f")}
	for name, want := range map[string][]string{
		"accept": {"a", "", "c, d"}, "Accept": {"a", "", "c, d"}, "aCCEPT": {"a", "", "c, d"}, "b": {"1", "1"}, "B": {"1", "1"},
		"accept-X": {"e"}, "ACC": {"f"}, "a": {}, "accept-": {}, "accept-xx": {}, "*": {}, strings.Repeat("a", 60): {},
	} {
		v, ok := impl.ValuesOf(l, name)
		if !ok || !slices.Equal(v, want) {
			t.Errorf("ValuesOf(%q) = %q, %v", name, v, ok)
		}
		j, ok := impl.JoinedOf(l, name)
		if ok != (len(want) > 0) || j != strings.Join(want, ", ") {
			t.Errorf("JoinedOf(%q) = %q, %v", name, j, ok)
		}
	}
	if v, ok := impl.ValuesOf(nil, "a"); !ok || len(v) != 0 {
		t.Error("of no fields", v, ok)
	}
	if j, ok := impl.JoinedOf(nil, "a"); ok || j != "" {
		t.Error("joined of no fields", j, ok)
	}
	if j, ok := impl.JoinedOf([]impl.Field{field("a", "")}, "a"); !ok || j != "" {
		t.Error("an empty value", j, ok)
	}
	if j, ok := impl.JoinedOf([]impl.Field{field("a", ""), field("b", "x"), field("A", "")}, "a"); !ok || j != ", " {
		t.Error("two empty values", j, ok)
	}
}

// Letters alone are small and great: bytes 32 apart are not the same else.
func TestNamesAreTheSameInSmallLetters(t *testing.T) {
	for _, pair := range [][2]string{{"^", "~"}, {"#", "C"}, {"!", "A"}, {"0", "P"}, {"*", "J"}, {"-", "_"}, {"a", "b"}, {"a", "aa"}} {
		l := []impl.Field{field(pair[0], "1"), field(pair[1], "2")}
		for i, name := range pair {
			if v, ok := impl.ValuesOf(l, name); !ok || !slices.Equal(v, []string{l[i].Value}) {
				t.Errorf("ValuesOf(%q, %q) = %q, %v", l, name, v, ok)
			}
		}
	}
	for b := byte('a'); b <= 'z'; b++ {
		small, great := string([]byte{b}), string([]byte{b - 32})
		l := []impl.Field{field(small, "1"), field(great, "2")}
		for _, name := range []string{small, great} {
			if v, ok := impl.ValuesOf(l, name); !ok || !slices.Equal(v, []string{"1", "2"}) {
				t.Errorf("ValuesOf(%q, %q) = %q, %v", l, name, v, ok)
			}
			if set, ok := impl.SetField(l, field(name, "x")); !ok || !slices.Equal(set, []impl.Field{field(small, "x")}) {
				t.Errorf("SetField(%q, %q) = %q, %v", l, name, set, ok)
			}
		}
	}
}

func TestSetField(t *testing.T) {
	l := []impl.Field{field("x", "0"), field("A", "1"), field("b", "2"), field("a", "3"), field("C", "4"), field("A", "5")}
	for _, c := range []struct {
		f    impl.Field
		want []impl.Field
	}{
		{field("a", "n"), []impl.Field{field("x", "0"), field("A", "n"), field("b", "2"), field("C", "4")}},
		{field("A", ""), []impl.Field{field("x", "0"), field("A", ""), field("b", "2"), field("C", "4")}},
		{field("X", "n"), []impl.Field{field("x", "n"), field("A", "1"), field("b", "2"), field("a", "3"), field("C", "4"), field("A", "5")}},
		{field("c", "4"), l},
		{field("B", "n"), []impl.Field{field("x", "0"), field("A", "1"), field("b", "n"), field("a", "3"), field("C", "4"), field("A", "5")}},
		{field("New", "n"), append(slices.Clone(l), field("New", "n"))},
	} {
		if set, ok := impl.SetField(l, c.f); !ok || !slices.Equal(set, c.want) {
			t.Errorf("SetField(%q) = %q, %v, not %q", c.f, set, ok, c.want)
		}
	}
	for _, none := range [][]impl.Field{nil, {}} {
		if set, ok := impl.SetField(none, field("A", "1")); !ok || !slices.Equal(set, []impl.Field{field("A", "1")}) {
			t.Errorf("SetField of no fields: %q, %v", set, ok)
		}
	}
}

func TestFortyFieldsAndOneMore(t *testing.T) {
	full := manyFields(impl.MaxFields)
	if v, ok := impl.ValuesOf(full, "N39"); !ok || !slices.Equal(v, []string{"39"}) {
		t.Error("ValuesOf of 40 fields", v, ok)
	}
	for i := range full {
		want := slices.Clone(full)
		want[i].Value = "x"
		if set, ok := impl.SetField(full, field(full[i].Name, "x")); !ok || !slices.Equal(set, want) {
			t.Error("SetField of 40 fields", i, set, ok)
		}
	}
	if set, ok := impl.SetField(full, field("new", "x")); ok || len(set) != 0 {
		t.Error("a forty-first field", set, ok)
	}
	if set, ok := impl.SetField(full[1:], field("new", "x")); !ok || len(set) != 40 || set[39] != field("new", "x") || !slices.Equal(set[:39], full[1:]) {
		t.Error("a fortieth field", set, ok)
	}
	same := slices.Repeat([]impl.Field{field("n", "v")}, 40)
	if set, ok := impl.SetField(same, field("N", "x")); !ok || !slices.Equal(set, []impl.Field{field("n", "x")}) {
		t.Error("40 fields of one name", set, ok)
	}
	if set, ok := impl.SetField(same, field("m", "x")); ok || len(set) != 0 {
		t.Error("40 fields of one name, and another", set, ok)
	}
	same[0].Value, same[39].Value = "first", "last"
	if v, ok := impl.ValuesOf(same, "N"); !ok || len(v) != 40 || v[0] != "first" || v[39] != "last" {
		t.Error("40 values", v, ok)
	}
	checkFieldsRefused(t, manyFields(41), "n1", field("n1", "x"))
	checkFieldsRefused(t, slices.Repeat(same[1:39], 3), "n", field("n", "x"))
}

// Together the values may be longer than a value.
func TestManyLongValuesAreJoined(t *testing.T) {
	l := slices.Repeat([]impl.Field{field("n", strings.Repeat("v", 300))}, 40)
	want := strings.Repeat(strings.Repeat("v", 300)+", ", 40)
	if j, ok := impl.JoinedOf(l, "n"); !ok || j != want[:len(want)-2] {
		t.Error(len(j), ok)
	}
}

func checkFieldsRefused(t *testing.T, l []impl.Field, name string, f impl.Field) {
	t.Helper()
	if v, ok := impl.ValuesOf(l, name); ok || len(v) != 0 {
		t.Errorf("ValuesOf(%q, %q) = %q, %v", l, name, v, ok)
	}
	if j, ok := impl.JoinedOf(l, name); ok || j != "" {
		t.Errorf("JoinedOf(%q, %q) = %q, %v", l, name, j, ok)
	}
	if set, ok := impl.SetField(l, f); ok || len(set) != 0 {
		t.Errorf("SetField(%q, %q) = %q, %v", l, f, set, ok)
	}
}

func TestBadFieldsAreRefused(t *testing.T) {
	good := []impl.Field{field("a", "1"), field("b", "2"), field("c", "3")}
	for _, bad := range badFields() {
		for i := range good {
			l := slices.Clone(good)
			l[i] = bad
			checkFieldsRefused(t, l, "a", field("a", "x"))
		}
		checkFieldsRefused(t, append(slices.Clone(good), bad), "a", field("a", "x"))
		for _, l := range [][]impl.Field{good, nil, {bad}} {
			if set, ok := impl.SetField(l, bad); ok || len(set) != 0 {
				t.Errorf("SetField(%q, %q) = %q, %v", l, bad, set, ok)
			}
		}
	}
	for _, name := range badTokens() {
		for _, l := range [][]impl.Field{good, nil} {
			checkFieldsRefused(t, l, name, field(name, "x"))
		}
	}
}

// setByHand is SetField in the words of the document, without a map.
func setByHand(l []impl.Field, f impl.Field) ([]impl.Field, bool) {
	set, found := []impl.Field{}, false
	for _, old := range l {
		if smallOf(old.Name) != smallOf(f.Name) {
			set = append(set, old)
		} else if !found {
			set, found = append(set, field(old.Name, f.Value)), true
		}
	}
	if !found {
		set = append(set, f)
	}
	return set, len(set) <= 40
}

func TestFieldsSetOneAfterAnother(t *testing.T) {
	r := rand.New(rand.NewSource(31))
	for range 300 {
		names := 1 + r.Intn(60)
		name := func() string {
			n := []byte("n" + strconv.Itoa(r.Intn(names)))
			if r.Intn(2) == 0 {
				n[0] = 'N'
			}
			return string(n)
		}
		l := []impl.Field{}
		for range r.Intn(41) {
			l = append(l, field(name(), strconv.Itoa(r.Intn(100))))
		}
		for range 60 {
			f := field(name(), strconv.Itoa(r.Intn(100)))
			want, fits := setByHand(l, f)
			set, ok := impl.SetField(l, f)
			if ok != fits || ok && !slices.Equal(set, want) || !ok && len(set) != 0 {
				t.Fatalf("SetField(%q, %q) = %q, %v, not %q", l, f, set, ok, want)
			}
			if !ok {
				continue
			}
			if v, ok := impl.ValuesOf(set, f.Name); !ok || !slices.Equal(v, []string{f.Value}) {
				t.Fatalf("what is set is not told: %q, %q, %v", f, v, ok)
			}
			if j, ok := impl.JoinedOf(set, f.Name); !ok || j != f.Value {
				t.Fatalf("what is set is not told: %q, %q, %v", f, j, ok)
			}
			for _, old := range l {
				if smallOf(old.Name) == smallOf(f.Name) {
					continue
				}
				before, _ := impl.ValuesOf(l, old.Name)
				after, ok := impl.ValuesOf(set, old.Name)
				if !ok || !slices.Equal(before, after) || len(after) == 0 {
					t.Fatalf("%q of %q does not stay: %q", old, l, after)
				}
			}
			l = set
		}
	}
}

func TestQuotes(t *testing.T) {
	for s, want := range map[string]string{
		"": `""`, "a": `"a"`, " ": `" "`, "a b": `"a b"`, " a ": `" a "`, ",": `","`, "a, b": `"a, b"`, `"`: `"\""`, `\`: `"\\"`, `""`: `"\"\""`, `\"`: `"\\\""`, `a"b`: `"a\"b"`, `a\`: `"a\\"`, `\a`: `"\\a"`, "~!": `"~!"`, `"a"`: `"\"a\""`,
		strings.Repeat("x", 100): `"` + strings.Repeat("x", 100) + `"`,
		strings.Repeat(`"`, 100): `"` + strings.Repeat(`\"`, 100) + `"`,
		strings.Repeat(`\`, 100): `"` + strings.Repeat(`\\`, 100) + `"`,
		strings.Repeat(` `, 100): `"` + strings.Repeat(` `, 100) + `"`,
	} {
		if q, ok := impl.QuoteOf(s); !ok || q != want {
			t.Errorf("QuoteOf(%q) = %q, %v, not %q", s, q, ok, want)
		}
		if u, ok := impl.UnquoteOf(want); !ok || u != s {
			t.Errorf("UnquoteOf(%q) = %q, %v, not %q", want, u, ok, s)
		}
	}
	for _, s := range []string{"\x00", "\x1f", "\x7f", "\x80", "\xff", "a\tb", "a\n", "ä", strings.Repeat("x", 101), strings.Repeat("\"", 101), strings.Repeat("x", 100000), strings.Repeat("x", 99) + "\x1f"} {
		if q, ok := impl.QuoteOf(s); ok || q != "" {
			t.Errorf("QuoteOf(%q) = %q, %v", s, q, ok)
		}
	}
}

func TestUnquoteOf(t *testing.T) {
	for s, want := range map[string]string{
		`"\a"`: "a", `"\a\b\ \,"`: "ab ,", `"\n"`: "n", `"\\n"`: `\n`, `"\\\a"`: `\a`, `"a\"\\b"`: `a"\b`, `"\\"`: `\`, `"\""`: `"`, `"\\\\"`: `\\`, `"\\\""`: `\"`, `"\ "`: " ", `"\~"`: "~",
		`"` + strings.Repeat(`\x`, 100) + `"`: strings.Repeat("x", 100),
	} {
		if u, ok := impl.UnquoteOf(s); !ok || u != want {
			t.Errorf("UnquoteOf(%q) = %q, %v, not %q", s, u, ok, want)
		}
	}
	for _, s := range []string{
		"", "a", `"`, `\`, `"a`, `a"`, `a""`, `""a`, `"""`, `"a"b"`, `"a""`, `""a"`, `"a" "b"`, `"a" `, ` "a"`, `'a'`, "``",
		`"\"`, `\"`, `"a\"`, `"\\\"`, `"a\\\"`, `"\\"\"`, `\""`, `\"a"`, `"a\\"b"`,
		"\"\x1f\"", "\"\x7f\"", "\"\x00\"", "\"\xff\"", "\"\\\x1f\"", "\"\\\x7f\"", "\"a\tb\"", "\"ä\"", "\"a\"\n", "\"a\n\"",
		`"` + strings.Repeat("x", 101) + `"`, `"` + strings.Repeat(`\x`, 101) + `"`, `"` + strings.Repeat(`\\`, 101) + `"`, `"` + strings.Repeat("x", 100000) + `"`, `"` + strings.Repeat("x", 100), strings.Repeat(`"`, 100000), strings.Repeat(`\`, 100000),
	} {
		if u, ok := impl.UnquoteOf(s); ok || u != "" {
			t.Errorf("UnquoteOf(%q) = %q, %v", s, u, ok)
		}
	}
}

var quotedForm = regexp.MustCompile(`^"([ !#-\[\]-~]|\\[ -~])*"$`)
var takenByte = regexp.MustCompile(`\\(.)`)

// unquotedByForm reads what is within quotes by the form of it.
func unquotedByForm(s string) (string, bool) {
	if !quotedForm.MatchString(s) {
		return "", false
	}
	text := takenByte.ReplaceAllString(s[1:len(s)-1], "$1")
	if len(text) > 100 {
		return "", false
	}
	return text, true
}

var partForm = regexp.MustCompile(`^([^",]|"([^"\\]|\\.)*")*`)

// listByForm takes a part of a list after another by the form of it.
func listByForm(s string) ([]string, bool) {
	if len(s) > 300 || !isPlainText(s) {
		return nil, false
	}
	return partsByForm(s)
}

// partsByForm takes a list of any length.
func partsByForm(s string) ([]string, bool) {
	l := []string{}
	for rest := s; ; {
		part := partForm.FindString(rest)
		if trimmed := strings.Trim(part, " "); trimmed != "" {
			l = append(l, trimmed)
		}
		if part == rest {
			return l, true
		}
		if rest[len(part)] != ',' {
			return nil, false
		}
		rest = rest[len(part)+1:]
	}
}

func checkQuoteAndList(t *testing.T, s string) {
	t.Helper()
	text, good := unquotedByForm(s)
	if u, ok := impl.UnquoteOf(s); ok != good || u != text {
		t.Fatalf("UnquoteOf(%q) = %q, %v, not %q, %v", s, u, ok, text, good)
	}
	want, good := listByForm(s)
	if l, ok := impl.ListOf(s); ok != good || !slices.Equal(l, want) {
		t.Fatalf("ListOf(%q) = %q, %v, not %q, %v", s, l, ok, want, good)
	}
}

func TestAllShortTextsWithQuotes(t *testing.T) {
	texts := []string{""}
	for range 7 {
		longer := []string{}
		for _, s := range texts {
			checkQuoteAndList(t, s)
			for _, b := range []string{`"`, `\`, `,`, ` `, `a`} {
				longer = append(longer, s+b)
			}
		}
		texts = longer
	}
	for _, s := range texts {
		checkQuoteAndList(t, s)
		checkQuoteAndList(t, `"`+s+`"`)
	}
}

func TestTextsComeBackFromWithinQuotes(t *testing.T) {
	r := rand.New(rand.NewSource(32))
	bits := []string{`"`, `\`, `,`, ` `, `a`, `;`, `~`, `, `, `\"`, "xyz"}
	for range 20000 {
		s := randomOf(r, bits, 70)
		q, ok := impl.QuoteOf(s)
		if ok != (len(s) <= 100) {
			t.Fatalf("QuoteOf(%q) = %q, %v", s, q, ok)
		}
		if !ok {
			continue
		}
		if u, ok := impl.UnquoteOf(q); !ok || u != s {
			t.Fatalf("UnquoteOf(%q) = %q, %v, not %q", q, u, ok, s)
		}
		// A list takes it as one part, whatever stands within.
		if l, ok := impl.ListOf("a, " + q + " ,b"); !ok || !slices.Equal(l, []string{"a", q, "b"}) {
			t.Fatalf("ListOf with %q: %q, %v", q, l, ok)
		}
	}
}

func TestListOf(t *testing.T) {
	for s, want := range map[string][]string{
		"": {}, " ": {}, ",": {}, " , ,, ": {}, "a": {"a"}, " a ": {"a"}, "a,b": {"a", "b"}, "a, b": {"a", "b"}, "a ,b": {"a", "b"}, "  a  ,  b  ": {"a", "b"}, ",a,": {"a"}, "a,,b": {"a", "b"}, "a, ,b": {"a", "b"},
		"a b": {"a b"}, " a  b , c ": {"a  b", "c"}, "a;q=1, b;x": {"a;q=1", "b;x"}, "a,a": {"a", "a"},
		`""`: {`""`}, `"a,b"`: {`"a,b"`}, `"a,b",c`: {`"a,b"`, "c"}, `a"b,c"d,e`: {`a"b,c"d`, "e"}, `" a "`: {`" a "`}, ` " , " `: {`" , "`}, `"", ""`: {`""`, `""`}, `"a""b,c",d`: {`"a""b,c"`, "d"}, `"a" "b", c`: {`"a" "b"`, "c"},
		`"\"",a`: {`"\""`, "a"}, `"\\",a`: {`"\\"`, "a"}, `"\",a"`: {`"\",a"`}, `"\\\",",a`: {`"\\\","`, "a"}, `"a\,b",c`: {`"a\,b"`, "c"}, `"\a,",c`: {`"\a,"`, "c"},
		// A `\` that does not stand within quotes takes nothing with it.
		`\,a`: {`\`, "a"}, `a\,b`: {`a\`, "b"}, `\"a,b"`: {`\"a,b"`}, `\"a",b`: {`\"a"`, "b"}, `\\"a,b"`: {`\\"a,b"`}, `""\,a`: {`""\`, "a"},
		strings.Repeat("a", 300): {strings.Repeat("a", 300)}, strings.Repeat(",", 299) + "a": {"a"}, strings.Repeat(" ", 300): {}, strings.Repeat("a,", 150): slices.Repeat([]string{"a"}, 150),
	} {
		if l, ok := impl.ListOf(s); !ok || !slices.Equal(l, want) {
			t.Errorf("ListOf(%q) = %q, %v, not %q", s, l, ok, want)
		}
	}
	for _, s := range []string{
		`"`, `"a`, `a"`, `a,"`, `",`, `",a`, `"a,b`, `a,"b,c`, `"""`, `"a"b"`, `"\"`, `"\",a`, `"\\\"`, `\"`, `a\"`, `"a","b`, `"a"",b`,
		"\x00", "\x1f", "a\x1f", "\x7f", "a,\x7f,b", "\x80", "a\xff", "a\tb", "a,\nb", "ä", "\"\x00\"", "\"\t\"",
		strings.Repeat("a", 301), strings.Repeat(",", 301), strings.Repeat(" ", 301), strings.Repeat("a,", 100000), strings.Repeat(`"`, 299), "a" + strings.Repeat(" ", 300),
	} {
		if l, ok := impl.ListOf(s); ok || len(l) != 0 {
			t.Errorf("ListOf(%q) = %q, %v", s, l, ok)
		}
	}
}

func TestChoicesOf(t *testing.T) {
	type choices = []impl.Choice
	for s, want := range map[string]choices{
		"": {}, " , ,": {}, "a": {{Name: "a", Weight: 1000}}, "*": {{Name: "*", Weight: 1000}}, "*;q=0": {{Name: "*"}}, "GZip": {{Name: "gzip", Weight: 1000}}, "AZaz09!#$%&'*+-.^_|~`": {{Name: "azaz09!#$%&'*+-.^_|~`", Weight: 1000}},
		"a,b": {{Name: "a", Weight: 1000}, {Name: "b", Weight: 1000}}, " a , b;q=0.5 ,,": {{Name: "a", Weight: 1000}, {Name: "b", Weight: 500}},
		"a;q=0.1,A;q=0.2": {{Name: "a", Weight: 100}, {Name: "a", Weight: 200}}, "a;q=0, *;q=1, a, *;q=0.3": {{Name: "a"}, {Name: "*", Weight: 1000}, {Name: "a", Weight: 1000}, {Name: "*", Weight: 300}},
		"a;q=0": {{Name: "a"}}, "a;q=1": {{Name: "a", Weight: 1000}}, "a;q=0.0": {{Name: "a"}}, "a;q=0.000": {{Name: "a"}}, "a;q=1.0": {{Name: "a", Weight: 1000}}, "a;q=1.00": {{Name: "a", Weight: 1000}}, "a;q=1.000": {{Name: "a", Weight: 1000}},
		"a;q=0.5": {{Name: "a", Weight: 500}}, "a;q=0.05": {{Name: "a", Weight: 50}}, "a;q=0.005": {{Name: "a", Weight: 5}}, "a;q=0.50": {{Name: "a", Weight: 500}}, "a;q=0.999": {{Name: "a", Weight: 999}}, "a;q=0.001": {{Name: "a", Weight: 1}}, "a;q=0.12": {{Name: "a", Weight: 120}},
		"a ;q=0.5": {{Name: "a", Weight: 500}}, "a; q=0.5": {{Name: "a", Weight: 500}}, "a   ;   q=0.5": {{Name: "a", Weight: 500}}, " a ; q=0.5 ": {{Name: "a", Weight: 500}},
		"q;q=0.5": {{Name: "q", Weight: 500}}, strings.Repeat("A", 60): {{Name: strings.Repeat("a", 60), Weight: 1000}}, strings.Repeat("A", 60) + ";q=0": {{Name: strings.Repeat("a", 60)}},
		"a" + strings.Repeat(" ", 150) + ";" + strings.Repeat(" ", 143) + "q=0.1": {{Name: "a", Weight: 100}},
	} {
		if c, ok := impl.ChoicesOf(s); !ok || !slices.Equal(c, want) {
			t.Errorf("ChoicesOf(%q) = %v, %v, not %v", s, c, ok, want)
		}
	}
}

func TestChoicesOfRefuses(t *testing.T) {
	weights := []string{
		"", "q", "q=", "q= ", "=1", "1", "Q=1", "Q=0.5", "q=1.", "q=0.", "q=.", "q=.5", "q=1.001", "q=1.010", "q=1.1", "q=1.5", "q=0.1234", "q=0.0000", "q=1.0000", "q=2", "q=10", "q=01", "q=00", "q=00.5", "q=01.0", "q=2.0", "q=-1", "q=-0.5", "q=+1", "q=+0.5", "q=0.-1", "q=0.+1", "q=0. 5", "q=0 .5", "q=0.5.", "q=0.5.5", "q=0..5", "q=0.5x", "q=0.x", "q=x", "q=0x1", "q=1e0", "q=0.1e", "q=1.0x", "q=1.00 0", "q=\"1\"", "q=\"0.5\"", "q=0;5", "q=0:5", "q=1:000",
		"q =1", "q= 1", "q = 1", "q=1;", "q=1; ", "q=1;q=1", ";q=1", " ; q=1", "q=1;x", "x;q=1", "x", "x=1", "level=1;q=0.5", "qq=1", "aq=1", "q==1", "q=1 x", "q=1 1", "*q=1", "\"q=1\"",
	}
	texts := []string{";", ";q=1", " ;q=1", "a b", "a b;q=1", "a/b", "text/html;q=0.5", "*/*", "a=1", "\"a\"", "\"a\";q=1", "\"a,b\"", "a\"b\"", "\"", "a;q=1,\"", "(a)", "a\\", "a@", "a\x1f", "a\x7f", "\xff", "a:1", "a.b/c", strings.Repeat("a", 61), strings.Repeat("a", 61) + ";q=1", strings.Repeat("a", 301)}
	for _, w := range weights {
		texts = append(texts, "a;"+w, "*;"+w, "a ; "+w)
	}
	for _, s := range texts {
		for _, whole := range []string{s, "b," + s, s + ",b", "b, b;q=0.1," + s + " , *"} {
			if c, ok := impl.ChoicesOf(whole); ok || len(c) != 0 {
				t.Errorf("ChoicesOf(%q) = %v, %v", whole, c, ok)
			}
			if b, ok := impl.BestChoice(whole, []string{"b", "a"}); ok || b != "" {
				t.Errorf("BestChoice(%q) = %q, %v", whole, b, ok)
			}
		}
	}
}

func TestEachWeight(t *testing.T) {
	for n := range 2000 {
		digits := fmt.Sprintf("%04d", n)
		told := digits[:1] + "." + digits[1:]
		for _, s := range []string{told, strings.TrimRight(told, "0")} {
			c, ok := impl.ChoicesOf("a;q=" + s)
			if good := n <= 1000 && !strings.HasSuffix(s, "."); ok != good || ok && !slices.Equal(c, []impl.Choice{{Name: "a", Weight: n}}) {
				t.Errorf("ChoicesOf with %q: %v, %v", s, c, ok)
			}
		}
	}
}

func TestTwentyChoicesAndOneMore(t *testing.T) {
	many := func(n int) string {
		s := ""
		for i := range n {
			s += "c" + strconv.Itoa(i) + ";q=0." + strconv.Itoa(i+1) + ","
		}
		return s
	}
	c, ok := impl.ChoicesOf(many(20))
	if !ok || len(c) != 20 || c[0] != (impl.Choice{Name: "c0", Weight: 100}) || c[19] != (impl.Choice{Name: "c19", Weight: 200}) {
		t.Error("20 choices", c, ok)
	}
	if b, ok := impl.BestChoice(many(20), []string{"c19", "c18"}); !ok || b != "c19" {
		t.Error("best of 20 choices", b, ok)
	}
	// Parts that are empty are no choices.
	if c, ok := impl.ChoicesOf(strings.Repeat("a, ,,", 20)); !ok || len(c) != 20 {
		t.Error("20 choices and empty parts", c, ok)
	}
	for _, s := range []string{many(21), strings.Repeat("a,", 21), strings.Repeat("a,", 150)} {
		if c, ok := impl.ChoicesOf(s); ok || len(c) != 0 {
			t.Errorf("ChoicesOf(%q) = %v, %v", s, c, ok)
		}
		if b, ok := impl.BestChoice(s, []string{"a", "c1"}); ok || b != "" {
			t.Errorf("BestChoice(%q) = %q, %v", s, b, ok)
		}
	}
	met := strings.Repeat("a", 60) + "," + strings.Repeat(" ", 238) + "b"
	if c, ok := impl.ChoicesOf(met); len(met) != 300 || !ok || len(c) != 2 {
		t.Error("a text of 300 bytes", c, ok)
	}
	if c, ok := impl.ChoicesOf(met + " "); ok || len(c) != 0 {
		t.Error("a text of 301 bytes", c, ok)
	}
}

func TestBestChoice(t *testing.T) {
	for _, c := range []struct {
		s       string
		offered []string
		want    string
	}{
		{"gzip", []string{"gzip"}, "gzip"},
		{"gzip", []string{"br", "gzip"}, "gzip"},
		{"gzip", []string{"br"}, ""},
		{"gzip", nil, ""},
		{"", []string{"gzip"}, ""},
		{"", nil, ""},
		{"*", nil, ""},
		{"*", []string{"b", "a"}, "b"},
		{"*;q=0", []string{"b", "a"}, ""},
		{"*;q=0.001", []string{"b", "a"}, "b"},
		{"a;q=0, b;q=0, *;q=0", []string{"a", "b", "c"}, ""},
		{"a;q=0.5, b;q=0.6", []string{"a", "b"}, "b"},
		{"a;q=0.6, b;q=0.5", []string{"b", "a"}, "a"},
		{"a;q=0.5, b;q=0.5", []string{"b", "a"}, "b"},
		{"a;q=0.5, b;q=0.5", []string{"a", "b"}, "a"},
		{"a, b, c;q=0.999", []string{"c", "b", "a"}, "b"},
		// With `*` ahead of the name and behind it.
		{"*;q=0.5, a;q=0.1", []string{"a"}, "a"},
		{"*;q=0.5, a;q=0.1", []string{"a", "x"}, "x"},
		{"a;q=0.1, *;q=0.5", []string{"a", "x"}, "x"},
		{"a;q=0.9, *;q=0.5", []string{"x", "a"}, "a"},
		{"*;q=0.5, a;q=0.9", []string{"x", "a"}, "a"},
		{"*, a;q=0", []string{"a"}, ""},
		{"a;q=0, *", []string{"a"}, ""},
		{"a;q=0, *", []string{"a", "b"}, "b"},
		{"*;q=0.5", []string{"x", "y", "z"}, "x"},
		// Told twice.
		{"a;q=0.1, a;q=0.9, b;q=0.5", []string{"a", "b"}, "b"},
		{"a;q=0.9, a;q=0.1, b;q=0.5", []string{"b", "a"}, "a"},
		{"a;q=0, A", []string{"a"}, ""},
		{"A, a;q=0", []string{"a"}, "a"},
		{"*;q=0, *;q=1", []string{"a"}, ""},
		{"*;q=0.2, *;q=1, b;q=0.5", []string{"a", "b"}, "b"},
		{"*, *;q=0, b;q=0.5", []string{"b", "a"}, "a"},
		// Small and great letters: what is offered is told as it stands there.
		{"GZIP;q=0.5", []string{"gzip"}, "gzip"},
		{"gzip;q=0.5", []string{"GZip"}, "GZip"},
		{"gzip;q=0.5, br", []string{"GZIP", "BR"}, "BR"},
		{"a", []string{"A", "a"}, "A"},
		{"a", []string{"a", "A"}, "a"},
		// `*` may be offered itself.
		{"*;q=0.5, a;q=0.1", []string{"a", "*"}, "*"},
		{"a", []string{"*"}, ""},
		{"a", []string{"x", "a", "a"}, "a"},
		{"aa, a-b", []string{"a", "aaa", "a-"}, ""},
		{"a ; q=0.2 , b ; q=0.3", []string{"a", "b"}, "b"},
		{"gzip;q=0.5, *;q=0.1, br;q=0", []string{"br", "x", "gzip"}, "gzip"},
		{"gzip;q=0.5, *;q=0.1, br;q=0", []string{"br", "x"}, "x"},
	} {
		if b, ok := impl.BestChoice(c.s, c.offered); b != c.want || ok != (c.want != "") {
			t.Errorf("BestChoice(%q, %q) = %q, %v, not %q", c.s, c.offered, b, ok, c.want)
		}
	}
}

func TestBestChoiceRefuses(t *testing.T) {
	for _, bad := range badTokens() {
		for _, offered := range [][]string{{bad}, {"a", bad}, {bad, "a"}, {"a", bad, "a"}} {
			for _, s := range []string{"*", "a", "a, *;q=0.1", ""} {
				if b, ok := impl.BestChoice(s, offered); ok || b != "" {
					t.Errorf("BestChoice(%q, %q) = %q, %v", s, offered, b, ok)
				}
			}
		}
	}
	long := strings.Repeat("A", 60)
	if b, ok := impl.BestChoice(smallOf(long), []string{"b", long}); !ok || b != long {
		t.Error("a token of 60 bytes", b, ok)
	}
	tokens := slices.Repeat([]string{"b"}, 19)
	if b, ok := impl.BestChoice("a;q=0.1", append(tokens, "a")); !ok || b != "a" {
		t.Error("20 offered tokens", b, ok)
	}
	for _, s := range []string{"a;q=0.1", "*", "b"} {
		if b, ok := impl.BestChoice(s, append(tokens, "a", "b")); ok || b != "" {
			t.Error("21 offered tokens", b, ok)
		}
	}
}

// bestByHand looks at all choices for each that is offered.
func bestByHand(l []impl.Choice, offered []string) string {
	weightOf := func(name string) int {
		for _, want := range []string{smallOf(name), "*"} {
			if i := slices.IndexFunc(l, func(c impl.Choice) bool { return c.Name == want }); i >= 0 {
				return l[i].Weight
			}
		}
		return 0
	}
	weights := []int{}
	for _, name := range offered {
		weights = append(weights, weightOf(name))
	}
	if len(weights) == 0 || slices.Max(weights) == 0 {
		return ""
	}
	return offered[slices.Index(weights, slices.Max(weights))]
}

func TestTheBestChoiceIsOneThatIsOffered(t *testing.T) {
	r := rand.New(rand.NewSource(33))
	names := []string{"a", "A", "b", "B", "c", "d", "*"}
	weights := []string{"", "", ";q=0", ";q=1", " ; q=0.5", ";q=0.25", ";q=0.250", "; q=0.001", ";q=1.00", ";q=0.5"}
	blanks := []string{"", " ", "  ", " , "}
	for range 50000 {
		want, parts := []impl.Choice{}, []string{}
		for range r.Intn(7) {
			name, weight := names[r.Intn(len(names))], weights[r.Intn(len(weights))]
			parts = append(parts, blanks[r.Intn(4)]+name+weight+blanks[r.Intn(4)])
			c := impl.Choice{Name: smallOf(name), Weight: 1000}
			if _, told, ok := strings.Cut(weight, "q="); ok {
				w, err := strconv.ParseFloat(told, 64)
				if err != nil {
					t.Fatal(err)
				}
				c.Weight = int(w*1000 + 0.5)
			}
			want = append(want, c)
		}
		s := strings.Join(parts, ",")
		if c, ok := impl.ChoicesOf(s); !ok || !slices.Equal(c, want) {
			t.Fatalf("ChoicesOf(%q) = %v, %v, not %v", s, c, ok, want)
		}
		offered := []string{}
		for range r.Intn(5) {
			offered = append(offered, names[r.Intn(len(names))])
		}
		b, ok := impl.BestChoice(s, offered)
		if best := bestByHand(want, offered); b != best || ok != (best != "") {
			t.Fatalf("BestChoice(%q, %q) = %q, %v, not %q", s, offered, b, ok, best)
		}
		if ok && !slices.Contains(offered, b) {
			t.Fatalf("BestChoice(%q, %q) = %q is not offered", s, offered, b)
		}
	}
}

var choiceForm = regexp.MustCompile("^([-A-Za-z0-9!#$%&'*+.^_|~`]{1,60})( *; *q=(0|1|0\\.[0-9]{1,3}|1\\.0{1,3}))?$")

func TestNearlyChoicesByTheirForm(t *testing.T) {
	r := rand.New(rand.NewSource(34))
	bits := []string{"a", "*", ";", ";q=", " ", "q", "=", "0", "1", ".", "5", "0.5", ",", "\"", "Q=", "\\", "/", "1.0", "\x1f", "a;q="}
	good := 0
	for range 200000 {
		s := randomOf(r, bits, 6)
		parts, is := listByForm(s)
		for _, part := range parts {
			is = is && choiceForm.MatchString(part)
		}
		c, ok := impl.ChoicesOf(s)
		if ok != is || ok && len(c) != len(parts) || !ok && len(c) != 0 {
			t.Fatalf("ChoicesOf(%q) = %v, %v", s, c, ok)
		}
		if ok && len(c) > 0 {
			good++
		}
	}
	if good < 1000 {
		t.Error("too few of them are choices:", good)
	}
}

func TestFieldFunctionsWriteIntoNothing(t *testing.T) {
	behind := field("behind", "x")
	for _, l := range [][]impl.Field{nil, {}, {field("A", "1"), field("b", "2"), field("a", "3")}, manyFields(39), manyFields(40), manyFields(41), {field("a", "1"), {}, field("a", "2")}} {
		for _, f := range []impl.Field{field("a", "new"), field("b", ""), field("n3", "x"), field("new", "x"), {}} {
			given := withSpare(l, behind)
			before := slices.Clone(given[:cap(given)])
			values, _ := impl.ValuesOf(given, f.Name)
			impl.JoinedOf(given, f.Name)
			impl.GoodField(f)
			set, _ := impl.SetField(given, f)
			told, again := slices.Clone(values), slices.Clone(set)
			if !slices.Equal(given[:cap(given)], before) {
				t.Fatalf("%q is written into", l)
			}
			// What is answered shares nothing with what was given, nor with what
			// is answered next, also behind its length.
			values2, _ := impl.ValuesOf(given, f.Name)
			set2, _ := impl.SetField(given, f)
			for _, answer := range [][]impl.Field{set, set2} {
				fill(answer, behind)
			}
			fill(values, "overwritten")
			fill(values2, "overwritten")
			if !slices.Equal(given[:cap(given)], before) {
				t.Fatalf("an answer shares memory with %q", l)
			}
			values3, _ := impl.ValuesOf(given, f.Name)
			set3, _ := impl.SetField(given, f)
			if !slices.Equal(values3, told) || !slices.Equal(set3, again) {
				t.Fatalf("answers share memory: %q", l)
			}
		}
	}
}

// fill writes into all memory of a list, also behind its length.
func fill[T any](l []T, with T) {
	whole := l[:cap(l)]
	for i := range whole {
		whole[i] = with
	}
}

func TestListsAnsweredShareNothing(t *testing.T) {
	s := `a, "b,c" ;q=1, d`
	list, ok := impl.ListOf(s)
	fill(list, "overwritten")
	again, ok2 := impl.ListOf(s)
	if !ok || !ok2 || !slices.Equal(again, []string{"a", `"b,c" ;q=1`, "d"}) {
		t.Error(list, again)
	}
	choices, ok := impl.ChoicesOf("a, b;q=0.5")
	fill(choices, impl.Choice{Name: "overwritten"})
	more, ok2 := impl.ChoicesOf("a, b;q=0.5")
	if !ok || !ok2 || !slices.Equal(more, []impl.Choice{{Name: "a", Weight: 1000}, {Name: "b", Weight: 500}}) {
		t.Error(choices, more)
	}
	for _, l := range [][]string{nil, {"B", "a", "A"}, {"a", ""}, slices.Repeat([]string{"a"}, 21)} {
		offered := withSpare(l, "spare")
		before := slices.Clone(offered[:cap(offered)])
		impl.BestChoice("a;q=0.5, *;q=0.1", offered)
		if !slices.Equal(offered[:cap(offered)], before) {
			t.Errorf("%q is written into", l)
		}
	}
	// What lies behind the length is not offered.
	if b, ok := impl.BestChoice("spare, a;q=0.1", withSpare([]string{"a"}, "spare")); !ok || b != "a" {
		t.Error(b, ok)
	}
	if v, ok := impl.ValuesOf(withSpare([]impl.Field{field("a", "1")}, field("a", "2")), "a"); !ok || !slices.Equal(v, []string{"1"}) {
		t.Error(v, ok)
	}
}

// Any bytes, at each function: no panic, and zero beside a false.
func TestFieldFunctionsAnswerAtAnything(t *testing.T) {
	r := rand.New(rand.NewSource(35))
	text := func() string {
		b := make([]byte, max(r.Intn(8)-4, 0))
		for i := range b {
			b[i] = byte(r.Intn(256))
		}
		return randomOf(r, []string{"a", "B", "*", `"`, `\`, ",", " ", ";", "q=", "0.5", "1"}, 6) + string(b)
	}
	for range 50000 {
		l, allGood := []impl.Field{}, true
		for range r.Intn(4) {
			f := field(text(), text())
			if r.Intn(4) > 0 {
				f = field([]string{"a", "A", "b"}[r.Intn(3)], strings.Trim(f.Value, " "))
			}
			l = append(l, f)
			is := isTokenText(f.Name) && isPlainText(f.Value) && strings.Trim(f.Value, " ") == f.Value
			if impl.GoodField(f) != is {
				t.Fatalf("GoodField(%q) is not %v", f, is)
			}
			allGood = allGood && is
		}
		name := text()
		v, ok := impl.ValuesOf(l, name)
		if ok != (allGood && isTokenText(name)) || !ok && len(v) != 0 {
			t.Fatalf("ValuesOf(%q, %q) = %q, %v", l, name, v, ok)
		}
		if j, joined := impl.JoinedOf(l, name); joined != (ok && len(v) > 0) || j != strings.Join(v, ", ") {
			t.Fatalf("JoinedOf(%q, %q) = %q, %v", l, name, j, joined)
		}
		f := field(text(), text())
		if set, ok := impl.SetField(l, f); ok != (allGood && impl.GoodField(f)) || !ok && len(set) != 0 {
			t.Fatalf("SetField(%q, %q) = %q, %v", l, f, set, ok)
		}
		s := text()
		checkQuoteAndList(t, s)
		if q, ok := impl.QuoteOf(s); ok != isPlainText(s) || !ok && q != "" {
			t.Fatalf("QuoteOf(%q) = %q, %v", s, q, ok)
		}
		c, ok := impl.ChoicesOf(s)
		if !ok && len(c) != 0 {
			t.Fatalf("ChoicesOf(%q) = %v, %v", s, c, ok)
		}
		offered := []string{text(), "a"}
		b, best := impl.BestChoice(s, offered)
		if best && (!ok || !isTokenText(offered[0])) || !best && b != "" || best && !slices.Contains(offered, b) {
			t.Fatalf("BestChoice(%q, %q) = %q, %v", s, offered, b, best)
		}
	}
}
