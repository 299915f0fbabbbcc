package impl

import (
	"strconv"
	"strings"
)

const MaxUrl = 200

const maxHost = 60
const maxPort = 65535
const maxPortDigits = 5
const maxToEncode = 60

const bigHexDigits = "0123456789ABCDEF"

// What a byte may be; one byte may be several of these.
const (
	hostByte       = 1
	unreservedByte = 2
	pcharByte      = 4
	hexByte        = 8
	digitByte      = 16
)

// A row for each sixteen bytes; bytes from 128 on are nothing, so they have
// no place here. A `%` is a pchar only with what is behind it: it is 0.
var byteKinds = [128]uint8{
	0, 0, 0, 0, 0, 0, 0, 0, 0, 0, 0, 0, 0, 0, 0, 0,
	0, 0, 0, 0, 0, 0, 0, 0, 0, 0, 0, 0, 0, 0, 0, 0,
	0, 4, 0, 0, 4, 0, 4, 4, 4, 4, 4, 4, 4, 7, 7, 0, // blank ! " # $ % & ' ( ) * + , - . /
	31, 31, 31, 31, 31, 31, 31, 31, 31, 31, 4, 4, 0, 4, 0, 0, // 0 to 9 : ; < = > ?
	4, 15, 15, 15, 15, 15, 15, 7, 7, 7, 7, 7, 7, 7, 7, 7, // @ A to O
	7, 7, 7, 7, 7, 7, 7, 7, 7, 7, 7, 0, 0, 0, 0, 6, // P to Z [ \ ] ^ _
	0, 15, 15, 15, 15, 15, 15, 7, 7, 7, 7, 7, 7, 7, 7, 7, // byte 96, a to o
	7, 7, 7, 7, 7, 7, 7, 7, 7, 7, 7, 0, 0, 0, 6, 0, // p to z { | } ~ byte 127
}

type Url struct {
	Scheme string
	Host   string
	Port   int
	Path   string
	Query  string
	Asks   bool
}

func GoodUrl(u Url) bool {
	if u.Scheme != "http" && u.Scheme != "https" {
		return false
	}
	if !isHost(u.Host) || u.Port < 0 || u.Port > maxPort {
		return false
	}
	if !strings.HasPrefix(u.Path, "/") || !isPchars(u.Path, "/") {
		return false
	}
	if !isPchars(u.Query, "/?") || u.Query != "" && !u.Asks {
		return false
	}
	return len(joinUrl(u)) <= MaxUrl
}

func UrlText(u Url) (string, bool) {
	if !GoodUrl(u) {
		return "", false
	}
	return joinUrl(u), true
}

func ReadUrl(s string) (Url, bool) {
	if len(s) > MaxUrl {
		return Url{}, false
	}
	u, ok := splitUrl(s)
	if !ok || !GoodUrl(u) {
		return Url{}, false
	}
	return u, true
}

func NormalUrl(u Url) (Url, bool) {
	if !GoodUrl(u) {
		return Url{}, false
	}
	u.Host = smallLetters(u.Host)
	if u.Port == usualPort(u.Scheme) {
		u.Port = 0
	}
	// Percents come ahead of dots: a dot may be told by a percent.
	u.Path = dropDots(normalPercents(u.Path))
	u.Query = normalPercents(u.Query)
	return u, true
}

func DropDots(path string) (string, bool) {
	if len(path) > MaxUrl || !strings.HasPrefix(path, "/") {
		return "", false
	}
	return dropDots(path), true
}

func ResolveUrl(base Url, ref string) (Url, bool) {
	if !GoodUrl(base) {
		return Url{}, false
	}
	if ref == "" {
		return base, true
	}
	u, ok := referredUrl(base, ref)
	if !ok {
		return Url{}, false
	}
	u.Path = dropDots(u.Path)
	if !GoodUrl(u) {
		return Url{}, false
	}
	return u, true
}

func PercentEncode(s string) (string, bool) {
	if len(s) > maxToEncode {
		return "", false
	}
	told := []byte{}
	for i := 0; i < len(s); i++ {
		if isKind(s[i], unreservedByte) {
			told = append(told, s[i])
		} else {
			told = appendPercent(told, s[i])
		}
	}
	return string(told), true
}

func PercentDecode(s string) (string, bool) {
	if len(s) > MaxUrl {
		return "", false
	}
	plain := []byte{}
	for i := 0; i < len(s); i++ {
		if s[i] != '%' {
			plain = append(plain, s[i])
			continue
		}
		if !isPercentAt(s, i) {
			return "", false
		}
		plain = append(plain, byteOfPercent(s, i))
		i += 2
	}
	return string(plain), true
}

func SameUrl(a Url, b Url) (bool, bool) {
	normalA, okA := NormalUrl(a)
	normalB, okB := NormalUrl(b)
	if !okA || !okB {
		return false, false
	}
	return normalA == normalB, true
}

func isKind(b byte, kind uint8) bool {
	return b < 128 && byteKinds[b]&kind != 0
}

func isHost(s string) bool {
	if len(s) < 1 || len(s) > maxHost {
		return false
	}
	for i := 0; i < len(s); i++ {
		if !isKind(s[i], hostByte) {
			return false
		}
	}
	return true
}

// isPchars asks whether a text has only pchars and the bytes that are also
// let through.
func isPchars(s string, also string) bool {
	for i := 0; i < len(s); i++ {
		if isPercentAt(s, i) {
			i += 2
			continue
		}
		if !isKind(s[i], pcharByte) && strings.IndexByte(also, s[i]) < 0 {
			return false
		}
	}
	return true
}

func isPercentAt(s string, at int) bool {
	return s[at] == '%' && at+2 < len(s) && isKind(s[at+1], hexByte) && isKind(s[at+2], hexByte)
}

func byteOfPercent(s string, at int) byte {
	return hexValue(s[at+1])<<4 | hexValue(s[at+2])
}

func hexValue(digit byte) byte {
	switch {
	case digit <= '9':
		return digit - '0'
	case digit <= 'F':
		return digit - 'A' + 10
	}
	return digit - 'a' + 10
}

func appendPercent(told []byte, b byte) []byte {
	return append(told, '%', bigHexDigits[b>>4], bigHexDigits[b&15])
}

// normalPercents reads each percent once only: what a percent tells is not
// read as the beginning of another one.
func normalPercents(s string) string {
	told := []byte{}
	for i := 0; i < len(s); i++ {
		if !isPercentAt(s, i) {
			told = append(told, s[i])
			continue
		}
		b := byteOfPercent(s, i)
		if isKind(b, unreservedByte) {
			told = append(told, b)
		} else {
			told = appendPercent(told, b)
		}
		i += 2
	}
	return string(told)
}

func smallLetters(s string) string {
	small := []byte(s)
	for i, b := range small {
		if b >= 'A' && b <= 'Z' {
			small[i] = b - 'A' + 'a'
		}
	}
	return string(small)
}

func usualPort(scheme string) int {
	if scheme == "https" {
		return 443
	}
	return 80
}

// joinUrl tells any address, also one that is not good.
func joinUrl(u Url) string {
	text := u.Scheme + "://" + u.Host
	if u.Port != 0 {
		text += ":" + strconv.Itoa(u.Port)
	}
	text += u.Path
	if u.Asks {
		text += "?" + u.Query
	}
	return text
}

// splitUrl takes a text of any length apart at the bytes that part it. What
// stands between them is not looked at, but for the port: that is GoodUrl's,
// and ResolveUrl drops dots ahead of asking it.
func splitUrl(s string) (Url, bool) {
	u := Url{Path: "/"}
	at, from, ok := 0, 0, false
scheme:
	if at < len(s) && s[at] != ':' {
		at++
		goto scheme
	}
	if !strings.HasPrefix(s[at:], "://") {
		goto wrong
	}
	u.Scheme = s[:at]
	at += len("://")
	from = at
host:
	if at < len(s) && s[at] != ':' && s[at] != '/' && s[at] != '?' {
		at++
		goto host
	}
	u.Host = s[from:at]
	if at == len(s) || s[at] != ':' {
		goto path
	}
	at++
	from = at
port:
	if at < len(s) && isKind(s[at], digitByte) {
		at++
		goto port
	}
	u.Port, ok = readPort(s[from:at])
	if !ok {
		goto wrong
	}
path:
	if at == len(s) {
		return u, true
	}
	if s[at] == '?' {
		goto query
	}
	if s[at] != '/' {
		goto wrong
	}
	u.Path, u.Query, u.Asks = strings.Cut(s[at:], "?")
	return u, true
query:
	u.Query, u.Asks = s[at+1:], true
	return u, true
wrong:
	return Url{}, false
}

// readPort takes no 0: an address with port 0 tells none.
func readPort(digits string) (int, bool) {
	if digits == "" || digits[0] == '0' || len(digits) > maxPortDigits {
		return 0, false
	}
	port, err := strconv.Atoi(digits)
	return port, err == nil
}

// dropDots takes a path of any length that begins with `/`.
func dropDots(path string) string {
	parts := strings.Split(path[1:], "/")
	kept := []string{}
	for i, part := range parts {
		if part != "." && part != ".." {
			kept = append(kept, part)
			continue
		}
		if part == ".." && len(kept) > 0 {
			kept = kept[:len(kept)-1]
		}
		if i == len(parts)-1 {
			kept = append(kept, "")
		}
	}
	return "/" + strings.Join(kept, "/")
}

// referredUrl tells what a reference that is not empty stands for, with its
// dots, good or not.
func referredUrl(base Url, ref string) (Url, bool) {
	if u, ok := ReadUrl(ref); ok {
		return u, true
	}
	if strings.HasPrefix(ref, "//") {
		return splitUrl(base.Scheme + ":" + ref)
	}
	u := base
	path := ""
	path, u.Query, u.Asks = strings.Cut(ref, "?")
	switch {
	case strings.HasPrefix(path, "/"):
		u.Path = path
	case path != "":
		u.Path = base.Path[:strings.LastIndexByte(base.Path, '/')+1] + path
	}
	return u, true
}
