package skin_test

import (
	"fmt"
	"regexp"
	"slices"
	"strconv"
	"strings"
	"testing"

	"trank/api"
	"trank/skin"
)

// P3.4, P3.10

// packed is the oracle of Pack: a byte after another, counted when the next one differs.
func packed(s []string) string {
	text := ""
	for y, row := range s {
		if y > 0 {
			text += "/"
		}
		n := 0
		for x := range len(row) {
			n++
			if x+1 < len(row) && row[x+1] == row[x] {
				continue
			}
			if n > 1 {
				text += strconv.Itoa(n)
			}
			text += string("abcdefghij"[row[x]-'0'])
			n = 0
		}
	}
	return text
}

func TestPackAndUnpack(t *testing.T) {
	for _, s := range slices.Concat(samples(300), great()) {
		text, e := skin.Pack(s)
		if text != packed(s) || e != api.OK {
			t.Fatalf("%q: %q, error %d; want %q", s, text, e, packed(s))
		}
		again, e := skin.Unpack(text)
		wantSkin(t, text, again, e, s)
	}
	for side := 1; side <= api.MaxSide; side++ {
		for _, s := range [][]string{full(side, 1, "9"), full(1, side, "0"), full(side, side, "4")} {
			text, e := skin.Pack(s)
			if text != packed(s) || e != api.OK {
				t.Fatalf("%q: %q, error %d; want %q", s, text, e, packed(s))
			}
			again, e := skin.Unpack(text)
			wantSkin(t, text, again, e, s)
		}
	}
}

func TestPackExamples(t *testing.T) {
	for text, s := range map[string][]string{
		"2a2b/4f": {"0011", "5555"}, "a": {"0"}, "j": {"9"}, "abcdefghij": {"0123456789"},
		"48a": full(48, 1, "0"), "12b": full(12, 1, "1"), "10b": full(10, 1, "1"), "bab": {"101"}, "a/a": {"0", "0"},
	} {
		if got, e := skin.Pack(s); got != text || e != api.OK {
			t.Errorf("%q: %q, error %d; want %q", s, got, e, text)
		}
		got, e := skin.Unpack(text)
		wantSkin(t, text, got, e, s)
	}
}

func TestUnpackRefuses(t *testing.T) {
	column := strings.Repeat("a/", 47)
	for _, text := range []string{
		"", "1a", "a/2a", "ab/", "2a2a", "k", "02a", "a2", "0a", "00a", "2", "/", "//", "/a", "a/", "a//a", "aa", "2aa", "a2a", "A", "`", "ba/3a", "2a/b",
		"49a", "48ab", "a48b", "49a/49a", "100a", "480a", "4 8a", " a", "a ", "a\n", "a\x00", "+2a", "-2a", "2 a", "2.a", "0x2a", "1_0a", "é", "٣a", "a\xff", "\xe1",
		"18446744073709551618a", "18446744073709551617a", "9223372036854775808a", "-9223372036854775806a", "4294967298a", "258a", "99999999999999999999999999999999a", "1000000000000000a", "9223372036854775807a", "b1000000000000000a",
		column + "a/a", column + "a/", column + "2a", "2a2b/4f/", "/2a2b/4f", "2a2b//4f", "2a2b/3f", "2a2b\\4f", "2a2b,4f", "2a2b/4F",
		strings.Repeat("ab", 25), strings.Repeat("ab", 1<<16), strings.Repeat("9", 1<<16), strings.Repeat("a", 1<<16), strings.Repeat("a/", 1<<16), strings.Repeat("/", 1<<16), strings.Repeat("48a", 1<<12),
	} {
		if got, e := skin.Unpack(text); len(got) > 0 || e != api.ErrForm {
			t.Errorf("%.80q: %q, error %d", text, got, e)
		}
	}
	got, e := skin.Unpack(column + "a")
	wantSkin(t, "48 rows", got, e, full(1, 48, "0"))
}

var run = regexp.MustCompile(`^([2-9]|[1-4][0-9])?([a-j])`)

// isPacked is the oracle of Unpack: the grammar of what Pack returns.
func isPacked(text string) bool {
	width := -1
	rows := strings.Split(text, "/")
	for _, row := range rows {
		sum, last := 0, ""
		for row != "" {
			m := run.FindStringSubmatch(row)
			if m == nil || m[2] == last {
				return false
			}
			n, _ := strconv.Atoi(m[1])
			sum, last, row = sum+max(n, 1), m[2], row[len(m[0]):]
		}
		if sum == 0 || sum > 48 || width >= 0 && sum != width {
			return false
		}
		width = sum
	}
	return len(rows) <= 48
}

// All short strings of these bytes: Unpack takes just those that Pack returns.
func TestUnpackOfAllShortStrings(t *testing.T) {
	var try func(text string, left int)
	taken := 0
	try = func(text string, left int) {
		s, e := skin.Unpack(text)
		again, packE := skin.Pack(s)
		ok := e == api.OK && packE == api.OK && again == text
		if ok != isPacked(text) || !ok && (e != api.ErrForm || len(s) > 0) {
			t.Fatalf("%q: %q, error %d", text, s, e)
		}
		if ok {
			taken++
		}
		for _, b := range "abjk0124/" {
			if left > 0 {
				try(text+string(b), left-1)
			}
		}
	}
	try("", 5)
	if taken < 400 {
		t.Error(taken)
	}
}

// A string that differs in a byte from a packed skin is none, or that of another skin.
func TestUnpackOfOtherBytes(t *testing.T) {
	for _, s := range samples(10) {
		text, _ := skin.Pack(s)
		for i := range len(text) {
			for b := range 256 {
				other := text[:i] + string([]byte{byte(b)}) + text[i+1:]
				got, e := skin.Unpack(other)
				if (e == api.OK) != isPacked(other) || e == api.OK && packed(got) != other {
					t.Fatal(fmt.Sprintf("%q: %q, error %d", other, got, e))
				}
			}
		}
	}
}
