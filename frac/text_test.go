package frac_test

import (
	"fmt"
	"math/big"
	"regexp"
	"strings"
	"testing"

	"trank/api"
	"trank/frac"
)

// P1.4

func printed() map[string]api.Frac {
	return map[string]api.Frac{
		"0":                     fr(0, 1),
		"1":                     fr(1, 1),
		"-1":                    fr(-1, 1),
		"10":                    fr(10, 1),
		"1/2":                   fr(1, 2),
		"-1/2":                  fr(-1, 2),
		"6 3/4":                 fr(27, 4),
		"-6 3/4":                fr(-27, 4),
		"1 1/2":                 fr(3, 2),
		"10 9/10":               fr(109, 10),
		"1000000000":            fr(most, 1),
		"-1000000000":           fr(-most, 1),
		"1/1000000000":          fr(1, most),
		"-999999999/1000000000": fr(1-most, most),
		"1 1/999999999":         fr(most, most-1),
		"499999999 1/2":         fr(most-1, 2),
		"-333333333 1/3":        fr(-most, 3),
	}
}

func TestPrintAndParseOfEachForm(t *testing.T) {
	for s, f := range printed() {
		if got, e := frac.Print(f); got != s || e != api.OK {
			t.Errorf("Print %v: %q, error %d; want %q", f, got, e, s)
		}
		got, e := frac.Parse(s)
		wantFrac(t, fmt.Sprintf("Parse %q", s), got, e, f, api.OK)
	}
}

func TestPrintRefuses(t *testing.T) {
	for _, bad := range notValid() {
		if got, e := frac.Print(bad); got != "" || e != api.ErrArg {
			t.Errorf("Print %v: %q, error %d", bad, got, e)
		}
	}
}

func TestParseRefuses(t *testing.T) {
	for _, s := range []string{
		"6 2/4", "+1", "1/1", "0/1", "-0", "06", "6  3/4", "", " ", "-", "/", "1 ", " 1", "1 /2", "1/ 2", "1/2 ", " 1/2", "- 1/2",
		"5/", "/5", "1/0", "0/0", "0 1/2", "-0 1/2", "-0/1", "3/2", "1 3/2", "1 0/2", "1 1/1", "2/4", "1 2", "1 2 1/3", "1/2/3", "1/2 3",
		"--1", "1-", "6 -3/4", "6 3/-4", "-6 -3/4", "6 +3/4", "01/2", "1/02", "1 01/2", "00", "1_0", "0x1", "1e3", "1.5", "½", "one",
		"1\n", "\t1", "1\x00", "6\t3/4", "6\u00a03/4", "6-3/4", "6 3:4", "\xff",
		"1000000001", "-1000000001", "1/1000000001", "1000000000 1/2", "500000000 1/2", "999999999 1/1000000000",
		"9223372036854775807", "9223372036854775808", "-9223372036854775808", "18446744073709551617", "1/18446744073709551617",
		"18446744073709551616 1/2", strings.Repeat("9", 5000), strings.Repeat("0", 5000), strings.Repeat("-", 5000), strings.Repeat("1/", 5000),
	} {
		got, e := frac.Parse(s)
		wantFrac(t, fmt.Sprintf("Parse %.40q", s), got, e, api.Frac{}, api.ErrForm)
	}
}

var form = regexp.MustCompile(`\A(-?)(?:(0|[1-9][0-9]*)|(?:([1-9][0-9]*) )?([1-9][0-9]*)/([1-9][0-9]*))\z`)

// parseOracle reads by a regular expression, with numbers of any length.
func parseOracle(s string) (api.Frac, api.Errno) {
	m := form.FindStringSubmatch(s)
	if m == nil || s == "-0" {
		return api.Frac{}, api.ErrForm
	}
	value := new(big.Rat)
	if m[2] != "" {
		value.SetString(m[2])
	} else {
		num, _ := new(big.Int).SetString(m[4], 10)
		den, _ := new(big.Int).SetString(m[5], 10)
		common := new(big.Int).GCD(nil, nil, num, den)
		if num.Cmp(den) >= 0 || common.Cmp(big.NewInt(1)) != 0 {
			return api.Frac{}, api.ErrForm
		}
		value.SetFrac(num, den)
		if m[3] != "" {
			whole, _ := new(big.Rat).SetString(m[3])
			value.Add(value, whole)
		}
	}
	if m[1] == "-" {
		value.Neg(value)
	}
	f, e := bounded(value)
	if e != api.OK {
		return api.Frac{}, api.ErrForm
	}
	return f, api.OK
}

func TestParseOfStringsThatDifferInAByte(t *testing.T) {
	check := func(s string) {
		want, wantE := parseOracle(s)
		got, e := frac.Parse(s)
		wantFrac(t, fmt.Sprintf("Parse %q", s), got, e, want, wantE)
	}
	for s := range printed() {
		for i := 0; i <= len(s); i++ {
			if i < len(s) {
				check(s[:i] + s[i+1:])
			}
			for c := range 256 {
				check(s[:i] + string([]byte{byte(c)}) + s[i:])
				if i < len(s) {
					check(s[:i] + string([]byte{byte(c)}) + s[i+1:])
				}
			}
		}
	}
}

func TestParseOfAllShortStrings(t *testing.T) {
	const letters = "0129-/ +"
	level := []string{""}
	for range 5 {
		var longer []string
		for _, s := range level {
			for _, c := range letters {
				longer = append(longer, s+string(c))
			}
		}
		for _, s := range longer {
			want, wantE := parseOracle(s)
			got, e := frac.Parse(s)
			wantFrac(t, fmt.Sprintf("Parse %q", s), got, e, want, wantE)
		}
		level = longer
	}
}

// P1.12

func TestParseOfPrintIsTheFraction(t *testing.T) {
	for _, f := range samples(5000) {
		s, e := frac.Print(f)
		if e != api.OK {
			t.Errorf("Print %v: error %d", f, e)
		}
		got, e := frac.Parse(s)
		wantFrac(t, fmt.Sprintf("Parse %q", s), got, e, f, api.OK)
	}
}
