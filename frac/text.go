package frac

import (
	"strconv"
	"strings"

	"trank/api"
)

// Print returns the string of a fraction: a whole number, a proper fraction, or both with one blank between.
func Print(f api.Frac) (string, api.Errno) {
	if !Valid(f) {
		return "", api.ErrArg
	}
	sign := ""
	if f.Num < 0 {
		sign = "-"
	}
	r := of(f).absolute()
	w := r.floor()
	rest := r.shifted(-w)
	part := strconv.Itoa(rest.num) + "/" + strconv.Itoa(rest.den)
	switch {
	case rest.num == 0:
		return sign + strconv.Itoa(w), api.OK
	case w == 0:
		return sign + part, api.OK
	}
	return sign + strconv.Itoa(w) + " " + part, api.OK
}

// Parse returns the fraction of which Print returns s.
func Parse(s string) (api.Frac, api.Errno) {
	r, ok := readRatio(s)
	if !ok {
		return api.Frac{}, api.ErrForm
	}
	f, e := r.reduced()
	if e != api.OK {
		return api.Frac{}, api.ErrForm
	}
	// readRatio is lenient: what Print would write otherwise is of another form.
	if printed, _ := Print(f); printed != s {
		return api.Frac{}, api.ErrForm
	}
	return f, api.OK
}

// readRatio reads a superset of what Print returns.
func readRatio(s string) (ratio, bool) {
	digits, negative := strings.CutPrefix(s, "-")
	r, ok := readUnsigned(digits)
	if negative {
		r = r.negative()
	}
	return r, ok
}

func readUnsigned(s string) (ratio, bool) {
	num, den, isPart := strings.Cut(s, "/")
	if !isPart {
		w, ok := readPart(s)
		return ratio{w, 1}, ok
	}
	whole, rest, hasWhole := strings.Cut(num, " ")
	if !hasWhole {
		whole, rest = "0", num
	}
	w, wholeOK := readPart(whole)
	n, restOK := readPart(rest)
	d, denOK := readPart(den)
	if !wholeOK || !restOK || !denOK || d == 0 {
		return ratio{}, false
	}
	return ratio{n, d}.shifted(w), true
}

func readPart(s string) (int, bool) {
	n, err := strconv.Atoi(s)
	return n, err == nil && n >= 0 && n <= api.MaxPart
}
