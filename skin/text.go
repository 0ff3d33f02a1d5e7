package skin

import (
	"strconv"
	"strings"

	"trank/api"
)

// Pack returns a skin as a string.
func Pack(s []string) (string, api.Errno) {
	if !Valid(s) {
		return "", api.ErrArg
	}
	var rows []string
	for _, row := range s {
		rows = append(rows, packedRow(row))
	}
	return strings.Join(rows, "/"), api.OK
}

func packedRow(row string) string {
	packed := ""
	for row != "" {
		rest := strings.TrimLeft(row, row[:1])
		if n := len(row) - len(rest); n > 1 {
			packed += strconv.Itoa(n)
		}
		packed += string('a' + rune(row[0]-'0'))
		row = rest
	}
	return packed
}

// Unpack returns the skin of a string.
func Unpack(t string) ([]string, api.Errno) {
	if strings.Count(t, "/") >= api.MaxSide {
		return nil, api.ErrForm
	}
	var s []string
	for _, packed := range strings.Split(t, "/") {
		row, ok := readRow(packed)
		if !ok {
			return nil, api.ErrForm
		}
		s = append(s, row)
	}
	// readRow is lenient: what Pack would write otherwise is of another form.
	if again, e := Pack(s); e != api.OK || again != t {
		return nil, api.ErrForm
	}
	return s, api.OK
}

// readRow reads a superset of what a packed row may be.
func readRow(packed string) (string, bool) {
	row, n := "", 0
	for _, r := range packed {
		switch {
		case r >= '0' && r <= '9':
			n = n*10 + int(r-'0')
		case r >= 'a' && r <= 'j':
			row += strings.Repeat(string('0'+(r-'a')), max(n, 1))
			n = 0
		default:
			return "", false
		}
		// Beyond the limit at once, before a number or a row grows out of all bounds.
		if n > api.MaxSide || len(row) > api.MaxSide {
			return "", false
		}
	}
	return row, true
}
