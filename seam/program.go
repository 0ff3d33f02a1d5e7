package seam

import (
	"strconv"
	"strings"

	"trank/api"
)

// The codes of an Op.
const (
	take = iota
	goTo
	lock
	sew
	cut
	repeat
)

const (
	letters   = "tglscr" // by code
	maxRepeat = 99
)

// How much thread is used: by a seam for each unit of its length, by a lock, by a cut.
const (
	usedBySeam = 3
	usedByLock = 4
	usedByCut  = 2
)

// Op is an instruction of the machine.
type Op struct {
	Code, Arg int
	Back      bool
}

// Compile returns the program of a sewing.
func Compile(g Graph, runs [][]Move) ([]Op, api.Errno) {
	if !Valid(g) {
		return nil, api.ErrArg
	}
	if !g.isSewing(runs) {
		return nil, api.ErrForm
	}
	var p []Op
	for _, run := range runs {
		start, _ := g.ends(run[0])
		p = append(p, Op{Code: goTo, Arg: start}, Op{Code: take, Arg: g.Seams[run[0].Seam].Thread}, Op{Code: lock})
		for _, m := range run {
			p = append(p, Op{Code: sew, Arg: m.Seam, Back: m.Back})
		}
		p = append(p, Op{Code: lock}, Op{Code: cut})
	}
	return p, api.OK
}

// Thread returns how much of each thread the shortest programs use.
func Thread(g Graph) ([]int, api.Errno) {
	if !Valid(g) {
		return nil, api.ErrArg
	}
	used := make([]int, threads)
	for _, s := range g.Seams {
		used[s.Thread] += usedBySeam * s.Len
	}
	for _, run := range g.runs() {
		used[g.Seams[run[0].Seam].Thread] += usedByLock + usedByLock + usedByCut
	}
	return used, api.OK
}

// Text returns a program as a string.
func Text(p []Op) (string, api.Errno) {
	if e := check(p); e != api.OK {
		return "", e
	}
	var words []string
	for _, op := range p {
		words = append(words, op.word())
	}
	return strings.Join(words, " "), api.OK
}

// Read returns the program of a string.
func Read(s string) ([]Op, api.Errno) {
	var p []Op
	for more := s != ""; more; {
		var word string
		word, s, more = strings.Cut(s, " ")
		op, ok := readOp(word)
		if !ok || len(p) == api.MaxOps {
			return nil, api.ErrForm
		}
		p = append(p, op)
	}
	return p, api.OK
}

// check returns the error of what is no program.
func check(p []Op) api.Errno {
	if len(p) > api.MaxOps {
		return api.ErrSize
	}
	for _, op := range p {
		if !op.isValid() {
			return api.ErrArg
		}
	}
	return api.OK
}

func (op Op) isValid() bool {
	if op.Code < take || op.Code > repeat || op.Back && op.Code != sew {
		return false
	}
	greatest := [...]int{take: threads - 1, goTo: api.MaxJoints - 1, lock: 0, sew: api.MaxSeams - 1, cut: 0, repeat: maxRepeat}
	return op.Arg >= 0 && op.Arg <= greatest[op.Code]
}

func (op Op) word() string {
	word := letters[op.Code : op.Code+1]
	if op.Code != lock && op.Code != cut {
		word += strconv.Itoa(op.Arg)
	}
	if op.Back {
		word += "-"
	}
	return word
}

// readOp takes any number for the Arg, none as 0, and then refuses what is not just the word of the Op.
func readOp(word string) (Op, bool) {
	if word == "" {
		return Op{}, false
	}
	digits, back := strings.CutSuffix(word[1:], "-")
	arg, _ := strconv.Atoi(digits)
	op := Op{Code: strings.IndexByte(letters, word[0]), Arg: arg, Back: back}
	return op, op.isValid() && op.word() == word
}
