package tests

import (
	"regexp"
	"slices"
	"strings"

	"loop.example/g00367/impl"
)

const (
	nameForm  = `[a-z][a-z0-9_]{0,19}`
	namedForm = nameForm + `(?:[+-]` + numberForm + `)?`
)

var (
	labelForm    = regexp.MustCompile(`\A(` + nameForm + `): *`)
	globalForm   = regexp.MustCompile(`\A\.global (` + nameForm + `)\z`)
	includedForm = regexp.MustCompile(`\A\.include (` + nameForm + `)\z`)
	spaceForm    = regexp.MustCompile(`\A\.space ` + numberForm + `\z`)
	namedJump    = regexp.MustCompile(`\A(` + strings.Join(jumpOps, "|") + `) (` + namedForm + `)\z`)
	operandParts = regexp.MustCompile(`\A([^ ]+) ([^, ]+)(?:(, ?)([^, ]+))?\z`)
	namedOperand = regexp.MustCompile(`\A(&|#|)(` + namedForm + `)(\(` + regForm + `\))?\z`)
)

// laidMeant is a word, and what is told of the Ref to it, if that has a Name.
type laidMeant struct {
	n   int64
	ref impl.Ref
}

// lineMeant is what a line means: all of it that is not told is empty; right is false, if it means nothing.
type lineMeant struct {
	label    string
	laid     []laidMeant
	global   string
	included string
	right    bool
}

func laidOfWord(text string) (laidMeant, bool) {
	w := wordMeant(text)
	if w.Word.Name == "" {
		return laidMeant{n: w.Word.N}, w.Code == impl.OK
	}
	return laidMeant{ref: impl.Ref{Name: w.Word.Name, Add: w.Word.N}}, w.Code == impl.OK
}

// withoutName puts a long 0, or 0, in the place of a Word with a Name, which it tells.
func withoutName(operand string) (string, laidMeant) {
	m := namedOperand.FindStringSubmatch(operand)
	if m == nil || (m[1] == "") != strings.HasSuffix(operand, ")") {
		return operand, laidMeant{}
	}
	laid, right := laidOfWord(m[2])
	if !right {
		return operand, laidMeant{}
	}
	if m[1] == "#" {
		return "##0", laid
	}
	return m[1] + "0" + operand[len(m[1])+len(m[2]):], laid
}

// hasOwnWord: is there a word for this operand's N?
func hasOwnWord(o impl.Operand) bool {
	if o.Mode == impl.OpImmediate {
		return o.Long || !slices.Contains(shorts, o.N)
	}
	return o.Mode == impl.OpIndexed || o.Mode == impl.OpAbsolute
}

// insnLaid: what a line lays that is an Insn, perhaps with Names in it.
func insnLaid(text string) ([]laidMeant, bool) {
	var named [2]laidMeant
	if m := operandParts.FindStringSubmatch(text); m != nil {
		var src, dst string
		src, named[0] = withoutName(m[2])
		dst, named[1] = withoutName(m[4])
		text = m[1] + " " + src + m[3] + dst
	}
	i := insnMeant(text)
	if i.Code != impl.OK {
		return nil, false
	}
	var out []laidMeant
	for _, n := range impl.Encode(i.Insn) {
		out = append(out, laidMeant{n: n})
	}
	place := 1
	for k, o := range []impl.Operand{i.Insn.Src, i.Insn.Dst} {
		if hasOwnWord(o) {
			out[place].ref = named[k].ref
			place++
		}
	}
	return out, true
}

func wordsLaid(text string) ([]laidMeant, bool) {
	var out []laidMeant
	for n, piece := range strings.Split(text, ",") {
		if n > 0 {
			piece = strings.TrimPrefix(piece, " ")
		}
		laid, right := laidOfWord(piece)
		if !right {
			return nil, false
		}
		out = append(out, laid)
	}
	return out, true
}

// statementLaid: what is laid by what is neither `.global` nor `.include`.
func statementLaid(text string) ([]laidMeant, bool) {
	if text == "" {
		return nil, true
	}
	if m := spaceForm.FindStringSubmatch(text); m != nil {
		many := numberMeant(m[1])
		if many < 1 || many > 100 {
			return nil, false
		}
		return make([]laidMeant, many), true
	}
	if behind, is := strings.CutPrefix(text, ".word "); is {
		return wordsLaid(behind)
	}
	if m := namedJump.FindStringSubmatch(text); m != nil {
		laid, right := laidOfWord(m[2])
		laid.ref.Jump = true
		laid.n = impl.Encode(impl.Insn{Op: m[1]})[0]
		return []laidMeant{laid}, right
	}
	return insnLaid(text)
}

// meantOf reads a line in another way than the program does, by the document's words.
func meantOf(text string) lineMeant {
	var out lineMeant
	text, _, _ = strings.Cut(text, ";")
	text = strings.Trim(text, " ")
	if m := labelForm.FindStringSubmatch(text); m != nil {
		out.label = m[1]
		text = text[len(m[0]):]
	}
	if m := globalForm.FindStringSubmatch(text); m != nil {
		out.global, out.right = m[1], true
	} else if m := includedForm.FindStringSubmatch(text); m != nil {
		out.included, out.right = m[1], true
	} else {
		out.laid, out.right = statementLaid(text)
	}
	return out
}

// assembler is a second one, in the order of the document's words; sources are right.
type assembler struct {
	texts   map[string]string
	gone    int
	words   []int64
	refs    []impl.Ref
	syms    map[string]impl.Sym
	globals []string
}

func (a *assembler) line(text string, nested int) (impl.ObjectOut, bool) {
	fault := func(code int64) (impl.ObjectOut, bool) {
		return impl.ObjectOut{Code: code}, false
	}
	if a.gone++; a.gone > impl.MaxLines {
		return fault(impl.ErrFull)
	}
	l := meantOf(text)
	if _, there := a.syms[l.label]; there {
		return fault(impl.ErrThere)
	}
	if l.label != "" {
		a.syms[l.label] = impl.Sym{Name: l.label, At: int64(len(a.words))}
	}
	if !l.right {
		return fault(impl.ErrSyntax)
	}
	if l.global != "" {
		a.globals = append(a.globals, l.global)
	}
	if l.included != "" {
		if _, there := a.texts[l.included]; !there {
			return fault(impl.ErrNone)
		}
		if nested == impl.MaxNested {
			return fault(impl.ErrDeep)
		}
		return a.file(l.included, nested+1)
	}
	for _, laid := range l.laid {
		if laid.ref.Name != "" {
			laid.ref.At = int64(len(a.words))
			a.refs = append(a.refs, laid.ref)
		}
		a.words = append(a.words, laid.n)
	}
	if len(a.words) > impl.MaxWords {
		return fault(impl.ErrFull)
	}
	return impl.ObjectOut{}, true
}

func (a *assembler) file(name string, nested int) (impl.ObjectOut, bool) {
	for number, text := range strings.SplitAfter(a.texts[name], "\n") {
		if text == "" {
			continue
		}
		out, right := a.line(strings.TrimSuffix(text, "\n"), nested)
		if right {
			continue
		}
		if out.File == "" {
			out.File, out.Line = name, int64(number)
		}
		return out, false
	}
	return impl.ObjectOut{}, true
}

// assembledMeant: what Assemble tells of right sources, and of the Name of one.
func assembledMeant(l []impl.Source, name string) impl.ObjectOut {
	a := assembler{texts: map[string]string{}, syms: map[string]impl.Sym{}}
	for _, s := range l {
		a.texts[s.Name] = s.Text
	}
	if out, right := a.file(name, 0); !right {
		return out
	}
	for _, global := range a.globals {
		sym, there := a.syms[global]
		if !there {
			return impl.ObjectOut{File: name, Code: impl.ErrNone}
		}
		sym.Global = true
		a.syms[global] = sym
	}
	var syms []impl.Sym
	for _, sym := range a.syms {
		syms = append(syms, sym)
	}
	slices.SortFunc(syms, func(x, y impl.Sym) int {
		return strings.Compare(x.Name, y.Name)
	})
	return impl.ObjectOut{Object: impl.Object{Words: a.words, Syms: syms, Refs: a.refs}}
}
