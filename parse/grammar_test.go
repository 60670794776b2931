package parse

import (
	"math"
	"slices"
	"strings"

	"delver/api"
	"delver/lex"
)

// The chapter's grammar, written once more as rules that are gone through word by word, to
// hold the package against: once with its bounds and once without them. A word that neither
// lets stand is ErrForm; one that only the bounds keep out is ErrLen.

// rule is a row of words that may come next.
type rule interface {
	mayEnd() bool
	behind(w api.Token) rule // what may come behind a word; nil, if it can't stand here
}

type (
	nothing struct{}
	word    func(api.Token) bool
	pair    struct{ first, rest rule }
	either  []rule
	later   func() rule // made when it is asked, so that rules may hold themselves
)

func (nothing) mayEnd() bool          { return true }
func (nothing) behind(api.Token) rule { return nil }

func (word) mayEnd() bool { return false }
func (f word) behind(w api.Token) rule {
	if !f(w) {
		return nil
	}
	return nothing{}
}

func (p pair) mayEnd() bool { return p.first.mayEnd() && p.rest.mayEnd() }
func (p pair) behind(w api.Token) rule {
	if r := p.first.behind(w); r != nil {
		if _, done := r.(nothing); done {
			return p.rest
		}
		return pair{r, p.rest}
	}
	if p.first.mayEnd() {
		return p.rest.behind(w)
	}
	return nil
}

func (l either) mayEnd() bool { return slices.ContainsFunc(l, rule.mayEnd) }
func (l either) behind(w api.Token) rule {
	var next either
	for _, r := range l {
		if r := r.behind(w); r != nil {
			next = append(next, r)
		}
	}
	switch len(next) {
	case 0:
		return nil
	case 1:
		return next[0]
	}
	return next
}

func (f later) mayEnd() bool            { return f().mayEnd() }
func (f later) behind(w api.Token) rule { return f().behind(w) }

func inRow(l ...rule) rule {
	if len(l) == 0 {
		return nothing{}
	}
	return pair{l[0], inRow(l[1:]...)}
}

func maybe(l ...rule) rule { return either{nothing{}, inRow(l...)} }

// this is one of these words, written with blanks between.
func this(texts string) rule {
	l := strings.Fields(texts)
	return word(func(w api.Token) bool { return w.Kind != api.TokNum && slices.Contains(l, w.Text) })
}

func between(least, most int) rule {
	return word(func(w api.Token) bool { return w.Kind == api.TokNum && w.N >= least && w.N <= most })
}

func never() rule { return word(func(api.Token) bool { return false }) }

const keptWords = "class interface extends implements field static method function locals catch int void"

func fresh() rule {
	l := strings.Fields(keptWords)
	return word(func(w api.Token) bool { return w.Kind == api.TokName && !slices.Contains(l, w.Text) })
}

// upTo is a rule so many times at most.
func upTo(n int, r rule) rule {
	return later(func() rule {
		if n == 0 {
			return nothing{}
		}
		return maybe(r, upTo(n-1, r))
	})
}

// commas is a rule once or more, at most so many times; the "," behind the last is no fault yet.
func commas(n int, r rule) rule { return inRow(r, commasBehind(n-1, r)) }

func commasBehind(n int, r rule) rule {
	return later(func() rule {
		if n == 0 {
			return maybe(this(","), never())
		}
		return maybe(this(","), r, commasBehind(n-1, r))
	})
}

// grammar makes the rule of programs, with the chapter's bounds, or without them.
func grammar(bounded bool) rule {
	most := func(n int) int {
		if bounded {
			return n
		}
		return math.MaxInt
	}
	typed := either{this("void"), inRow(either{this("int"), fresh()}, maybe(this("["), this("]")))}
	body := inRow(this("locals"), between(0, 8), this("{"), upTo(most(48), instrRule()),
		upTo(most(4), inRow(this("catch"), fresh(), between(0, 48), between(0, 48), between(0, 48), this(";"))), this("}"))
	field := inRow(this("field static"), fresh(), this(":"), typed, this(";"))
	method := inRow(this("method function"), fresh(), this("("), maybe(commas(most(4), typed)), this(")"), typed, either{this(";"), body})
	block := inRow(this("{"), membersRule(most(6), field, most(6), method), this("}"))
	names := commas(most(4), fresh())
	class := inRow(this("class"), fresh(), maybe(this("extends"), fresh()), maybe(this("implements"), names), block)
	iface := inRow(this("interface"), fresh(), maybe(this("extends"), names), block)
	return upTo(most(10), either{class, iface})
}

func membersRule(fields int, field rule, methods int, method rule) rule {
	return later(func() rule {
		l := either{nothing{}}
		if fields > 0 {
			l = append(l, inRow(field, membersRule(fields-1, field, methods, method)))
		}
		if methods > 0 {
			l = append(l, inRow(method, membersRule(fields, field, methods-1, method)))
		}
		return l
	})
}

func instrRule() rule {
	return inRow(either{
		this("nop null pop dup swap add sub mul div rem neg ints len at set ret leave throw"),
		inRow(this("const"), between(math.MinInt32, math.MaxInt32)),
		inRow(this("load store"), between(0, 7)),
		inRow(this("goto ifeq ifne iflt ifge cmpeq cmpne cmplt cmpge ifnull ifref same other"), between(0, 47)),
		inRow(this("new refs is cast"), fresh()),
		inRow(this("get put gets puts call func"), fresh(), fresh()),
	}, this(";"))
}

// wantFault answers what is wrong with a text, and where.
func wantFault(b []byte) (at int, e api.Errno) {
	words, at, e := lex.Scan(b)
	if e != api.OK {
		return at, e
	}
	tight, loose := grammar(true), grammar(false)
	for _, w := range words {
		if loose = loose.behind(w); loose == nil {
			return w.At, api.ErrForm
		}
		if tight = tight.behind(w); tight == nil {
			return w.At, api.ErrLen
		}
	}
	if !tight.mayEnd() {
		return len(b), api.ErrForm
	}
	return 0, api.OK
}
