package parse

import (
	"slices"

	"delver/api"
	"delver/lex"
)

// reader goes through the words of a text, and keeps the first fault that it meets.
// Behind a fault there is no word any more: whoever reads on ends as at the text's end, so
// that no reading function has to look for faults itself.
type reader struct {
	words []api.Token
	next  int
	end   int // the length of the text, the place of words that are wanting
	at    int
	e     api.Errno
}

// now answers the word that comes next; one of no kind, if there is none.
func (r *reader) now() api.Token {
	if r.e != api.OK || r.next >= len(r.words) {
		return api.Token{}
	}
	return r.words[r.next]
}

// fail keeps a fault at the word that comes next, unless there was one before.
func (r *reader) fail(e api.Errno) {
	if r.e != api.OK {
		return
	}
	r.at = r.end
	if r.next < len(r.words) {
		r.at = r.words[r.next].At
	}
	r.e = e
}

// sees tells whether the next word is one of these, names or signs.
func (r *reader) sees(texts ...string) bool {
	return slices.Contains(texts, r.now().Text)
}

// seesFresh tells whether the next word is a fresh name.
func (r *reader) seesFresh() bool {
	now := r.now()
	return now.Kind == api.TokName && !Kept(now.Text)
}

// skip goes beyond the next word, if it is this one.
func (r *reader) skip(text string) bool {
	if !r.sees(text) {
		return false
	}
	r.next++
	return true
}

// want goes beyond the next word, which has to be this one.
func (r *reader) want(text string) {
	if !r.skip(text) {
		r.fail(api.ErrForm)
	}
}

// first goes beyond the next word, which has to be one of two, and tells whether it is the first.
func (r *reader) first(text, other string) bool {
	if r.skip(text) {
		return true
	}
	r.want(other)
	return false
}

// fresh reads a fresh name.
func (r *reader) fresh() string {
	if !r.seesFresh() {
		r.fail(api.ErrForm)
		return ""
	}
	name := r.now().Text
	r.next++
	return name
}

// number reads a number from least to most.
func (r *reader) number(least, most int) int {
	now := r.now()
	if now.Kind != api.TokNum || now.N < least || now.N > most {
		r.fail(api.ErrForm)
		return 0
	}
	r.next++
	return now.N
}

// more tells whether one more is to be read beside the n that were, of at most so many;
// begins: whether the next word begins one. One too many is a fault right there.
func (r *reader) more(begins bool, n, most int) bool {
	if begins && n >= most {
		r.fail(api.ErrLen)
		return false
	}
	return begins
}

// listed reads one or more, a "," between each two, of at most so many.
func listed[T any](r *reader, most int, begins func() bool, read func() T) []T {
	l := []T{read()}
	for r.skip(",") {
		if !r.more(begins(), len(l), most) {
			r.fail(api.ErrForm)
			return nil
		}
		l = append(l, read())
	}
	return l
}

// scanned makes a reader of a text, which may begin with lex.Scan's fault.
func scanned(b []byte) reader {
	words, at, e := lex.Scan(b)
	return reader{words: words, end: len(b), at: at, e: e}
}
