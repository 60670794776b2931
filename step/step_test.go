package step

import (
	"strconv"
	"strings"
	"testing"

	"delver/api"
	"delver/show"
)

// kin is what the tests' methods, those of a class T, lean on.
const kin = `
interface Has { method f ( int ) int ; }
interface More extends Has { method h ( ) void ; }
class Base {
	field x : int ; field next : Base ; static count : int ; static first : Base ;
	method f ( int ) int locals 2 { load 1 ; const 1 ; add ; ret ; }
	method g ( int , int ) int locals 4 { load 1 ; load 2 ; sub ; load 0 ; get Base x ; mul ; ret ; }
	method h ( ) void locals 1 { load 0 ; const 9 ; put Base x ; leave ; }
	function half ( int ) int locals 2 { load 0 ; const 2 ; div ; ret ; }
	function back ( ) void locals 1 { leave ; }
	function bad ( Base ) int locals 1 { load 0 ; get Base x ; ret ; }
}
class Kid extends Base implements More { field y : int ; field r : int [ ] ; static own : Kid ; static count : int ; method f ( int ) int locals 3 { load 1 ; const 2 ; mul ; ret ; } }
class Grand extends Kid { field z : Base ; method h ( ) void locals 1 { load 0 ; const 8 ; put Base x ; leave ; } }
class Other { field x : int ; method f ( int ) int locals 2 { const 0 ; ret ; } }
class Oops extends NumError { field why : int ; }
class Worse extends Oops { }
`

// with answers kin and a class T that has a function t.
func with(t *testing.T, head, code string) api.Program {
	t.Helper()
	return read(t, "class T { static it : Base ; function t "+head+" { "+code+" } } "+kin)
}

// end answers how a function t of T goes with an input: as how it ends, behind how many steps, its value, and of what is
// thrown its class.
func end(t *testing.T, head, code, in string) string {
	t.Helper()
	r, e := After(with(t, head, code), "T", "t", inputOf(in), 200)
	if e != api.OK {
		t.Fatalf("%s { %s } of %s: %d", head, code, in, e)
	}
	text := [...]string{"runs", "returned", "thrown", "cut"}[r.How] + " " + strconv.Itoa(r.Steps) + ": "
	if r.How == api.Thrown {
		return text + wordOf(r.Heap[r.Value.N].Type)
	}
	return text + toldValues([]api.Val{r.Value})
}

// ended holds that a function ends so; each row is a head, code, an input, an end.
func ended(t *testing.T, rows ...[4]string) {
	t.Helper()
	for _, c := range rows {
		if got := end(t, c[0], c[1], c[2]); got != c[3] {
			t.Errorf("%s { %s } of %s: %s, not %s", c[0], c[1], c[2], got, c[3])
		}
	}
}

// left holds what a run leaves: each row is a head, code, an input, and the whole run as told writes it, behind so many
// steps as it has.
func left(t *testing.T, rows ...[4]string) {
	t.Helper()
	for _, c := range rows {
		steps, _, _ := strings.Cut(strings.SplitN(c[3], " ", 2)[1], ":")
		n, _ := strconv.Atoi(steps)
		p := with(t, c[0], c[1])
		r, e := After(p, "T", "t", inputOf(c[2]), n)
		if got := told(r); got != c[3] || e != api.OK {
			t.Errorf("%s { %s } of %s: %s, not %s (%d)", c[0], c[1], c[2], got, c[3], e)
			continue
		}
		checkAsPlain(t, p, "T", "t", inputOf(c[2]), n)
	}
}

// checkAsPlain holds a run against the plain one, at each of its steps and beyond its end.
func checkAsPlain(t *testing.T, p api.Program, class, method string, in api.Input, most int) map[string]int {
	t.Helper()
	trace, seen := plainly(p, class, method, in, most)
	asked := len(trace)
	if trace[asked-1].How != api.Runs {
		asked += 2
	}
	for n := range asked {
		want := trace[min(n, len(trace)-1)]
		r, e := After(p, class, method, in, n)
		if told(r) != told(want) || e != api.OK || Frames(r) != len(want.Frames) {
			text, _ := show.Text(p)
			t.Fatalf("%d: %s, not %s (%d): %+v of %s", n, told(r), told(want), e, in, text)
		}
	}
	return seen
}

// The chapter's example.
func TestConstRet(t *testing.T) {
	left(t,
		[4]string{"( ) int locals 0", "const 1 ; ret ;", "", "runs 0: 0 ; - 0 - - 0 > T.t 0 () "},
		[4]string{"( ) int locals 0", "const 1 ; ret ;", "", "runs 1: 0 ; - 0 - - 0 > T.t 1 () 1"},
		[4]string{"( ) int locals 0", "const 1 ; ret ;", "", "returned 2: 1 ; - 0 - - 0"},
	)
}

func TestMovesOfValues(t *testing.T) {
	left(t,
		[4]string{"( int ) void locals 3", "nop ; nop ; leave ;", "7", "runs 2: 0 ; - 0 - - 0 > T.t 2 (7 0 0) "},
		[4]string{"( ) void locals 0", "const -2147483648 ; const 2147483647 ; leave ;", "", "runs 2: 0 ; - 0 - - 0 > T.t 2 () -2147483648 2147483647"},
		[4]string{"( ) void locals 0", "null ; const 3 ; null ; leave ;", "", "runs 3: 0 ; - 0 - - 0 > T.t 3 () - 3 -"},
		[4]string{"( int , Base ) void locals 3", "load 1 ; load 0 ; load 1 ; store 2 ; leave ;", "5 @0 | Base 6 -", "runs 3: 0 | Base 6 - ; - 0 - - 0 > T.t 3 (5 @0 0) @0 5 @0"},
		[4]string{"( int , Base ) void locals 3", "load 1 ; load 0 ; load 1 ; store 2 ; leave ;", "5 @0 | Base 6 -", "runs 4: 0 | Base 6 - ; - 0 - - 0 > T.t 4 (5 @0 @0) @0 5"},
		[4]string{"( int ) void locals 1", "null ; store 0 ; const 4 ; store 0 ; leave ;", "5", "runs 2: 0 ; - 0 - - 0 > T.t 2 (-) "},
		[4]string{"( int ) void locals 1", "null ; store 0 ; const 4 ; store 0 ; leave ;", "5", "runs 4: 0 ; - 0 - - 0 > T.t 4 (4) "},
		[4]string{"( ) void locals 0", "const 1 ; const 2 ; null ; pop ; leave ;", "", "runs 4: 0 ; - 0 - - 0 > T.t 4 () 1 2"},
		[4]string{"( ) void locals 0", "const 1 ; const 2 ; dup ; leave ;", "", "runs 3: 0 ; - 0 - - 0 > T.t 3 () 1 2 2"},
		[4]string{"( ) void locals 0", "const 1 ; const 2 ; null ; swap ; leave ;", "", "runs 4: 0 ; - 0 - - 0 > T.t 4 () 1 - 2"},
		// eight places of a stack
		[4]string{"( ) void locals 0", "const 1 ; const 2 ; const 3 ; const 4 ; const 5 ; const 6 ; const 7 ; dup ; leave ;", "", "runs 8: 0 ; - 0 - - 0 > T.t 8 () 1 2 3 4 5 6 7 7"},
		// as many locals as there may be
		[4]string{"( int , int ) void locals 8", "load 1 ; store 7 ; leave ;", "1 2", "runs 2: 0 ; - 0 - - 0 > T.t 2 (1 2 0 0 0 0 0 2) "},
	)
}

// edges are numbers at which sums and jumps change.
var edges = []string{"-2147483648", "-2147483647", "-46341", "-7", "-2", "-1", "0", "1", "2", "3", "7", "46341", "1073741824", "2147483646", "2147483647"}

// Each two edges are given to each word; what is to come of them the plain run says by numbers without bounds.
func TestNumbersAtTheirEdges(t *testing.T) {
	thrown := map[string]int{}
	hold := func(word string, p api.Program, in string) {
		t.Helper()
		trace, seen := plainly(p, "T", "t", inputOf(in), 9)
		thrown[word] += seen["throws NumError"]
		if r, e := After(p, "T", "t", inputOf(in), 9); told(r) != told(trace[len(trace)-1]) || e != api.OK {
			t.Error(word, in, told(r), e)
		}
	}
	for _, word := range strings.Fields("add sub mul div rem") {
		p := with(t, "( int , int ) int locals 2", "load 0 ; load 1 ; "+word+" ; ret ;")
		for _, a := range edges {
			for _, b := range edges {
				hold(word, p, a+" "+b)
			}
		}
	}
	p := with(t, "( int ) int locals 2", "load 0 ; neg ; ret ;")
	for _, a := range edges {
		hold("neg", p, a)
	}
	for word, want := range map[string]int{"div": 16, "rem": 15, "neg": 1} {
		if thrown[word] != want {
			t.Error(word, thrown[word])
		}
	}
}

func TestNumbers(t *testing.T) {
	two := "( int , int ) int locals 2"
	for _, c := range [][3]string{
		{"add", "2 3", "returned 4: 5"}, {"add", "2147483647 0", "returned 4: 2147483647"}, {"add", "2147483646 1", "returned 4: 2147483647"}, {"add", "2147483647 1", "thrown 3: NumError"}, {"add", "-2147483648 -1", "thrown 3: NumError"}, {"add", "-2147483647 -1", "returned 4: -2147483648"},
		{"sub", "2 3", "returned 4: -1"}, {"sub", "-2147483648 1", "thrown 3: NumError"}, {"sub", "0 -2147483648", "thrown 3: NumError"}, {"sub", "-1 -2147483648", "returned 4: 2147483647"}, {"sub", "-1 2147483647", "returned 4: -2147483648"}, {"sub", "2147483647 -1", "thrown 3: NumError"},
		{"mul", "-4 3", "returned 4: -12"}, {"mul", "-2147483648 -1", "thrown 3: NumError"}, {"mul", "-1073741824 2", "returned 4: -2147483648"}, {"mul", "1073741824 2", "thrown 3: NumError"}, {"mul", "46341 46341", "thrown 3: NumError"}, {"mul", "46340 46340", "returned 4: 2147395600"}, {"mul", "-2147483648 0", "returned 4: 0"},
		{"div", "7 2", "returned 4: 3"}, {"div", "-7 2", "returned 4: -3"}, {"div", "7 -2", "returned 4: -3"}, {"div", "2 7", "returned 4: 0"}, {"div", "7 0", "thrown 3: NumError"}, {"div", "0 0", "thrown 3: NumError"}, {"div", "-2147483648 -1", "thrown 3: NumError"}, {"div", "-2147483648 1", "returned 4: -2147483648"}, {"div", "2147483647 -1", "returned 4: -2147483647"},
		{"rem", "7 2", "returned 4: 1"}, {"rem", "-7 2", "returned 4: -1"}, {"rem", "7 -2", "returned 4: 1"}, {"rem", "2 7", "returned 4: 2"}, {"rem", "7 0", "thrown 3: NumError"}, {"rem", "-2147483648 -1", "returned 4: 0"}, {"rem", "-2147483648 0", "thrown 3: NumError"},
	} {
		ended(t, [4]string{two, "load 0 ; load 1 ; " + c[0] + " ; ret ;", c[1], c[2]})
	}
	one := "( int ) int locals 1"
	ended(t,
		[4]string{one, "load 0 ; neg ; ret ;", "7", "returned 3: -7"}, [4]string{one, "load 0 ; neg ; ret ;", "0", "returned 3: 0"}, [4]string{one, "load 0 ; neg ; ret ;", "-2147483648", "thrown 2: NumError"}, [4]string{one, "load 0 ; neg ; ret ;", "2147483647", "returned 3: -2147483647"}, [4]string{one, "load 0 ; neg ; ret ;", "-2147483647", "returned 3: 2147483647"},
	)
	// what lies below them stays
	left(t, [4]string{two, "const 9 ; load 0 ; load 1 ; sub ; ret ;", "5 7", "runs 4: 0 ; - 0 - - 0 > T.t 4 (5 7) 9 -2"}, [4]string{one, "const 9 ; load 0 ; neg ; ret ;", "5", "runs 3: 0 ; - 0 - - 0 > T.t 3 (5) 9 -5"})
}

// Of each jump: for which of these it is taken.
func TestJumpsOfOneNumber(t *testing.T) {
	for word, taken := range map[string]string{"ifeq": "0", "ifne": "-2147483648 -1 1 2147483647", "iflt": "-2147483648 -1", "ifge": "0 1 2147483647"} {
		for _, n := range strings.Fields("-2147483648 -1 0 1 2147483647") {
			want := "0"
			if strings.Contains(" "+taken+" ", " "+n+" ") {
				want = "1"
			}
			ended(t, [4]string{"( int ) int locals 1", "load 0 ; " + word + " 4 ; const 0 ; ret ; const 1 ; ret ;", n, "returned 4: " + want})
		}
	}
}

func TestJumpsOfTwoNumbers(t *testing.T) {
	for word, taken := range map[string]string{"cmpeq": "=", "cmpne": "< >", "cmplt": "<", "cmpge": "= >"} {
		for _, c := range []string{"< -2147483648 2147483647", "> 2147483647 -2147483648", "= -2147483648 -2147483648", "= 2147483647 2147483647", "< -1 0", "> 0 -1", "= 0 0", "< 0 1", "> 1 0", "< -2 -1", "> -1 -2", "= 7 7", "< 2147483646 2147483647", "> -2147483647 -2147483648"} {
			want := "0"
			if strings.Contains(taken, c[:1]) {
				want = "1"
			}
			ended(t, [4]string{"( int , int ) int locals 2", "load 0 ; load 1 ; " + word + " 5 ; const 0 ; ret ; const 1 ; ret ;", c[2:], "returned 5: " + want})
		}
	}
}

func TestJumpsOfReferences(t *testing.T) {
	one, two := "( Object ) int locals 1", "( Object , Object ) int locals 2"
	ifs, both := " 4 ; const 0 ; ret ; const 1 ; ret ;", " 5 ; const 0 ; ret ; const 1 ; ret ;"
	a, alike := "@0 | Other 0", "@0 @1 | Other 0 | Other 0"
	ended(t,
		[4]string{one, "load 0 ; ifnull" + ifs, "-", "returned 4: 1"}, [4]string{one, "load 0 ; ifnull" + ifs, a, "returned 4: 0"}, [4]string{one, "load 0 ; ifref" + ifs, "-", "returned 4: 0"}, [4]string{one, "load 0 ; ifref" + ifs, a, "returned 4: 1"},
		[4]string{two, "load 0 ; load 1 ; same" + both, "- -", "returned 5: 1"}, [4]string{two, "load 0 ; load 1 ; same" + both, "@0 @0 | Other 0", "returned 5: 1"}, [4]string{two, "load 0 ; load 1 ; same" + both, alike, "returned 5: 0"}, [4]string{two, "load 0 ; load 1 ; same" + both, "- @0 | Other 0", "returned 5: 0"}, [4]string{two, "load 0 ; load 1 ; same" + both, "@0 - | Other 0", "returned 5: 0"},
		[4]string{two, "load 0 ; load 1 ; other" + both, "- -", "returned 5: 0"}, [4]string{two, "load 0 ; load 1 ; other" + both, "@0 @0 | Other 0", "returned 5: 0"}, [4]string{two, "load 0 ; load 1 ; other" + both, alike, "returned 5: 1"}, [4]string{two, "load 0 ; load 1 ; other" + both, "- @0 | Other 0", "returned 5: 1"},
		[4]string{two, "load 0 ; load 1 ; other" + both, "@0 - | Other 0", "returned 5: 1"},
	)
}

func TestWhereJumpsLead(t *testing.T) {
	ended(t, [4]string{"( ) int locals 0", "goto 3 ; const 1 ; ret ; const 2 ; ret ;", "", "returned 3: 2"}, [4]string{"( int ) int locals 1", "goto 3 ; const 1 ; ret ; load 0 ; ifeq 1 ; const -1 ; load 0 ; add ; store 0 ; goto 3 ;", "3", "returned 26: 1"})
	// to itself, to the next place, to the first, to the last
	left(t,
		[4]string{"( ) void locals 0", "nop ; goto 1 ;", "", "runs 9: 0 ; - 0 - - 0 > T.t 1 () "}, [4]string{"( ) void locals 0", "nop ; goto 2 ; leave ;", "", "runs 2: 0 ; - 0 - - 0 > T.t 2 () "}, [4]string{"( ) void locals 0", "nop ; const 1 ; ifne 0 ; leave ;", "", "runs 3: 0 ; - 0 - - 0 > T.t 0 () "}, [4]string{"( ) void locals 0", "goto 4 ; nop ; leave ; leave ; goto 1 ;", "", "runs 1: 0 ; - 0 - - 0 > T.t 4 () "},
		[4]string{"( ) void locals 0", "goto 4 ; nop ; leave ; leave ; goto 1 ;", "", "returned 4: 0 ; - 0 - - 0"},
		// what lies below what is taken stays
		[4]string{"( int ) int locals 1", "const 5 ; load 0 ; const 3 ; cmplt 4 ; ret ;", "1", "runs 4: 0 ; - 0 - - 0 > T.t 4 (1) 5"}, [4]string{"( int ) int locals 1", "const 5 ; load 0 ; ifeq 3 ; ret ;", "0", "runs 3: 0 ; - 0 - - 0 > T.t 3 (0) 5"}, [4]string{"( int ) int locals 1", "const 5 ; null ; ifnull 3 ; ret ;", "0", "runs 3: 0 ; - 0 - - 0 > T.t 3 (0) 5"}, [4]string{"( int ) int locals 1", "const 5 ; null ; null ; same 4 ; ret ;", "0", "runs 4: 0 ; - 0 - - 0 > T.t 4 (0) 5"},
	)
}

func TestEnds(t *testing.T) {
	left(t,
		[4]string{"( ) void locals 0", "leave ;", "", "returned 1: 0 ; - 0 - - 0"}, [4]string{"( Base ) Base locals 1", "load 0 ; ret ;", "@1 | Base 1 - | Base 2 @0", "returned 2: @1 | Base 1 - | Base 2 @0 ; - 0 - - 0"}, [4]string{"( Base ) Base locals 1", "load 0 ; ret ;", "-", "returned 2: - ; - 0 - - 0"},
		// what else lies on the stack goes with the frame
		[4]string{"( ) int locals 0", "const 4 ; null ; const 5 ; ret ;", "", "returned 4: 5 ; - 0 - - 0"}, [4]string{"( ) void locals 0", "const 4 ; null ; leave ;", "", "returned 3: 0 ; - 0 - - 0"},
		// above another frame
		[4]string{"( ) int locals 1", "const 3 ; const 9 ; func Base half ; sub ; ret ;", "", "runs 6: 0 ; - 0 - - 0 > T.t 2 (0) 3 > Base.half 3 (9 0) 4"}, [4]string{"( ) int locals 1", "const 3 ; const 9 ; func Base half ; sub ; ret ;", "", "runs 7: 0 ; - 0 - - 0 > T.t 3 (0) 3 4"},
		[4]string{"( ) void locals 1", "const 3 ; func Base back ; leave ;", "", "runs 2: 0 ; - 0 - - 0 > T.t 1 (0) 3 > Base.back 0 (0) "}, [4]string{"( ) void locals 1", "const 3 ; func Base back ; leave ;", "", "runs 3: 0 ; - 0 - - 0 > T.t 2 (0) 3"}, [4]string{"( ) void locals 1", "const 3 ; func Base back ; leave ;", "", "returned 4: 0 ; - 0 - - 0"},
	)
}
