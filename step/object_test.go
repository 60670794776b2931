package step

import (
	"strings"
	"testing"

	"delver/api"
)

func TestNewObjects(t *testing.T) {
	left(t,
		[4]string{"( ) void locals 0", "new Base ; new Grand ; leave ;", "", "runs 2: 0 | Base 0 - | Grand 0 - 0 - - ; - 0 - - 0 > T.t 2 () @0 @1"}, [4]string{"( Other ) void locals 1", "new Object ; new T ; leave ;", "@0 | Other 7", "runs 2: 0 | Other 7 | Object | T ; - 0 - - 0 > T.t 2 (@0) @1 @2"},
		[4]string{"( ) void locals 0", "new Worse ; new NumError ; new Error ; leave ;", "", "runs 3: 0 | Worse 0 | NumError | Error ; - 0 - - 0 > T.t 3 () @0 @1 @2"},
		// each is another one
		[4]string{"( ) void locals 0", "new Base ; dup ; const 5 ; put Base x ; new Base ; leave ;", "", "runs 5: 0 | Base 5 - | Base 0 - ; - 0 - - 0 > T.t 5 () @0 @1"}, [4]string{"( ) void locals 0", "new Base ; pop ; goto 0 ;", "", "runs 7: 0 | Base 0 - | Base 0 - | Base 0 - ; - 0 - - 0 > T.t 1 () @2"},
	)
}

func TestGetAndPut(t *testing.T) {
	grand := "@0 | Grand 1 @0 3 - @1 | Base 6 -"
	ended(t,
		[4]string{"( Base ) int locals 1", "load 0 ; get Base x ; ret ;", grand, "returned 3: 1"}, [4]string{"( Grand ) int locals 1", "load 0 ; get Kid x ; ret ;", grand, "returned 3: 1"}, [4]string{"( Grand ) int locals 1", "load 0 ; get Grand y ; ret ;", grand, "returned 3: 3"}, [4]string{"( Kid ) int locals 1", "load 0 ; get Kid y ; ret ;", grand, "returned 3: 3"},
		[4]string{"( Grand ) Base locals 1", "load 0 ; get Grand z ; ret ;", grand, "returned 3: @1"}, [4]string{"( Grand ) Base locals 1", "load 0 ; get Base next ; ret ;", grand, "returned 3: @0"}, [4]string{"( Grand ) int [ ] locals 1", "load 0 ; get Grand r ; ret ;", grand, "returned 3: -"}, [4]string{"( Other ) int locals 1", "load 0 ; get Other x ; ret ;", "@0 | Other 5", "returned 3: 5"},
		// null
		[4]string{"( Base ) int locals 1", "load 0 ; get Base x ; ret ;", "-", "thrown 2: NullError"}, [4]string{"( ) int locals 0", "null ; get Grand z ; get Base x ; ret ;", "", "thrown 2: NullError"}, [4]string{"( Grand ) int locals 1", "load 0 ; get Grand z ; get Base next ; get Base x ; ret ;", grand, "thrown 4: NullError"},
		[4]string{"( Base ) int locals 1", "load 0 ; const 5 ; put Base x ; const 0 ; ret ;", "-", "thrown 3: NullError"}, [4]string{"( Base ) int locals 1", "load 0 ; null ; put Base next ; const 0 ; ret ;", "-", "thrown 3: NullError"},
	)
	left(t,
		[4]string{"( Base ) void locals 1", "const 4 ; load 0 ; const 5 ; put Base x ; leave ;", grand, "runs 4: 0 | Grand 5 @0 3 - @1 | Base 6 - ; - 0 - - 0 > T.t 4 (@0) 4"}, [4]string{"( Grand ) void locals 1", "load 0 ; load 0 ; get Grand z ; put Base next ; leave ;", grand, "runs 4: 0 | Grand 1 @1 3 - @1 | Base 6 - ; - 0 - - 0 > T.t 4 (@0) "},
		[4]string{"( Grand ) void locals 1", "load 0 ; null ; put Kid r ; load 0 ; const 7 ; put Grand y ; load 0 ; null ; put Grand z ; leave ;", "@0 | Grand 1 @0 3 @1 @0 | int[] 5", "runs 9: 0 | Grand 1 @0 7 - - | int[] 5 ; - 0 - - 0 > T.t 9 (@0) "}, [4]string{"( Grand ) void locals 1", "const 4 ; load 0 ; get Kid y ; leave ;", grand, "runs 3: 0 | Grand 1 @0 3 - @1 | Base 6 - ; - 0 - - 0 > T.t 3 (@0) 4 3"},
	)
}

// Statics are of the class that has them: one of the same name is another one, and a class above has its own.
func TestStatics(t *testing.T) {
	left(t,
		[4]string{"( Base ) void locals 1", "load 0 ; puts T it ; leave ;", "@0 | Base 0 -", "runs 2: 0 | Base 0 - ; @0 0 - - 0 > T.t 2 (@0) "}, [4]string{"( ) void locals 0", "const 4 ; puts Base count ; const 5 ; puts Kid count ; gets Base count ; gets Kid count ; leave ;", "", "runs 6: 0 ; - 4 - - 5 > T.t 6 () 4 5"},
		[4]string{"( ) void locals 0", "gets T it ; gets Base count ; gets Base first ; gets Kid own ; leave ;", "", "runs 4: 0 ; - 0 - - 0 > T.t 4 () - 0 - -"}, [4]string{"( Kid ) Base locals 1", "load 0 ; puts Base first ; load 0 ; puts Kid own ; gets Base first ; ret ;", "@0 | Kid 0 - 0 -", "returned 6: @0 | Kid 0 - 0 - ; - 0 @0 @0 0"},
	)
	p := read(t, "class Low extends High { static a : int ; function t ( ) int locals 0 { const 7 ; puts High b ; const 8 ; puts Low a ; const 9 ; puts High a ; gets High b ; ret ; } } class High { field f : int ; static a : int ; static b : int ; }")
	r, e := After(p, "Low", "t", api.Input{}, 100)
	if got := told(r); got != "returned 8: 7 ; 8 9 7" || e != api.OK {
		t.Error(got, e)
	}
}

func TestNewRows(t *testing.T) {
	for word, of := range map[string][2]string{"ints": {"int", "0"}, "refs Base": {"Base", "-"}, "refs Object": {"Object", "-"}, "refs Has": {"Has", "-"}, "refs NumError": {"NumError", "-"}} {
		for n, want := range map[string]int{"0": 0, "1": 1, "3": 3, "4": 4, "6": 6} {
			slots := strings.TrimRight(" "+strings.Repeat(of[1]+" ", want), " ")
			left(t, [4]string{"( int ) void locals 1", "const 9 ; load 0 ; " + word + " ; leave ;", n, "runs 3: 0 | " + of[0] + "[]" + slots + " ; - 0 - - 0 > T.t 3 (" + n + ") 9 @0"})
		}
		for _, n := range []string{"-2147483648", "-2", "-1", "7", "8", "2147483647"} {
			left(t, [4]string{"( int ) void locals 1", "const 9 ; load 0 ; " + word + " ; leave ;", n, "thrown 3: @0 | SizeError ; - 0 - - 0"})
		}
	}
}

func TestLen(t *testing.T) {
	ended(t,
		[4]string{"( int [ ] ) int locals 1", "load 0 ; len ; ret ;", "@0 | int[]", "returned 3: 0"}, [4]string{"( int [ ] ) int locals 1", "load 0 ; len ; ret ;", "@0 | int[] 7 8 9", "returned 3: 3"}, [4]string{"( Base [ ] ) int locals 1", "load 0 ; len ; ret ;", "@0 | Base[] - -", "returned 3: 2"}, [4]string{"( int ) int locals 1", "load 0 ; ints ; len ; ret ;", "6", "returned 4: 6"},
		[4]string{"( int [ ] ) int locals 1", "load 0 ; len ; ret ;", "-", "thrown 2: NullError"}, [4]string{"( Base [ ] ) int locals 1", "load 0 ; len ; ret ;", "-", "thrown 2: NullError"},
	)
}

// Each place of a row of three and of an empty one, in it and beyond it.
func TestPlacesOfRows(t *testing.T) {
	for _, c := range [][4]string{
		{"int[] 7 8 9", "0", "7", "int[] 5 8 9"}, {"int[] 7 8 9", "1", "8", "int[] 7 5 9"}, {"int[] 7 8 9", "2", "9", "int[] 7 8 5"}, {"int[] 7", "0", "7", "int[] 5"},
		{"int[] 7 8 9", "3", "", ""}, {"int[] 7 8 9", "-1", "", ""}, {"int[] 7 8 9", "4", "", ""}, {"int[] 7 8 9", "2147483647", "", ""}, {"int[] 7 8 9", "-2147483648", "", ""}, {"int[]", "0", "", ""}, {"int[]", "-1", "", ""}, {"int[]", "1", "", ""}, {"int[] 7", "1", "", ""},
	} {
		in, at := "@0 "+c[1]+" | "+c[0], "returned 4: "+c[2]+" | "+c[0]+" ; - 0 - - 0"
		set := "runs 4: 0 | " + c[3] + " ; - 0 - - 0 > T.t 4 (@0 " + c[1] + ") "
		if c[2] == "" {
			at = "thrown 3: @1 | " + c[0] + " | RangeError ; - 0 - - 0"
			set = "thrown 4: @1 | " + c[0] + " | RangeError ; - 0 - - 0"
		}
		left(t, [4]string{"( int [ ] , int ) int locals 2", "load 0 ; load 1 ; at ; ret ;", in, at}, [4]string{"( int [ ] , int ) void locals 2", "load 0 ; load 1 ; const 5 ; set ; leave ;", in, set})
	}
	for _, n := range []string{"-1", "0", "1"} {
		left(t, [4]string{"( int [ ] , int ) int locals 2", "load 0 ; load 1 ; at ; ret ;", "- " + n, "thrown 3: @0 | NullError ; - 0 - - 0"}, [4]string{"( int [ ] , int ) void locals 2", "load 0 ; load 1 ; const 5 ; set ; leave ;", "- " + n, "thrown 4: @0 | NullError ; - 0 - - 0"})
		left(t, [4]string{"( Base [ ] , int ) Base locals 2", "load 0 ; load 1 ; at ; ret ;", "- " + n, "thrown 3: @0 | NullError ; - 0 - - 0"}, [4]string{"( Base [ ] , int ) void locals 2", "load 0 ; load 1 ; null ; set ; leave ;", "- " + n, "thrown 4: @0 | NullError ; - 0 - - 0"})
	}
}

func TestElementsOfReferences(t *testing.T) {
	row := "@0 | Base[] @1 - @1 | Kid 4 - 5 -"
	left(t,
		[4]string{"( Base [ ] ) Base locals 1", "const 3 ; load 0 ; const 2 ; at ; ret ;", row, "runs 4: 0" + row[2:] + " ; - 0 - - 0 > T.t 4 (@0) 3 @1"}, [4]string{"( Base [ ] ) Base locals 1", "load 0 ; const 1 ; at ; ret ;", row, "returned 4: -" + row[2:] + " ; - 0 - - 0"}, [4]string{"( Base [ ] ) Base locals 1", "load 0 ; const 3 ; at ; ret ;", row, "thrown 3: @2" + row[2:] + " | RangeError ; - 0 - - 0"},
		[4]string{"( Base [ ] ) void locals 1", "const 3 ; load 0 ; const 1 ; load 0 ; const 0 ; at ; set ; leave ;", row, "runs 7: 0 | Base[] @1 @1 @1 | Kid 4 - 5 - ; - 0 - - 0 > T.t 7 (@0) 3"}, [4]string{"( Base [ ] ) void locals 1", "load 0 ; const 0 ; null ; set ; leave ;", row, "runs 4: 0 | Base[] - - @1 | Kid 4 - 5 - ; - 0 - - 0 > T.t 4 (@0) "}, [4]string{"( Base [ ] ) void locals 1", "load 0 ; const 0 ; new Grand ; set ; leave ;", row, "runs 4: 0 | Base[] @2 - @1 | Kid 4 - 5 - | Grand 0 - 0 - - ; - 0 - - 0 > T.t 4 (@0) "},
	)
	// a row that a program makes may be longer than one of an input
	ended(t, [4]string{"( ) int locals 1", "const 6 ; ints ; store 0 ; load 0 ; const 5 ; const 3 ; set ; load 0 ; const 5 ; at ; ret ;", "", "returned 11: 3"}, [4]string{"( ) int locals 0", "const 6 ; ints ; const 6 ; at ; ret ;", "", "thrown 4: RangeError"}, [4]string{"( ) Base locals 0", "const 6 ; refs Base ; const 6 ; at ; ret ;", "", "thrown 4: RangeError"})
}

// A reference of each kind and a name: whether it is one, and may be cast.
func TestIsAndCast(t *testing.T) {
	for _, c := range []struct{ in, are, not string }{
		{"@0 | Kid 0 - 0 -", "Object Base Kid Has More", "Grand Other Oops NumError T Error"}, {"@0 | Base 0 -", "Object Base", "Kid Grand Has More Other Error"}, {"@0 | Grand 0 - 0 - -", "Object Base Kid Grand Has More", "Other T"}, {"@0 | Other 0", "Object Other", "Base Has T"}, {"@0 | Worse 0", "Object Error NumError Oops Worse", "NullError Base Has"}, {"@0 | T", "Object T", "Base"},
	} {
		for _, name := range strings.Fields(c.are) {
			ended(t, [4]string{"( Object ) int locals 1", "load 0 ; is " + name + " ; ret ;", c.in, "returned 3: 1"}, [4]string{"( Object ) Object locals 1", "load 0 ; cast " + name + " ; ret ;", c.in, "returned 3: @0"}, [4]string{"( Object ) int locals 1", "load 0 ; is " + name + " ; ret ;", "-", "returned 3: 0"}, [4]string{"( Object ) Object locals 1", "load 0 ; cast " + name + " ; ret ;", "-", "returned 3: -"})
		}
		for _, name := range strings.Fields(c.not) {
			ended(t, [4]string{"( Object ) int locals 1", "load 0 ; is " + name + " ; ret ;", c.in, "returned 3: 0"}, [4]string{"( Object ) Object locals 1", "load 0 ; cast " + name + " ; ret ;", c.in, "thrown 2: CastError"})
			ended(t, [4]string{"( Object ) Object locals 1", "load 0 ; cast " + name + " ; ret ;", "-", "returned 3: -"})
		}
	}
}

func TestIsAndCastOfRows(t *testing.T) {
	for head, in := range map[string]string{"( int [ ] )": "@0 | int[] 1", "( Base [ ] )": "@0 | Base[] -", "( Kid [ ] )": "@0 | Kid[]", "( Object [ ] )": "@0 | Object[]", "( Has [ ] )": "@0 | Has[]"} {
		ended(t, [4]string{head + " int locals 1", "load 0 ; is Object ; ret ;", in, "returned 3: 1"}, [4]string{head + " Object locals 1", "load 0 ; cast Object ; ret ;", in, "returned 3: @0"}, [4]string{head + " int locals 1", "load 0 ; is Object ; ret ;", "-", "returned 3: 0"})
		for _, name := range strings.Fields("Base Kid Has Error T") {
			ended(t, [4]string{head + " int locals 1", "load 0 ; is " + name + " ; ret ;", in, "returned 3: 0"}, [4]string{head + " Object locals 1", "load 0 ; cast " + name + " ; ret ;", in, "thrown 2: CastError"}, [4]string{head + " Object locals 1", "load 0 ; cast " + name + " ; ret ;", "-", "returned 3: -"})
		}
	}
	left(t,
		[4]string{"( Base [ ] ) int locals 1", "const 4 ; load 0 ; is Base ; ret ;", "@0 | Base[]", "runs 3: 0 | Base[] ; - 0 - - 0 > T.t 3 (@0) 4 0"}, [4]string{"( Base ) int locals 1", "const 4 ; load 0 ; cast Kid ; get Kid y ; ret ;", "@0 | Kid 0 - 6 -", "runs 3: 0 | Kid 0 - 6 - ; - 0 - - 0 > T.t 3 (@0) 4 @0"},
		[4]string{"( Base ) int locals 1", "const 4 ; load 0 ; cast Kid ; get Kid y ; ret ;", "@0 | Base 0 -", "thrown 3: @1 | Base 0 - | CastError ; - 0 - - 0"},
	)
}

func TestCalls(t *testing.T) {
	f := "load 0 ; const 5 ; call "
	for _, c := range [][4]string{
		{"Base", "Base f", "Base 0 -", "6"}, {"Base", "Base f", "Kid 0 - 0 -", "10"}, {"Base", "Base f", "Grand 0 - 0 - -", "10"}, {"Kid", "Base f", "Kid 0 - 0 -", "10"}, {"Kid", "Kid f", "Grand 0 - 0 - -", "10"}, {"Has", "Has f", "Kid 0 - 0 -", "10"}, {"More", "Has f", "Grand 0 - 0 - -", "10"}, {"More", "More f", "Kid 0 - 0 -", "10"}, {"Other", "Other f", "Other 0", "0"}, {"Grand", "Has f", "Grand 0 - 0 - -", "10"},
	} {
		head := "( " + c[0] + " ) int locals 1"
		steps := "returned 8: "
		if c[3] == "0" {
			steps = "returned 6: "
		}
		ended(t, [4]string{head, f + c[1] + " ; ret ;", "@0 | " + c[2], steps + c[3]}, [4]string{head, f + c[1] + " ; ret ;", "-", "thrown 3: NullError"})
	}
	ended(t, [4]string{"( Kid ) int locals 1", "load 0 ; const 7 ; const 4 ; call Base g ; ret ;", "@0 | Grand 5 - 0 - -", "returned 12: 15"}, [4]string{"( ) int locals 0", "null ; const 7 ; const 4 ; call Kid g ; ret ;", "", "thrown 4: NullError"}, [4]string{"( More ) void locals 1", "load 0 ; call More h ; leave ;", "-", "thrown 2: NullError"})
	kid := "@0 | Kid 5 - 0 -"
	left(t,
		// whose it is, its locals, the caller's place
		[4]string{"( Base ) int locals 2", "const 2 ; load 0 ; const 7 ; const 4 ; call Base g ; add ; ret ;", kid, "runs 5: 0" + kid[2:] + " ; - 0 - - 0 > T.t 4 (@0 0) 2 > Base.g 0 (@0 7 4 0) "}, [4]string{"( Base ) int locals 2", "const 2 ; load 0 ; const 7 ; const 4 ; call Base g ; add ; ret ;", kid, "runs 12: 0" + kid[2:] + " ; - 0 - - 0 > T.t 5 (@0 0) 2 15"},
		[4]string{"( Base ) int locals 2", "load 0 ; const 4 ; call Base f ; ret ;", kid, "runs 3: 0" + kid[2:] + " ; - 0 - - 0 > T.t 2 (@0 0)  > Kid.f 0 (@0 4 0) "}, [4]string{"( Has ) int locals 1", "load 0 ; const 4 ; call Has f ; ret ;", "@0 | Grand 0 - 0 - -", "runs 3: 0 | Grand 0 - 0 - - ; - 0 - - 0 > T.t 2 (@0)  > Kid.f 0 (@0 4 0) "},
		[4]string{"( More ) void locals 1", "const 1 ; load 0 ; call More h ; leave ;", kid, "runs 3: 0" + kid[2:] + " ; - 0 - - 0 > T.t 2 (@0) 1 > Base.h 0 (@0) "}, [4]string{"( More ) void locals 1", "const 1 ; load 0 ; call More h ; leave ;", kid, "runs 7: 0 | Kid 9 - 0 - ; - 0 - - 0 > T.t 3 (@0) 1"}, [4]string{"( More ) void locals 1", "const 1 ; load 0 ; call More h ; leave ;", "@0 | Grand 5 - 0 - -", "runs 7: 0 | Grand 8 - 0 - - ; - 0 - - 0 > T.t 3 (@0) 1"},
	)
}

func TestFunctions(t *testing.T) {
	ended(t, [4]string{"( int ) int locals 1", "load 0 ; func Base half ; ret ;", "9", "returned 7: 4"}, [4]string{"( int ) int locals 1", "load 0 ; func Grand half ; ret ;", "9", "returned 7: 4"}, [4]string{"( Base ) int locals 1", "load 0 ; func Kid bad ; ret ;", "-", "thrown 4: NullError"}, [4]string{"( ) void locals 0", "func Base back ; leave ;", "", "returned 3: 0"})
	left(t,
		[4]string{"( int ) int locals 1", "const 2 ; load 0 ; func Base half ; add ; ret ;", "9", "runs 3: 0 ; - 0 - - 0 > T.t 2 (9) 2 > Base.half 0 (9 0) "}, [4]string{"( int ) int locals 1", "const 2 ; load 0 ; func Grand half ; add ; ret ;", "9", "runs 3: 0 ; - 0 - - 0 > T.t 2 (9) 2 > Base.half 0 (9 0) "}, [4]string{"( int ) int locals 1", "const 2 ; load 0 ; func Grand half ; add ; ret ;", "9", "runs 7: 0 ; - 0 - - 0 > T.t 3 (9) 2 4"},
		[4]string{"( ) void locals 1", "const 2 ; func Kid back ; leave ;", "", "runs 2: 0 ; - 0 - - 0 > T.t 1 (0) 2 > Base.back 0 (0) "},
	)
	// four parameters, in their order
	p := read(t, "class A { function t ( int , A ) int locals 2 { const 9 ; load 0 ; load 1 ; const 8 ; null ; func A u ; sub ; ret ; } function u ( int , A , int , A ) int locals 6 { load 2 ; ret ; } }")
	r, e := After(p, "A", "t", inputOf("5 @0 | A"), 6)
	if got := told(r); got != "runs 6: 0 | A ;  > A.t 5 (5 @0) 9 > A.u 0 (5 @0 8 - 0 0) " || e != api.OK {
		t.Error(got, e)
	}
	checkAsPlain(t, p, "A", "t", inputOf("5 @0 | A"), 20)
}

// A call of a method that the class of a super has, and which one under it writes over, goes by the object's class, in a
// method of the super itself too.
func TestCallsFromAbove(t *testing.T) {
	p := read(t, "class A { method m ( ) int locals 1 { load 0 ; call A n ; ret ; } method n ( ) int locals 1 { const 1 ; ret ; } function t ( A ) int locals 1 { load 0 ; call A m ; ret ; } } class C extends B { } class B extends A { method n ( ) int locals 2 { const 2 ; ret ; } }")
	for class, want := range map[string]string{"A": "returned 8: 1 | A ; ", "B": "returned 8: 2 | B ; ", "C": "returned 8: 2 | C ; "} {
		r, e := After(p, "A", "t", inputOf("@0 | "+class), 99)
		if got := told(r); got != want || e != api.OK {
			t.Error(class, got, e)
		}
		checkAsPlain(t, p, "A", "t", inputOf("@0 | "+class), 10)
	}
}
