package step

import (
	"strconv"
	"strings"
	"testing"

	"delver/api"
)

// What an instruction throws stands at the heap's end, behind what was there.
func TestWhatIsThrownStandsAtTheEnd(t *testing.T) {
	kid := "@0 | Kid 5 - 0 -"
	left(t,
		[4]string{"( Kid ) void locals 1", "new Other ; const 1 ; const 0 ; div ; leave ;", kid, "thrown 4: @2" + kid[2:] + " | Other 0 | NumError ; - 0 - - 0"},
		[4]string{"( Kid ) void locals 1", "load 0 ; get Kid r ; len ; leave ;", kid, "thrown 3: @1" + kid[2:] + " | NullError ; - 0 - - 0"},
		[4]string{"( Kid ) void locals 1", "const 7 ; ints ; leave ;", kid, "thrown 2: @1" + kid[2:] + " | SizeError ; - 0 - - 0"},
		[4]string{"( Kid ) void locals 1", "load 0 ; cast Grand ; leave ;", kid, "thrown 2: @1" + kid[2:] + " | CastError ; - 0 - - 0"},
		// one for each that is thrown
		[4]string{"( Kid ) void locals 1", "null ; call Base h ; leave ; pop ; goto 0 ; catch Error 0 2 3 ;", kid, "runs 6: 0" + kid[2:] + " | NullError | NullError ; - 0 - - 0 > T.t 3 (@0) @2"},
	)
}

func TestThrow(t *testing.T) {
	left(t,
		[4]string{"( Oops ) void locals 1", "load 0 ; throw ;", "@0 | Worse 4", "thrown 2: @0 | Worse 4 ; - 0 - - 0"}, [4]string{"( Oops ) void locals 1", "load 0 ; throw ;", "-", "thrown 2: @0 | NullError ; - 0 - - 0"}, [4]string{"( ) void locals 0", "null ; throw ;", "", "thrown 2: @0 | NullError ; - 0 - - 0"},
		[4]string{"( ) void locals 0", "new Other ; new Error ; throw ;", "", "thrown 3: @1 | Other 0 | Error ; - 0 - - 0"}, [4]string{"( ) int locals 0", "const 4 ; new DepthError ; throw ;", "", "thrown 3: @0 | DepthError ; - 0 - - 0"},
		// what is thrown is caught as it is, and may be thrown again
		[4]string{"( Oops ) void locals 1", "load 0 ; throw ; throw ; catch Oops 0 2 2 ;", "@0 | Worse 4", "runs 2: 0 | Worse 4 ; - 0 - - 0 > T.t 2 (@0) @0"}, [4]string{"( Oops ) void locals 1", "load 0 ; throw ; throw ; catch Oops 0 2 2 ;", "@0 | Worse 4", "thrown 3: @0 | Worse 4 ; - 0 - - 0"},
		[4]string{"( Oops ) void locals 1", "load 0 ; throw ; throw ; catch NullError 0 2 2 ;", "-", "runs 2: 0 | NullError ; - 0 - - 0 > T.t 2 (-) @0"},
	)
}

// reach is a method of six places that throws at place 3; its catch reaches so far.
func reach(class string, from, to int) [2]string {
	return [2]string{"( ) int locals 0", "nop ; nop ; const 0 ; ints ; len ; ret ; pop ; const 9 ; ret ; catch " + class + " " + strconv.Itoa(from) + " " + strconv.Itoa(to) + " 6 ;"}
}

// The first and the last place of a catch's reach, and one beyond each: place 3 throws.
func TestReachOfCatches(t *testing.T) {
	for from := range 6 {
		for to := from + 1; to <= 9; to++ {
			m := reach("SizeError", from, to)
			code := strings.Replace(m[1], "const 0", "const 7", 1)
			want := "thrown 4: SizeError"
			if from <= 3 && 3 < to {
				want = "returned 7: 9"
			}
			if from <= 5 && to > 6 {
				to = 9 // what is caught is within the reach, too: it throws nothing
			}
			ended(t, [4]string{m[0], code, "", want})
		}
	}
	// at the first place and at the last one, which is what is caught itself
	ended(t, [4]string{"( Oops ) int locals 1", "load 0 ; throw ; pop ; const 9 ; ret ; catch Error 1 2 2 ;", "@0 | Oops 0", "returned 5: 9"}, [4]string{"( Oops ) int locals 1", "load 0 ; throw ; pop ; const 9 ; ret ; catch Error 0 1 2 ;", "@0 | Oops 0", "thrown 2: Oops"}, [4]string{"( Oops ) int locals 1", "load 0 ; throw ; pop ; const 9 ; ret ; catch Error 2 5 2 ;", "@0 | Oops 0", "thrown 2: Oops"})
	left(t,
		[4]string{"( ) void locals 0", "null ; throw ; catch NullError 0 2 1 ;", "", "runs 2: 0 | NullError ; - 0 - - 0 > T.t 1 () @0"}, [4]string{"( ) void locals 0", "null ; throw ; catch NullError 0 2 1 ;", "", "runs 9: 0 | NullError ; - 0 - - 0 > T.t 1 () @0"}, [4]string{"( ) void locals 0", "null ; throw ; catch Oops 0 2 1 ;", "", "thrown 2: @0 | NullError ; - 0 - - 0"},
	)
}

// A catch whose Name is the object's class, is above it, is beside it, is under it.
func TestNamesOfCatches(t *testing.T) {
	for _, c := range []struct{ in, caught, not string }{
		{"@0 | Oops 0", "Oops NumError Error", "Worse NullError RangeError DepthError"}, {"@0 | Worse 0", "Worse Oops NumError Error", "CastError SizeError"}, {"-", "NullError Error", "NumError Oops Worse RangeError CastError SizeError DepthError"},
	} {
		for _, name := range strings.Fields(c.caught) {
			ended(t, [4]string{"( Oops ) int locals 1", "load 0 ; throw ; pop ; const 9 ; ret ; catch " + name + " 0 2 2 ;", c.in, "returned 5: 9"})
		}
		for _, name := range strings.Fields(c.not) {
			want := "thrown 2: NullError"
			if c.in != "-" {
				want = "thrown 2: " + strings.Fields(c.in)[2]
			}
			ended(t, [4]string{"( Oops ) int locals 1", "load 0 ; throw ; pop ; const 9 ; ret ; catch " + name + " 0 2 2 ;", c.in, want})
		}
	}
}

// Each class of what instructions throw, caught by its own name alone.
func TestEachClassIsCaught(t *testing.T) {
	causes := map[string]string{"NumError": "const 1 ; const 0 ; rem ; pop ;", "NullError": "null ; call Base h ; nop ; nop ;", "RangeError": "const 0 ; ints ; const 0 ; at ;", "CastError": "new Other ; cast Base ; pop ; nop ;", "SizeError": "const -1 ; ints ; pop ; nop ;", "DepthError": "func T t ; pop ; nop ; nop ;"}
	for class, code := range causes {
		for name := range causes {
			got := end(t, "( ) int locals 0", code+" const 1 ; ret ; pop ; const 9 ; ret ; catch "+name+" 0 4 6 ;", "")
			caught := strings.HasSuffix(got, ": 9") || strings.HasSuffix(got, ": 1") // the frame above it that caught it returned
			if caught != (name == class) || !caught && !strings.HasSuffix(got, ": "+class) {
				t.Error(class, name, got)
			}
		}
	}
}

// The first of a method's catches that fits is taken, whatever the others say.
func TestOrderOfCatches(t *testing.T) {
	code := "load 0 ; throw ; pop ; const 1 ; ret ; pop ; const 2 ; ret ; pop ; const 3 ; ret ; "
	oops := "@0 | Oops 0"
	for _, c := range [][2]string{
		{"catch Oops 0 2 2 ; catch Error 0 2 5 ;", "1"}, {"catch Error 0 2 2 ; catch Oops 0 2 5 ;", "1"}, {"catch NullError 0 2 2 ; catch Oops 0 2 5 ; catch Error 0 2 8 ;", "2"}, {"catch Oops 0 1 2 ; catch Oops 2 5 2 ; catch NumError 1 2 5 ; catch Oops 1 2 8 ;", "2"}, {"catch Worse 0 2 2 ; catch NullError 0 2 5 ; catch Oops 0 2 8 ;", "3"}, {"catch Oops 0 2 8 ; catch Oops 0 2 5 ; catch Oops 0 2 2 ;", "3"}, {"catch Oops 1 2 5 ; catch Oops 0 2 2 ;", "2"},
	} {
		ended(t, [4]string{"( Oops ) int locals 1", code + c[0], oops, "returned 5: " + c[1]})
	}
	ended(t, [4]string{"( Oops ) int locals 1", code + "catch Worse 0 2 2 ; catch NullError 0 2 5 ; catch Oops 0 1 8 ;", oops, "thrown 2: Oops"})
}

// Behind a catch the stack holds a reference alone; the locals are as they were at the place that threw.
func TestBehindACatch(t *testing.T) {
	left(t,
		[4]string{"( int ) void locals 2", "const 6 ; store 1 ; const 7 ; null ; load 0 ; const 0 ; div ; leave ; leave ; catch Error 2 7 8 ;", "5", "runs 7: 0 | NumError ; - 0 - - 0 > T.t 8 (5 6) @0"}, [4]string{"( int ) void locals 1", "new Other ; const 0 ; ints ; load 0 ; at ; leave ; pop ; leave ; catch Error 0 8 6 ;", "5", "runs 5: 0 | Other 0 | int[] | RangeError ; - 0 - - 0 > T.t 6 (5) @2"},
		// to a place ahead of it
		[4]string{"( ) void locals 0", "goto 2 ; leave ; null ; dup ; call Base h ; leave ; catch Error 3 5 1 ;", "", "runs 4: 0 | NullError ; - 0 - - 0 > T.t 1 () @0"},
		// what was written ahead of it stays
		[4]string{"( Base ) void locals 1", "load 0 ; const 7 ; put Base x ; const 8 ; puts Base count ; null ; throw ; leave ; catch Error 5 7 7 ;", "@0 | Base 0 -", "runs 7: 0 | Base 7 - | NullError ; - 8 - - 0 > T.t 7 (@0) @1"},
	)
}

// A frame that does not catch goes; one below stands at its call's place.
func TestCatchesInFramesBelow(t *testing.T) {
	bad := "const 4 ; load 0 ; func Base bad ; add ; ret ; "
	left(t,
		[4]string{"( Base ) int locals 1", bad + "pop ; const 5 ; ret ; catch NullError 2 3 5 ;", "-", "runs 4: 0 ; - 0 - - 0 > T.t 2 (-) 4 > Base.bad 1 (-) -"}, [4]string{"( Base ) int locals 1", bad + "pop ; const 5 ; ret ; catch NullError 2 3 5 ;", "-", "runs 5: 0 | NullError ; - 0 - - 0 > T.t 5 (-) @0"}, [4]string{"( Base ) int locals 1", bad + "pop ; const 5 ; ret ; catch NullError 2 3 5 ;", "-", "returned 8: 5 | NullError ; - 0 - - 0"},
		[4]string{"( Base ) int locals 1", bad + "pop ; const 5 ; ret ; catch NullError 0 2 5 ;", "-", "thrown 5: @0 | NullError ; - 0 - - 0"}, [4]string{"( Base ) int locals 1", bad + "pop ; const 5 ; ret ; catch NullError 3 5 5 ;", "-", "thrown 5: @0 | NullError ; - 0 - - 0"}, [4]string{"( Base ) int locals 1", bad + "pop ; const 5 ; ret ; catch Oops 0 5 5 ;", "-", "thrown 5: @0 | NullError ; - 0 - - 0"},
	)
	p := read(t, `class A {
		function t ( ) int locals 0 { const 1 ; func A u ; add ; ret ; pop ; const 10 ; ret ; catch NumError 0 4 4 ; }
		function u ( ) int locals 0 { const 2 ; func A v ; add ; ret ; pop ; const 20 ; ret ; catch NullError 0 4 4 ; catch NumError 0 1 4 ; catch NumError 2 4 4 ; }
		function v ( ) int locals 0 { const 3 ; const 0 ; div ; ret ; pop ; const 30 ; ret ; catch CastError 0 4 4 ; } }`)
	for n, want := range map[int]string{6: "runs 6: 0 ;  > A.t 1 () 1 > A.u 1 () 2 > A.v 2 () 3 0", 7: "runs 7: 0 | NumError ;  > A.t 4 () @0", 10: "returned 10: 10 | NumError ; "} {
		r, e := After(p, "A", "t", api.Input{}, n)
		if told(r) != want || e != api.OK {
			t.Error(n, told(r), e)
		}
	}
	checkAsPlain(t, p, "A", "t", api.Input{}, 20)
}

// As many frames as there may be, and one more.
func TestFramesByFunctions(t *testing.T) {
	// load 0, ifeq, load 0, const, add, func: six steps a frame; the last one three
	down := "load 0 ; ifeq 7 ; load 0 ; const -1 ; add ; func T t ; ret ; const 5 ; ret ;"
	for n := range api.MaxFrames + 2 {
		want := "thrown 48: DepthError"
		if n < api.MaxFrames {
			want = "returned " + strconv.Itoa(7*n+4) + ": 5"
		}
		ended(t, [4]string{"( int ) int locals 1", down, strconv.Itoa(n), want})
	}
	left(t,
		[4]string{"( int ) int locals 1", "load 0 ; func T t ; ret ;", "3", "runs 14: 0 ; - 0 - - 0" + strings.Repeat(" > T.t 1 (3) ", 7) + " > T.t 0 (3) "}, [4]string{"( int ) int locals 1", "load 0 ; func T t ; ret ;", "3", "runs 15: 0 ; - 0 - - 0" + strings.Repeat(" > T.t 1 (3) ", 7) + " > T.t 1 (3) 3"}, [4]string{"( int ) int locals 1", "load 0 ; func T t ; ret ;", "3", "thrown 16: @0 | DepthError ; - 0 - - 0"},
		// it is caught in the last frame, whose instruction throws it
		[4]string{"( int ) int locals 1", "load 0 ; func T t ; ret ; pop ; const 6 ; ret ; catch DepthError 1 2 3 ;", "3", "runs 16: 0 | DepthError ; - 0 - - 0" + strings.Repeat(" > T.t 1 (3) ", 7) + " > T.t 3 (3) @0"}, [4]string{"( int ) int locals 1", "load 0 ; func T t ; ret ; pop ; const 6 ; ret ; catch DepthError 1 2 3 ;", "3", "returned 26: 6 | DepthError ; - 0 - - 0"},
	)
}

func TestFramesByCalls(t *testing.T) {
	p := read(t, "class A { field x : int ; function t ( A ) void locals 1 { load 0 ; call A m ; leave ; } method m ( ) void locals 1 { load 0 ; dup ; get A x ; const 1 ; add ; put A x ; load 0 ; call A m ; leave ; } } class B extends A { } ")
	above := ";  > A.t 1 (@0) " + strings.Repeat(" > A.m 7 (@0) ", 6)
	for n, want := range map[int]string{54: "runs 54: 0 | B 6 " + above + " > A.m 4 (@0) @0 6 1", 57: "runs 57: 0 | B 7 " + above + " > A.m 7 (@0) @0", 58: "thrown 58: @1 | B 7 | DepthError ; "} {
		r, e := After(p, "A", "t", inputOf("@0 | B 0"), n)
		if told(r) != want || e != api.OK {
			t.Error(n, told(r), e)
		}
	}
	checkAsPlain(t, p, "A", "t", inputOf("@0 | B 0"), 60)
	// of null, ahead of whether there is room
	p = read(t, "class A { function t ( int ) void locals 1 { load 0 ; ifeq 7 ; load 0 ; const -1 ; add ; func A t ; leave ; null ; call A m ; leave ; } method m ( ) void locals 1 { leave ; } }")
	for in, want := range map[string]string{"7": "NullError", "8": "DepthError", "0": "NullError"} {
		r, e := After(p, "A", "t", inputOf(in), 99)
		if r.How != api.Thrown || wordOf(r.Heap[r.Value.N].Type) != want || e != api.OK {
			t.Error(in, told(r), e)
		}
	}
	// eight frames, one of which a call makes
	p = read(t, "class A { function t ( int , A ) int locals 2 { load 0 ; ifeq 8 ; load 0 ; const -1 ; add ; load 1 ; func A t ; ret ; load 1 ; call A m ; ret ; } method m ( ) int locals 1 { const 3 ; ret ; } }")
	for in, want := range map[string]string{"6 @0 | A": "returned 55: 3 | A ; ", "7 @0 | A": "thrown 53: @1 | A | DepthError ; "} {
		r, e := After(p, "A", "t", inputOf(in), 200)
		if told(r) != want || e != api.OK {
			t.Error(in, told(r), e)
		}
		checkAsPlain(t, p, "A", "t", inputOf(in), 70)
	}
}
