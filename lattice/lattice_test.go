package lattice

import (
	"math/rand/v2"
	"slices"
	"strings"
	"testing"

	"delver/api"
	"delver/layout"
)

// family is a program with classes and interfaces of each kind, most of them ahead of what they come of. Its members bear
// names that are no classes'.
const family = `
class Low extends Mid implements Small , Other { field low : int ; method f ( int ) Low locals 2 { load 0 ; ret ; } }
class Kin extends Mid { }
class Mid extends High { static s : Low [ ] ; }
class High implements Left { method g ( ) int locals 1 { const 1 ; ret ; } }
interface Small extends Left , Right { method f ( int ) Low ; }
interface Left extends Top { method g ( ) int ; }
interface Right extends Top { }
interface Top { }
interface Other { }
class Oops extends NumError implements Top , Other { }
`

// familyTypes are words for types that are right in the family.
const familyTypes = "int int[] null nothing Object Low Kin Mid High Small Left Right Top Other Oops Error NumError NullError DepthError " +
	"Object[] Low[] Mid[] Top[] Oops[] NumError[]"

func TestExampleOfTheChapter(t *testing.T) {
	for _, text := range []string{"", "class A { }", family} {
		p := read(t, text)
		if got, e := Meet(p, typeOf("NullError"), typeOf("NumError")); got != typeOf("Error") || e != api.OK {
			t.Error(text, got, e)
		}
	}
}

func TestRightTypes(t *testing.T) {
	p := read(t, family)
	words := strings.Fields(familyTypes)
	for _, name := range strings.Fields("Object Error NullError RangeError CastError NumError SizeError DepthError Low Kin Mid High Small Left Right Top Other Oops") {
		words = append(words, name, name+"[]")
	}
	for _, word := range words {
		if !Right(p, typeOf(word)) {
			t.Error(word)
		}
	}
}

func TestWrongTypes(t *testing.T) {
	p := read(t, family)
	wrong := wrongTypes()
	for _, name := range []string{"low", "f", "g", "s", "Lo", "Lows"} {
		wrong = append(wrong, typeOf(name), typeOf(name+"[]"))
	}
	for _, x := range wrong {
		if Right(p, x) {
			t.Errorf("Right %+v", x)
		}
		for _, word := range append(strings.Fields(familyTypes), "A") {
			y := typeOf(word)
			if Fits(p, x, y) || Fits(p, y, x) || Fits(p, x, x) {
				t.Errorf("Fits %+v %s", x, word)
			}
			for _, l := range [][2]api.Type{{x, y}, {y, x}, {x, x}} {
				if got, e := Meet(p, l[0], l[1]); got != (api.Type{}) || e != api.ErrType {
					t.Errorf("Meet %+v: %v %d", l, got, e)
				}
			}
		}
	}
}

// A name is right where its program has it, and nowhere else.
func TestNamesOfOtherPrograms(t *testing.T) {
	p, q := read(t, "class A { }"), read(t, "interface B { }")
	for _, word := range []string{"A", "A[]"} {
		if !Right(p, typeOf(word)) || Right(q, typeOf(word)) || Right(api.Program{}, typeOf(word)) {
			t.Error(word)
		}
	}
	for _, word := range []string{"B", "B[]"} {
		if Right(p, typeOf(word)) || !Right(q, typeOf(word)) || Right(api.Program{}, typeOf(word)) {
			t.Error(word)
		}
	}
}

// familyFits holds, for each type, all of the family's that it fits.
func familyFits() map[string]string {
	return map[string]string{
		"int":        "int nothing",
		"nothing":    "nothing",
		"null":       strings.Replace(familyTypes, "int ", "", 1),
		"int[]":      "int[] nothing Object",
		"Object":     "nothing Object",
		"Low":        "nothing Object Low Mid High Small Left Right Top Other",
		"Kin":        "nothing Object Kin Mid High Left Top",
		"Mid":        "nothing Object Mid High Left Top",
		"High":       "nothing Object High Left Top",
		"Small":      "nothing Object Small Left Right Top",
		"Left":       "nothing Object Left Top",
		"Right":      "nothing Object Right Top",
		"Top":        "nothing Object Top",
		"Other":      "nothing Object Other",
		"Oops":       "nothing Object Top Other Oops Error NumError",
		"Error":      "nothing Object Error",
		"NumError":   "nothing Object Error NumError",
		"NullError":  "nothing Object Error NullError",
		"DepthError": "nothing Object Error DepthError",
		"Object[]":   "nothing Object Object[]",
		"Low[]":      "nothing Object Low[]",
		"Mid[]":      "nothing Object Mid[]",
		"Top[]":      "nothing Object Top[]",
		"Oops[]":     "nothing Object Oops[]",
		"NumError[]": "nothing Object NumError[]",
	}
}

func TestFits(t *testing.T) {
	p, fits := read(t, family), familyFits()
	words := strings.Fields(familyTypes)
	if len(fits) != len(words) {
		t.Fatal(len(fits), len(words))
	}
	for _, from := range words {
		for _, to := range words {
			want := slices.Contains(strings.Fields(fits[from]), to)
			if Fits(p, typeOf(from), typeOf(to)) != want {
				t.Errorf("%s to %s: not %v", from, to, want)
			}
		}
	}
}

// checkMeet holds what two meet in, in both orders.
func checkMeet(t *testing.T, p api.Program, a, b, want string) {
	t.Helper()
	for range 2 {
		if got, e := Meet(p, typeOf(a), typeOf(b)); got != typeOf(want) || e != api.OK {
			t.Errorf("%s and %s: %v %d, not %s", a, b, got, e, want)
		}
		a, b = b, a
	}
}

func TestMeetOfTheSame(t *testing.T) {
	for _, word := range strings.Fields(familyTypes) {
		checkMeet(t, read(t, family), word, word, word)
	}
}

func TestMeetOfKinds(t *testing.T) {
	p := read(t, family)
	for _, word := range strings.Fields(familyTypes) {
		checkMeet(t, p, "nothing", word, "nothing")
		if word == "int" || word == "nothing" {
			checkMeet(t, p, "null", word, "nothing")
			continue
		}
		checkMeet(t, p, "int", word, "nothing")
		checkMeet(t, p, "null", word, word)
		checkMeet(t, p, "Object", word, "Object")
	}
}

func TestMeetOfRefs(t *testing.T) {
	p := read(t, family)
	for _, c := range [][3]string{
		// one is under the other one, near and far
		{"Low", "Mid", "Mid"}, {"Low", "High", "High"}, {"Mid", "High", "High"}, {"Low", "Small", "Small"}, {"Low", "Left", "Left"}, {"Low", "Right", "Right"},
		{"Low", "Top", "Top"}, {"Low", "Other", "Other"}, {"Kin", "Top", "Top"}, {"Mid", "Left", "Left"}, {"Small", "Left", "Left"}, {"Small", "Top", "Top"},
		{"Oops", "NumError", "NumError"}, {"Oops", "Error", "Error"}, {"Oops", "Top", "Top"}, {"NullError", "Error", "Error"}, {"Low", "Object", "Object"}, {"Top", "Object", "Object"}, {"Error", "Object", "Object"},
		// two classes, in a super near, far up, in Object
		{"Low", "Kin", "Mid"}, {"NullError", "NumError", "Error"}, {"Oops", "NullError", "Error"}, {"Oops", "SizeError", "Error"}, {"DepthError", "RangeError", "Error"},
		{"Low", "Oops", "Object"}, {"Kin", "Error", "Object"}, {"High", "NumError", "Object"},
		// a class and an interface that it has not, two interfaces: what both have in common does not count
		{"Kin", "Small", "Object"}, {"High", "Right", "Object"}, {"High", "Other", "Object"}, {"Error", "Top", "Object"}, {"NumError", "Other", "Object"}, {"Oops", "Left", "Object"}, {"Oops", "Small", "Object"},
		{"Left", "Right", "Object"}, {"Small", "Other", "Object"}, {"Top", "Other", "Object"},
	} {
		checkMeet(t, p, c[0], c[1], c[2])
	}
}

// Both come far down of one class, by ways of each length.
func TestMeetFarUp(t *testing.T) {
	p := read(t, `class L3 extends L2 { } class L2 extends L1 { } class L1 extends Root { } class Root extends NumError { }
		class R1 extends Root { } class R2 extends R1 { } class R3 extends R2 { } class R4 extends R3 { } class Side extends L1 { }`)
	for _, a := range []string{"L1", "L2", "L3", "Side"} {
		for _, b := range []string{"R1", "R2", "R3", "R4"} {
			checkMeet(t, p, a, b, "Root")
		}
		for _, b := range []string{"NullError", "DepthError"} {
			checkMeet(t, p, a, b, "Error")
		}
		checkMeet(t, p, a, "Root", "Root")
		checkMeet(t, p, a, "NumError", "NumError")
	}
	checkMeet(t, p, "L3", "Side", "L1")
	checkMeet(t, p, "L3", "R4", "Root")
}

func TestMeetOfRows(t *testing.T) {
	p := read(t, family)
	for _, c := range [][2]string{
		{"int[]", "Low[]"}, {"int[]", "Object[]"}, {"Low[]", "Mid[]"}, {"Low[]", "Object[]"}, {"Top[]", "Mid[]"}, {"Oops[]", "NumError[]"},
		{"int[]", "Low"}, {"int[]", "Top"}, {"int[]", "Error"}, {"Low[]", "Low"}, {"Low[]", "Mid"}, {"Top[]", "Top"}, {"Mid[]", "Oops"},
		{"int[]", "Object"}, {"Low[]", "Object"}, {"Object[]", "Object"},
	} {
		checkMeet(t, p, c[0], c[1], "Object")
	}
}

// Of three it does matter which two of them meet first.
func TestMeetByTurns(t *testing.T) {
	p := read(t, "interface I { } class A implements I { } class D implements I { }")
	for _, c := range []struct{ first, next, last, want string }{{"A", "D", "I", "Object"}, {"D", "I", "A", "I"}, {"A", "I", "D", "I"}} {
		x, e := Meet(p, typeOf(c.first), typeOf(c.next))
		y, f := Meet(p, x, typeOf(c.last))
		if y != typeOf(c.want) || e != api.OK || f != api.OK {
			t.Error(c, x, e, y, f)
		}
	}
}

// None is right, fits or meets in a program that layers 3, 4 or 5 refuse.
func TestProgramsThatAreRefused(t *testing.T) {
	for _, text := range []string{
		"class A { } class A { }", "class Object { }", "class A extends X { }", "class A implements A { }", "class A extends A { }", "interface A extends A { }",
		"interface A { field x : int ; }", "class A { method f ( ) int ; }", "class A { field x : void ; }", "class A { field x : int ; static x : int ; }", "class A { field x : X ; }",
		"class A { field x : int ; } class B extends A { field x : int ; }", "class A { method f ( ) int locals 1 { } } class B extends A { method f ( ) void locals 1 { } }",
		"interface I { method f ( ) int ; } class A implements I { }", "interface I { method f ( ) int ; } class A implements I { method f ( ) void locals 1 { } }",
	} {
		checkRefused(t, read(t, text))
	}
	checkRefused(t, api.Program{Classes: make([]api.Class, 1)})
	checkRefused(t, api.Program{Classes: []api.Class{{Name: "A", Fields: []api.Field{{Name: "x"}}}}})
	many := read(t, family)
	many.Classes = append(many.Classes, api.Class{Name: "B"})
	checkRefused(t, many)
	m := maker{rand.New(rand.NewPCG(6, 1))}
	for _, fault := range faults() {
		for range 3 {
			p := m.spoilt(fault)
			if layout.Check(p) == api.OK {
				t.Errorf("no fault: %+v", p)
			}
			checkRefused(t, p)
		}
	}
}

// What a body does is not asked here: layer 7 refuses these two.
func TestBodiesThatAreNotSound(t *testing.T) {
	for _, text := range []string{
		"class A { method f ( ) int locals 1 { pop ; } }",
		"class A { function f ( ) int locals 0 { new X ; goto 47 ; catch X 9 3 40 ; } }",
	} {
		checkTaken(t, read(t, text))
	}
}

func TestFamilyAsPlain(t *testing.T) {
	checkTaken(t, read(t, family))
	checkTaken(t, api.Program{})
}

func TestRandomProgramsAsPlain(t *testing.T) {
	m := maker{rand.New(rand.NewPCG(6, 2))}
	for range 15 {
		p := m.sound(api.MaxClasses)
		if e := layout.Check(p); e != api.OK {
			t.Fatalf("%d: %+v", e, p)
		}
		checkTaken(t, p)
	}
}

// Every way in which four can come of one another: of each pair of them and of some others Fits and Meet are asked.
func TestAllSmallProgramsAsPlain(t *testing.T) {
	var l []api.Type
	for _, word := range strings.Fields("A B C D Object Error NumError") {
		l = append(l, typeOf(word))
	}
	programs := smallPrograms(4)
	if len(programs) < 300 {
		t.Error(len(programs))
	}
	for _, p := range programs {
		m := plainOf(p)
		for _, a := range l {
			for _, b := range l {
				checkPair(t, p, m, a, b)
			}
		}
	}
}

// checkBothFit holds P6.2 of each pair of right types.
func checkBothFit(t *testing.T, p api.Program) {
	t.Helper()
	l := plainOf(p).types()
	for _, a := range l {
		for _, b := range l {
			x, e := Meet(p, a, b)
			y, f := Meet(p, b, a)
			if e != api.OK || f != api.OK || x != y {
				t.Errorf("%v and %v: %v %d, %v %d: %+v", a, b, x, e, y, f, p)
			}
			if !Right(p, x) || !Fits(p, a, x) || !Fits(p, b, x) {
				t.Errorf("%v and %v do not both fit %v: %+v", a, b, x, p)
			}
		}
	}
}

func TestBothFitWhatTheyMeetIn(t *testing.T) {
	checkBothFit(t, api.Program{})
	checkBothFit(t, read(t, family))
	m := maker{rand.New(rand.NewPCG(6, 3))}
	for range 8 {
		checkBothFit(t, m.sound(7))
	}
	for _, p := range smallPrograms(2) {
		checkBothFit(t, p)
	}
}
