package lex

import (
	"bytes"
	"math"
	"math/big"
	"reflect"
	"regexp"
	"strings"
	"testing"

	"delver/api"
)

// The chapter's words, written once more as patterns, to hold the package against.
var (
	wordPattern   = regexp.MustCompile(`^(?:[{}():;,\[\]]|-?[A-Za-z0-9_]*)`)
	namePattern   = regexp.MustCompile(`^[A-Za-z_][A-Za-z0-9_]{0,19}$`)
	numberPattern = regexp.MustCompile(`^(?:0|-?[1-9][0-9]*)$`)
	signPattern   = regexp.MustCompile(`^[{}():;,\[\]]$`)
)

func wantName(s string) bool { return namePattern.MatchString(s) }

func wantNum(s string) (int, bool) {
	if !numberPattern.MatchString(s) {
		return 0, false
	}
	n, _ := new(big.Int).SetString(s, 10)
	if n.Cmp(big.NewInt(math.MinInt32)) < 0 || n.Cmp(big.NewInt(math.MaxInt32)) > 0 {
		return 0, false
	}
	return int(n.Int64()), true
}

func wantScan(b []byte) (l []api.Token, at int, e api.Errno) {
	if len(b) > 6000 {
		return nil, 0, api.ErrLen
	}
	for i := 0; i < len(b); {
		if strings.ContainsRune("\x20\x09\x0a\x0d", rune(b[i])) {
			i++
			continue
		}
		w := string(wordPattern.Find(b[i:]))
		n, isNum := wantNum(w)
		switch {
		case wantName(w):
			l = append(l, api.Token{Kind: api.TokName, Text: w, At: i})
		case isNum:
			l = append(l, api.Token{Kind: api.TokNum, N: n, At: i})
		case signPattern.MatchString(w):
			l = append(l, api.Token{Kind: api.TokSign, Text: w, At: i})
		default:
			return nil, i, api.ErrText
		}
		i += len(w)
	}
	return l, 0, api.OK
}

func name(s string) api.Token { return api.Token{Kind: api.TokName, Text: s} }
func num(n int) api.Token     { return api.Token{Kind: api.TokNum, N: n} }
func sgn(s string) api.Token  { return api.Token{Kind: api.TokSign, Text: s} }

func at(t api.Token, place int) api.Token {
	t.At = place
	return t
}

func sameTokens(a, b []api.Token) bool {
	return len(a) == 0 && len(b) == 0 || reflect.DeepEqual(a, b)
}

// each calls f with every text of at most so many bytes, all of them of letters.
func each(letters string, most int, f func(string)) {
	var grow func(string)
	grow = func(s string) {
		f(s)
		if len(s) == most {
			return
		}
		for i := range len(letters) {
			grow(s + letters[i:i+1])
		}
	}
	grow("")
}

func checkScan(t *testing.T, text string) {
	t.Helper()
	l, place, e := Scan([]byte(text))
	wl, wplace, we := wantScan([]byte(text))
	if !sameTokens(l, wl) || place != wplace || e != we {
		t.Errorf("Scan(%q): %v, %d, %d; want %v, %d, %d", text, l, place, e, wl, wplace, we)
	}
}

// P1.1, Name.

func TestNameOfOneByte(t *testing.T) {
	const first = "abcdefghijklmnopqrstuvwxyzABCDEFGHIJKLMNOPQRSTUVWXYZ_"
	for c := range 256 {
		one := string([]byte{byte(c)})
		if got, want := Name(one), strings.Contains(first, one); got != want {
			t.Errorf("Name(%q): %v", one, got)
		}
		if got, want := Name("a"+one), strings.Contains(first+"0123456789", one); got != want {
			t.Errorf("Name(%q): %v", "a"+one, got)
		}
	}
}

func TestNameLength(t *testing.T) {
	for n := range 3 * api.MaxName {
		s := strings.Repeat("x", n)
		if got, want := Name(s), 1 <= n && n <= 20; got != want {
			t.Errorf("Name of %d bytes: %v", n, got)
		}
	}
}

func TestNameLastByteIsLookedAt(t *testing.T) {
	long := strings.Repeat("x", api.MaxName-1)
	for _, last := range []string{"-", " ", "\n", "\x00", ";", "\xff"} {
		if Name(long + last) {
			t.Errorf("Name(%q): true", long+last)
		}
	}
	for _, last := range []string{"9", "_", "Q"} {
		if !Name(long + last) {
			t.Errorf("Name(%q): false", long+last)
		}
	}
}

func TestNameShortTexts(t *testing.T) {
	each("az_09- \n;é\x00", 4, func(s string) {
		if got, want := Name(s), wantName(s); got != want {
			t.Errorf("Name(%q): %v", s, got)
		}
	})
}

// P1.1, Num.

func TestNumEdges(t *testing.T) {
	for _, c := range []struct {
		s  string
		n  int
		ok bool
	}{
		{"0", 0, true}, {"1", 1, true}, {"-1", -1, true}, {"10", 10, true},
		{"2147483646", api.Most - 1, true}, {"2147483647", api.Most, true}, {"2147483648", 0, false},
		{"-2147483647", api.Least + 1, true}, {"-2147483648", api.Least, true}, {"-2147483649", 0, false},
		{"", 0, false}, {"-", 0, false}, {"-0", 0, false}, {"00", 0, false}, {"-00", 0, false},
		{"01", 0, false}, {"-01", 0, false}, {"+1", 0, false}, {"--1", 0, false}, {"1-", 0, false},
		{"1_0", 0, false}, {"0x1", 0, false}, {"1e1", 0, false}, {"1.0", 0, false},
		{" 1", 0, false}, {"1 ", 0, false}, {"1\n", 0, false}, {"a", 0, false}, {"{", 0, false},
		{"\u0661", 0, false}, {"1\x00", 0, false},
		{"4294967296", 0, false}, {"4294967297", 0, false}, {"-4294967297", 0, false},
		{"9223372036854775808", 0, false}, {"18446744073709551617", 0, false}, {"-18446744073709551617", 0, false},
		{strings.Repeat("9", 100000), 0, false}, {"1" + strings.Repeat("0", 100000), 0, false},
		{strings.Repeat("0", 100000), 0, false}, {strings.Repeat("0", 100) + "7", 0, false},
	} {
		if n, ok := Num(c.s); n != c.n || ok != c.ok {
			t.Errorf("Num(%.40q): %d, %v", c.s, n, ok)
		}
	}
}

func TestNumShortTexts(t *testing.T) {
	each("0129-+_a \n", 4, func(s string) {
		n, ok := Num(s)
		if wn, wok := wantNum(s); n != wn || ok != wok {
			t.Errorf("Num(%q): %d, %v", s, n, ok)
		}
	})
}

func TestNumAroundPowers(t *testing.T) {
	for shift := range uint(80) {
		for by := int64(-2); by <= 2; by++ {
			n := new(big.Int).Lsh(big.NewInt(1), shift)
			n.Add(n, big.NewInt(by))
			for _, s := range []string{n.String(), new(big.Int).Neg(n).String()} {
				got, ok := Num(s)
				if want, wok := wantNum(s); got != want || ok != wok {
					t.Errorf("Num(%q): %d, %v", s, got, ok)
				}
			}
		}
	}
}

// P1.1, Scan.

func TestScanOrdinary(t *testing.T) {
	l, place, e := Scan([]byte("class A {\n\tfield x:int;\r\n} const -7"))
	want := []api.Token{
		at(name("class"), 0), at(name("A"), 6), at(sgn("{"), 8),
		at(name("field"), 11), at(name("x"), 17), at(sgn(":"), 18), at(name("int"), 19), at(sgn(";"), 22),
		at(sgn("}"), 25), at(name("const"), 27), at(num(-7), 33),
	}
	if !sameTokens(l, want) || place != 0 || e != api.OK {
		t.Error(l, place, e)
	}
}

func TestScanExampleOfTheChapter(t *testing.T) {
	l, place, e := Scan([]byte("a-1"))
	if !sameTokens(l, []api.Token{at(name("a"), 0), at(num(-1), 1)}) || place != 0 || e != api.OK {
		t.Error(l, place, e)
	}
}

func TestScanBlanks(t *testing.T) {
	words := []api.Token{name("a"), num(5), sgn(";"), num(-5), name("_")}
	texts := []string{"a", "5", ";", "-5", "_"}
	for _, blank := range []string{" ", "\t", "\n", "\r", "\r\n", " \t\n\r "} {
		text, want := blank, []api.Token(nil)
		for i, w := range words {
			want = append(want, at(w, len(text)))
			text += texts[i] + blank
		}
		if l, place, e := Scan([]byte(text)); !sameTokens(l, want) || place != 0 || e != api.OK {
			t.Errorf("Scan(%q): %v, %d, %d", text, l, place, e)
		}
		if l, place, e := Scan([]byte(blank)); len(l) != 0 || place != 0 || e != api.OK {
			t.Errorf("Scan(%q): %v, %d, %d", blank, l, place, e)
		}
	}
}

func TestScanWordsWithNothingBetween(t *testing.T) {
	l, place, e := Scan([]byte("{a}(1):-2;b,[_]0-3x"))
	if len(l) != 0 || place != 16 || e != api.ErrText {
		t.Error(l, place, e)
	}
	l, place, e = Scan([]byte("{a}(1):-2;b,[_]0-3"))
	want := []api.Token{
		at(sgn("{"), 0), at(name("a"), 1), at(sgn("}"), 2), at(sgn("("), 3), at(num(1), 4), at(sgn(")"), 5),
		at(sgn(":"), 6), at(num(-2), 7), at(sgn(";"), 9), at(name("b"), 10), at(sgn(","), 11), at(sgn("["), 12),
		at(name("_"), 13), at(sgn("]"), 14), at(num(0), 15), at(num(-3), 16),
	}
	if !sameTokens(l, want) || place != 0 || e != api.OK {
		t.Error(l, place, e)
	}
}

func TestScanWrongWords(t *testing.T) {
	long := strings.Repeat("x", api.MaxName)
	for _, word := range []string{
		"#", ".", "+", "\"", "/", "<", "\x00", "\x0b", "\x0c", "\x1f", "\x7f", "\x80", "\xff", "é", "\u00a0", "\u0661",
		"-", "--1", "-a", "-_", "1a", "1_", "0a", "00", "01", "-0", "-01", "2147483648", "-2147483649",
		"99999999999999999999", long + "x", "-" + long,
	} {
		for _, ahead := range []string{"", "a ", ";", "  7\n", long + ","} {
			for _, behind := range []string{"", " ", ";", " #"} {
				l, place, e := Scan([]byte(ahead + word + behind))
				if len(l) != 0 || place != len(ahead) || e != api.ErrText {
					t.Errorf("Scan(%q): %v, %d, %d", ahead+word+behind, l, place, e)
				}
			}
		}
	}
}

func TestScanEveryByte(t *testing.T) {
	for c := range 256 {
		for _, ahead := range []string{"", "a", "1", "-", ";", " "} {
			for _, behind := range []string{"", "a", "1", "-", ";", " "} {
				checkScan(t, ahead+string([]byte{byte(c)})+behind)
			}
		}
	}
}

func TestScanShortTexts(t *testing.T) {
	each("aZ_07- \n;]#", 5, func(s string) { checkScan(t, s) })
}

func TestScanEdgesOfWords(t *testing.T) {
	for _, w := range []string{strings.Repeat("n", api.MaxName), "2147483647", "-2147483648"} {
		l, place, e := Scan([]byte(" " + w))
		if len(l) != 1 || l[0].At != 1 || place != 0 || e != api.OK {
			t.Errorf("Scan(%q): %v, %d, %d", w, l, place, e)
		}
		checkScan(t, w)
		checkScan(t, w+w)
	}
}

func TestScanLength(t *testing.T) {
	for _, piece := range []string{"a ", " a", " ", ";", "1;", "-1 ", "ab,", "#"} {
		text := strings.Repeat(piece, api.MaxText+1)
		checkScan(t, text[:api.MaxText-1])
		checkScan(t, text[:api.MaxText])
		checkScan(t, text[:api.MaxText+1])
		l, place, e := Scan([]byte(text[:api.MaxText+1]))
		if len(l) != 0 || place != 0 || e != api.ErrLen {
			t.Errorf("%d bytes of %q: %d words, %d, %d", api.MaxText+1, piece, len(l), place, e)
		}
	}
	if l, place, e := Scan(bytes.Repeat([]byte{';'}, api.MaxText)); len(l) != api.MaxText || place != 0 || e != api.OK {
		t.Error(len(l), place, e)
	}
}

func TestScanOfNothing(t *testing.T) {
	for _, b := range [][]byte{nil, {}} {
		if l, place, e := Scan(b); len(l) != 0 || place != 0 || e != api.OK {
			t.Error(l, place, e)
		}
	}
}

// P1.1, Join.

func TestJoinOrdinary(t *testing.T) {
	for _, c := range []struct {
		l    []api.Token
		want string
	}{
		{nil, ""}, {[]api.Token{}, ""}, {[]api.Token{name("a")}, "a"}, {[]api.Token{num(0)}, "0"},
		{[]api.Token{name("const"), num(-7), sgn(";")}, "const -7 ;"},
		{[]api.Token{num(api.Least), num(api.Most)}, "-2147483648 2147483647"},
		{[]api.Token{num(1), num(-1), name("a"), name("b")}, "1 -1 a b"},
		{[]api.Token{name(strings.Repeat("n", api.MaxName))}, strings.Repeat("n", api.MaxName)},
		{[]api.Token{sgn("{"), sgn("}"), sgn("("), sgn(")"), sgn(":"), sgn(";"), sgn(","), sgn("["), sgn("]")}, "{ } ( ) : ; , [ ]"},
		{[]api.Token{at(name("a"), -1), at(num(2), math.MinInt), at(sgn(";"), math.MaxInt)}, "a 2 ;"},
	} {
		if b, e := Join(c.l); string(b) != c.want || e != api.OK {
			t.Errorf("Join(%v): %q, %d", c.l, b, e)
		}
	}
}

func wrongTokens() []api.Token {
	l := []api.Token{
		{}, {Kind: -1}, {Kind: 4}, {Kind: math.MaxInt}, {Kind: math.MinInt}, {Text: "a"}, {N: 1},
		{Kind: 0, Text: ";"}, {Kind: 4, Text: "a"}, {Kind: 4, N: 1}, {Kind: -1, Text: ";"},
		name(""), name("1"), name("1a"), name("a b"), name("a-b"), name("-a"), name(" a"), name("a "), name(";"), name("é"),
		name("a\x00"), name(strings.Repeat("n", api.MaxName+1)),
		sgn(""), sgn("a"), sgn("1"), sgn(" "), sgn("-"), sgn("#"), sgn("()"), sgn(";;"), sgn("; "), sgn(signs), sgn("\x00"),
		num(api.Least - 1), num(api.Most + 1), num(math.MinInt), num(math.MaxInt),
	}
	for _, n := range []int{1, -1, math.MinInt, math.MaxInt} {
		l = append(l, api.Token{Kind: api.TokName, Text: "a", N: n}, api.Token{Kind: api.TokSign, Text: ";", N: n})
	}
	for _, s := range []string{"1", "a", ";", " ", "0"} {
		l = append(l, api.Token{Kind: api.TokNum, N: 1, Text: s}, api.Token{Kind: api.TokNum, Text: s})
	}
	return l
}

func TestJoinWrongTokens(t *testing.T) {
	for _, w := range wrongTokens() {
		for _, l := range [][]api.Token{{w}, {name("a"), w}, {w, sgn(";")}, {num(1), w, name("b")}} {
			if b, e := Join(l); b != nil || e != api.ErrForm {
				t.Errorf("Join(%v): %q, %d", l, b, e)
			}
		}
	}
}

// P1.2.

// placed is l with the places that its words have when a blank stands between each two.
func placed(l []api.Token, texts []string) []api.Token {
	var out []api.Token
	place := 0
	for i, tok := range l {
		out = append(out, at(tok, place))
		place += len(texts[i]) + 1
	}
	return out
}

func TestJoinedIsScannedAgain(t *testing.T) {
	words := []api.Token{
		name("a"), name("_"), name("Z9"), name("class"), name(strings.Repeat("n", api.MaxName)),
		num(0), num(1), num(-1), num(42), num(api.Least), num(api.Most),
	}
	texts := []string{"a", "_", "Z9", "class", strings.Repeat("n", 20), "0", "1", "-1", "42", "-2147483648", "2147483647"}
	for i := range len(signs) {
		words, texts = append(words, sgn(signs[i:i+1])), append(texts, signs[i:i+1])
	}
	check := func(is ...int) {
		var l []api.Token
		var ts []string
		for _, i := range is {
			l, ts = append(l, at(words[i], -5*i)), append(ts, texts[i])
		}
		b, e := Join(l)
		if string(b) != strings.Join(ts, " ") || e != api.OK {
			t.Errorf("Join(%v): %q, %d", l, b, e)
		}
		again, place, e := Scan(b)
		if !sameTokens(again, placed(l, ts)) || place != 0 || e != api.OK {
			t.Errorf("Scan(%q): %v, %d, %d", b, again, place, e)
		}
	}
	check()
	for i := range words {
		check(i)
		for j := range words {
			check(i, j)
			for k := range words {
				check(i, j, k)
			}
		}
	}
}

func TestScannedIsJoinedAgain(t *testing.T) {
	each("aZ07- ;[", 5, func(s string) {
		l, _, e := Scan([]byte(s))
		if e != api.OK {
			return
		}
		b, e := Join(l)
		if e != api.OK {
			t.Errorf("%q: joined: %d", s, e)
		}
		again, _, e := Scan(b)
		if e != api.OK || len(again) != len(l) {
			t.Errorf("%q: scanned again: %v, %d", s, again, e)
			return
		}
		for i := range l {
			if at(l[i], 0) != at(again[i], 0) {
				t.Errorf("%q: %v, then %v", s, l[i], again[i])
			}
		}
	})
}

// Join has no bound of its own: what it answers is scanned again as far as Scan takes a text.
func TestJoinedLength(t *testing.T) {
	l := make([]api.Token, api.MaxText/2)
	for i := range l {
		l[i] = sgn(";")
	}
	b, e := Join(append(l[:len(l)-1:len(l)-1], name("ab")))
	if again, _, f := Scan(b); len(b) != api.MaxText || e != api.OK || len(again) != len(l) || f != api.OK {
		t.Error(len(b), e, len(again), f)
	}
	b, e = Join(append(l, sgn(";")))
	if again, _, f := Scan(b); len(b) != api.MaxText+1 || e != api.OK || len(again) != 0 || f != api.ErrLen {
		t.Error(len(b), e, len(again), f)
	}
}

// R2, R3, R6: memory.

func TestScanLeavesItsArgument(t *testing.T) {
	for _, text := range []string{"ab -12 ; c", "ab #", "a 1b", strings.Repeat("a", api.MaxText+1)} {
		room := []byte(text + "SPARE")
		b := room[:len(text)]
		Scan(b)
		if string(room) != text+"SPARE" {
			t.Errorf("changed: %.40q", room)
		}
	}
}

func TestScanReadsNothingBehind(t *testing.T) {
	for _, room := range []string{"abc", "123", "a -1", "ab#", "-1"} {
		for n := range len(room) {
			l, place, e := Scan([]byte(room)[:n])
			wl, wplace, we := wantScan([]byte(room[:n]))
			if !sameTokens(l, wl) || place != wplace || e != we {
				t.Errorf("Scan(%q): %v, %d, %d", room[:n], l, place, e)
			}
		}
	}
}

func TestScanAnswersNewMemory(t *testing.T) {
	b := []byte("abc -12 ; d")
	first, _, _ := Scan(b)
	want, _, _ := Scan([]byte("abc -12 ; d"))
	for i := range b {
		b[i] = 'x'
	}
	if !sameTokens(first, want) {
		t.Error("an answer changed with the argument:", first)
	}
	again, _, _ := Scan([]byte("abc -12 ; d"))
	for i := range first[:cap(first)] {
		first[:cap(first)][i] = api.Token{}
	}
	if !sameTokens(again, want) {
		t.Error("an answer changed with an earlier one:", again)
	}
}

func TestJoinLeavesItsArgument(t *testing.T) {
	for _, last := range []api.Token{num(-3), {Kind: 9}} {
		room := []api.Token{at(name("a"), 7), sgn(";"), last, at(name("spare"), 3), {Kind: 5, N: 6}}
		kept := append([]api.Token(nil), room...)
		Join(room[:3])
		if !reflect.DeepEqual(room, kept) {
			t.Error("changed:", room)
		}
	}
	// What lies behind the length is no token, and is not looked at.
	if b, e := Join([]api.Token{name("a"), {Kind: 9}}[:1]); string(b) != "a" || e != api.OK {
		t.Errorf("%q, %d", b, e)
	}
}

func TestJoinAnswersNewMemory(t *testing.T) {
	l := []api.Token{name("abc"), sgn(";"), num(5)}
	first, _ := Join(l)
	second, _ := Join(l)
	for i := range first[:cap(first)] {
		first[:cap(first)][i] = '#'
	}
	third, _ := Join(l)
	if string(second) != "abc ; 5" || string(third) != "abc ; 5" || l[0].Text != "abc" || l[1].Text != ";" {
		t.Errorf("%q, %q, %v", second, third, l)
	}
}

// R4: beside an error, a false, all else is its zero value, but for the place of ErrText.
func TestZeroBesideAnError(t *testing.T) {
	if l, place, e := Scan([]byte("a b #")); l != nil || place != 4 || e != api.ErrText {
		t.Error(l, place, e)
	}
	if l, place, e := Scan([]byte(strings.Repeat("#", api.MaxText+1))); l != nil || place != 0 || e != api.ErrLen {
		t.Error(l, place, e)
	}
	if b, e := Join([]api.Token{name("a"), {}}); b != nil || e != api.ErrForm {
		t.Error(b, e)
	}
	for _, s := range []string{"12a", "2147483648", "-0", "-2147483649"} {
		if n, ok := Num(s); n != 0 || ok {
			t.Error(s, n, ok)
		}
	}
}
