package lex

import (
	"math/big"
	"math/rand"
	"regexp"
	"slices"
	"strings"
	"testing"
	"unsafe"

	"portreeve/api"
)

const all = ^uint64(0)

// plainChars reads UTF-8 byte by byte as RFC 3629 lays it out; false of what it doesn't.
func plainChars(s string) ([]int, bool) {
	var l []int
	for i := 0; i < len(s); {
		b := int(s[i])
		n, least, v := 0, 0, b
		switch {
		case b < 0x80:
		case b >= 0xc0 && b < 0xe0:
			n, least, v = 1, 0x80, b&0x1f
		case b >= 0xe0 && b < 0xf0:
			n, least, v = 2, 0x800, b&0xf
		case b >= 0xf0 && b < 0xf8:
			n, least, v = 3, 0x10000, b&7
		default:
			return nil, false
		}
		for range n {
			i++
			if i >= len(s) || s[i]&0xc0 != 0x80 {
				return nil, false
			}
			v = v<<6 | int(s[i]&0x3f)
		}
		i++
		if v < least || v > 0x10ffff || v >= 0xd800 && v <= 0xdfff {
			return nil, false
		}
		l = append(l, v)
	}
	return l, true
}

var (
	hexForm = regexp.MustCompile(`^0x[0-9a-f]+(_[0-9a-f]+)*$`)
	decForm = regexp.MustCompile(`^[0-9]+(_[0-9]+)*$`)
	// A line is whole tokens, one by one, at its beginning.
	wordForm   = regexp.MustCompile(`^[A-Za-z_\x{80}-\x{10ffff}][A-Za-z_\x{80}-\x{10ffff}0-9]*`)
	numberForm = regexp.MustCompile(`^[0-9][A-Za-z_\x{80}-\x{10ffff}0-9]*`)
	signForm   = regexp.MustCompile(`^[-=:,.+/*()]`)
	restForm   = regexp.MustCompile(`(?s)^([ \t]+|#.*)`)
)

func plainValue(s string) (uint64, api.Errno) {
	plain, base := strings.ReplaceAll(s, "_", ""), 10
	switch {
	case hexForm.MatchString(s):
		plain, base = plain[2:], 16
	case !decForm.MatchString(s):
		return 0, api.ErrSyntax
	}
	n, ok := new(big.Int).SetString(plain, base)
	if !ok {
		panic(s)
	}
	if !n.IsUint64() {
		return 0, api.ErrSize
	}
	return n.Uint64(), api.OK
}

func plainTokens(s string) ([]Token, api.Errno, int) {
	if len(s) > 16384 {
		return nil, api.ErrSize, 0
	}
	if _, ok := plainChars(s); !ok {
		return nil, api.ErrText, 0
	}
	var l []Token
	at := 0
	for s != "" {
		x := ""
		if x = restForm.FindString(s); x != "" {
		} else if x = wordForm.FindString(s); x != "" {
			if len([]rune(x)) > 40 {
				return nil, api.ErrSize, at
			}
			l = append(l, Token{Kind: 1, Text: x, At: at})
		} else if x = numberForm.FindString(s); x != "" {
			w, e := plainValue(x)
			if e != api.OK {
				return nil, e, at
			}
			l = append(l, Token{Kind: 2, Text: x, Word: w, At: at})
		} else if x = signForm.FindString(s); x != "" {
			l = append(l, Token{Kind: 3, Text: x, At: at})
		} else {
			return nil, api.ErrSyntax, at
		}
		s = s[len(x):]
		at += len([]rune(x))
	}
	return l, api.OK, 0
}

func checkTokens(t *testing.T, s string) {
	t.Helper()
	l, e, at := Tokens(s)
	wl, we, wat := plainTokens(s)
	if e != we || at != wat || !slices.Equal(l, wl) {
		if len(s) > 200 {
			s = s[:200] + ".."
		}
		t.Fatalf("Tokens(%q): %v %d at %d, not %v %d at %d", s, l, e, at, wl, we, wat)
	}
}

func checkValue(t *testing.T, s string) {
	t.Helper()
	w, e := Value(s)
	if ww, we := plainValue(s); w != ww || e != we {
		t.Fatalf("Value(%q): %d %d, not %d %d", s, w, e, ww, we)
	}
}

// eachText goes through all texts of up to n of the pieces.
func eachText(pieces []string, n int, f func(string)) {
	var grow func(s string, n int)
	grow = func(s string, n int) {
		f(s)
		if n == 0 {
			return
		}
		for _, p := range pieces {
			grow(s+p, n-1)
		}
	}
	grow("", n)
}

func TestKindsAreAsNumbered(t *testing.T) {
	if Name != 1 || Number != 2 || Sign != 3 {
		t.Error(Name, Number, Sign)
	}
}

// P2.1

func checkTold(t *testing.T, s string) {
	t.Helper()
	l, ok := plainChars(s)
	if Told(s) != ok || Count(s) != len(l) {
		t.Fatalf("%q: told %v, %d characters, not %v, %d", s, Told(s), Count(s), ok, len(l))
	}
}

func TestToldOfAllShortBytes(t *testing.T) {
	checkTold(t, "")
	for a := range 256 {
		checkTold(t, string([]byte{byte(a)}))
		checkTold(t, "x"+string([]byte{byte(a)})+"y")
		for b := range 256 {
			checkTold(t, string([]byte{byte(a), byte(b)}))
		}
	}
}

// The bytes stand at both sides of each bound that RFC 3629 has for a byte of a character.
func TestToldOfLongerBytes(t *testing.T) {
	var l []string
	for _, b := range []byte{0x41, 0x7f, 0x80, 0x8f, 0x90, 0x9f, 0xa0, 0xbf, 0xc0, 0xc1, 0xc2, 0xdf, 0xe0, 0xe1, 0xec, 0xed, 0xee, 0xef, 0xf0, 0xf1, 0xf3, 0xf4, 0xf5, 0xf8, 0xfe, 0xff} {
		l = append(l, string([]byte{b}))
	}
	eachText(l, 4, func(s string) { checkTold(t, s) })
}

func TestToldOfAllCharacters(t *testing.T) {
	for v := rune(0); v <= 0x10ffff; v++ {
		if v >= 0xd800 && v <= 0xdfff {
			continue
		}
		if s := "a" + string(v); !Told(s) || Count(s) != 2 {
			t.Fatalf("%x: %v %d", v, Told(s), Count(s))
		}
	}
}

func TestCount(t *testing.T) {
	for s, want := range map[string]int{"": 0, "a": 1, "größe": 5, "é名😀": 3, "\x00\n\t": 3, "\ufeffa\ufffd": 3, "e\u0301": 2, "é名\xe5\x90": 0, "\xed\xa0\x80": 0, "\xf4\x90\x80\x80": 0, "\xc0\x80": 0} {
		if Count(s) != want {
			t.Errorf("%q: %d", s, Count(s))
		}
	}
	// No bound of a line's length holds here.
	if s := strings.Repeat("é", 20000); !Told(s) || Count(s) != 20000 {
		t.Error(Told(s), Count(s))
	}
}

// P2.2

func TestTokensOfTheExample(t *testing.T) {
	l, e, at := Tokens("map größe 0x1_f # all")
	want := []Token{{Kind: Name, Text: "map", At: 0}, {Kind: Name, Text: "größe", At: 4}, {Kind: Number, Text: "0x1_f", Word: 31, At: 10}}
	if e != api.OK || at != 0 || !slices.Equal(l, want) {
		t.Error(l, e, at)
	}
}

func TestTokensOfEachCharacter(t *testing.T) {
	for v := rune(0); v <= 0x10ffff; v++ {
		if v >= 0x3000 && v%251 != 0 && v != 0xfffd && v != 0xfeff && v != 0x10ffff || v >= 0xd800 && v <= 0xdfff {
			continue
		}
		c := string(v)
		for _, s := range []string{c, "a" + c, "1" + c, "é " + c + "b", c + c, "0x" + c, "#" + c} {
			checkTokens(t, s)
		}
	}
}

func TestTokensOfAllShortLines(t *testing.T) {
	eachText([]string{"a", "_", "é", "0", "7", "x", "=", " ", "#", ";"}, 5, func(s string) { checkTokens(t, s) })
	eachText([]string{"b", "F", "x", "0", "_", "-", "\t", "\n", "\xff", "#", "\x80", "\x7f"}, 4, func(s string) { checkTokens(t, s) })
}

func TestTokensOfManyLines(t *testing.T) {
	r := rand.New(rand.NewSource(2))
	pieces := []string{" ", " ", "\t", "map", "größe", "_", "a1", "0", "9", "10", "0x", "0xff", "1_0", "0xffffffffffffffff", "18446744073709551615", "6", "=", ":", ",", ".", "+", "-", "/", "*", "(", ")"}
	faults := []string{"#", ";", "1x", "\n", "\xc3", "18446744073709551616", "0x10000000000000000", "0xG", "\ufffd", strings.Repeat("n", 40)}
	for range 200000 {
		s := ""
		for range r.Intn(12) {
			if r.Intn(10) == 0 {
				s += faults[r.Intn(len(faults))]
			} else {
				s += pieces[r.Intn(len(pieces))]
			}
		}
		checkTokens(t, s)
	}
}

func TestTokensOfNothing(t *testing.T) {
	for _, s := range []string{"", " ", "\t \t", "#", "  # x ; \xc3\xa9 1x", "#\n;\x00"} {
		if l, e, at := Tokens(s); len(l) != 0 || e != api.OK || at != 0 {
			t.Errorf("%q: %v %d %d", s, l, e, at)
		}
	}
}

func TestTokensAtTheSizeOfALine(t *testing.T) {
	word := strings.Repeat("ab ", 6000)
	for n := api.MaxText - 3; n <= api.MaxText+3; n++ {
		for _, s := range []string{word[:n], strings.Repeat(" ", n), "#" + strings.Repeat(";", n-1), strings.Repeat(" ", n-1) + ";", strings.Repeat("=", n)} {
			checkTokens(t, s)
		}
		// Bytes are counted, not characters; and the size is held ahead of the text.
		checkTokens(t, strings.Repeat(" ", n-4)+"é名")
		checkTokens(t, strings.Repeat(" ", n-1)+"\xff")
	}
	if _, e, at := Tokens(strings.Repeat(";", api.MaxText+1)); e != api.ErrSize || at != 0 {
		t.Error(e, at)
	}
	if _, e, at := Tokens(" ;" + strings.Repeat(" ", api.MaxText-3) + "\xff"); e != api.ErrText || at != 0 {
		t.Error(e, at)
	}
	if l, e, _ := Tokens(strings.Repeat("+", api.MaxText)); e != api.OK || len(l) != api.MaxText {
		t.Error(e, len(l))
	}
}

func TestTokensAtTheSizeOfAName(t *testing.T) {
	for n := 38; n <= 43; n++ {
		for _, c := range []string{"a", "_", "Z", "é", "名", "😀"} {
			s := strings.Repeat(c, n)
			checkTokens(t, s)
			checkTokens(t, "é= "+s+" ;")
			checkTokens(t, "ab "+s+"=1x")
			checkTokens(t, c+strings.Repeat("7", n-1))
			checkTokens(t, "# "+s)
		}
	}
	if _, e, at := Tokens("é " + strings.Repeat("名", 41) + " ;"); e != api.ErrSize || at != 2 {
		t.Error(e, at)
	}
	// A number may have more.
	if l, e, _ := Tokens(strings.Repeat("0", 100) + "5"); e != api.OK || len(l) != 1 || l[0].Word != 5 {
		t.Error(l, e)
	}
	// A fault further left is the first one.
	if _, e, at := Tokens("名 1x " + strings.Repeat("a", 41)); e != api.ErrSyntax || at != 2 {
		t.Error(e, at)
	}
	if _, e, at := Tokens("名 99999999999999999999 ;"); e != api.ErrSize || at != 2 {
		t.Error(e, at)
	}
}

func TestTokensShareNoMemory(t *testing.T) {
	s := strings.Clone("map größe=0x1_f")
	l, _, _ := Tokens(s)
	m, _, _ := Tokens(s)
	first := uintptr(unsafe.Pointer(unsafe.StringData(s)))
	for i, x := range l {
		if p := uintptr(unsafe.Pointer(unsafe.StringData(x.Text))); p >= first && p < first+uintptr(len(s)) {
			t.Errorf("%q is a piece of the line", x.Text)
		}
		l[i] = Token{}
	}
	want, _, _ := plainTokens(s)
	if !slices.Equal(m, want) {
		t.Error(m)
	}
}

// P2.3

func TestValueOfAllShortTexts(t *testing.T) {
	eachText([]string{"0", "1", "9", "a", "f", "x", "_", "é", "g"}, 6, func(s string) { checkValue(t, s) })
	eachText([]string{"0", "0x", "X", "A", "F", " ", "#", "-", "+", "\xff", "\n", "٣", "_", "8"}, 4, func(s string) { checkValue(t, s) })
}

func TestValueAtItsEdges(t *testing.T) {
	top := new(big.Int).SetUint64(all)
	for d := int64(-300); d <= 300; d++ {
		n := new(big.Int).Add(top, big.NewInt(d))
		for _, s := range []string{n.Text(10), "0x" + n.Text(16)} {
			checkValue(t, s)
			checkValue(t, s+"0")
			checkValue(t, s+"x")
			checkValue(t, s+"_")
			checkValue(t, s[:len(s)-3]+"_"+s[len(s)-3:])
		}
		checkValue(t, "000"+n.Text(10))
		checkValue(t, "0x000_0"+n.Text(16))
	}
	// The products and sums of these wrap round to small numbers, more than once.
	for k := uint(60); k <= 300; k++ {
		n := new(big.Int).Lsh(big.NewInt(1), k)
		for d := int64(-2); d <= 12; d++ {
			m := new(big.Int).Add(n, big.NewInt(d))
			checkValue(t, m.Text(10))
			checkValue(t, "0x"+m.Text(16))
		}
	}
	if w, e := Value(strings.Repeat("0", 1<<20) + "7"); w != 7 || e != api.OK {
		t.Error(w, e)
	}
	if w, e := Value(strings.Repeat("9", 1<<20)); w != 0 || e != api.ErrSize {
		t.Error(w, e)
	}
	if w, e := Value(strings.Repeat("9", 1<<20) + "é"); w != 0 || e != api.ErrSyntax {
		t.Error(w, e)
	}
}

func TestValueOfWrongTexts(t *testing.T) {
	for _, s := range []string{"", "x", "0x", "0x_1", "0_x1", "_1", "1_", "1__2", "0X1", "0xA", "0b1", "0o7", "1e3", "1.0", "-1", "+1", " 1", "1 ", "1 2", "1#", "a", "é", "1\xff", "٣", "99999999999999999999x", "0x11111111111111111_"} {
		if w, e := Value(s); w != 0 || e != api.ErrSyntax {
			t.Errorf("%q: %d %d", s, w, e)
		}
	}
}

func TestShow(t *testing.T) {
	for w, want := range map[uint64]string{0: "0", 1: "1", 9: "9", 10: "0xa", 15: "0xf", 16: "0x10", 255: "0xff", 4096: "0x1000", 1 << 63: "0x8000000000000000", all: "0xffffffffffffffff"} {
		if Show(w) != want {
			t.Error(w, Show(w))
		}
	}
}

func TestValueOfShow(t *testing.T) {
	check := func(w uint64) {
		if v, e := Value(Show(w)); v != w || e != api.OK {
			t.Fatal(w, Show(w), v, e)
		}
		if n, _ := new(big.Int).SetString(Show(w), 0); n.Uint64() != w {
			t.Fatal(w, Show(w))
		}
	}
	for w := range uint64(70000) {
		check(w)
		check(all - w)
	}
	for k := range 64 {
		for d := range uint64(40) {
			check(uint64(1)<<k + d - 20)
		}
	}
}
