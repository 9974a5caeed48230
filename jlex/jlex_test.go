package jlex_test

import (
	"bytes"
	"encoding/json"
	"fmt"
	"math"
	"math/big"
	"regexp"
	"slices"
	"strconv"
	"strings"
	"testing"
	"unicode/utf16"
	"unicode/utf8"

	"avocet/api"
	"avocet/jlex"
)

// The chapter's words, as patterns.
var (
	whites  = regexp.MustCompile(`^[\x20\x09\x0a\x0d]*`)
	lettery = regexp.MustCompile(`^(?:true|false|null)`)
	numbery = regexp.MustCompile(`^-?(?:0|[1-9][0-9]*)`)
	texty   = regexp.MustCompile(`(?s)^"(?:[^"\\\x00-\x1f]|\\["\\/bfnrt]|\\u[0-9a-fA-F]{4})*"`)
	parts   = regexp.MustCompile(`(?s)\\u[0-9a-fA-F]{4}|\\.|[^\\]`)
	goesOn  = regexp.MustCompile(`^[0-9A-Za-z]`)
	letter  = regexp.MustCompile(`^[A-Za-z]`)
	floaty  = regexp.MustCompile(`^[.eE]`)
)

// wanted is what P6.1 says of a place of b, worked out by the patterns.
func wanted(b []byte, at int) (jlex.Word, api.Errno) {
	if at < 0 || at > len(b) {
		return jlex.Word{}, api.ErrArg
	}
	at += len(whites.Find(b[at:]))
	w, e := wantedFirst(b[at:])
	if e != api.OK {
		return jlex.Word{}, e
	}
	w.At, w.Next = at, at+w.Next
	return w, api.OK
}

// wantedFirst is what it says of the word that b begins with.
func wantedFirst(b []byte) (jlex.Word, api.Errno) {
	if len(b) == 0 {
		return jlex.Word{Kind: jlex.End}, api.OK
	}
	if kind, ok := map[byte]int{'{': 1, '}': 2, '[': 3, ']': 4, ':': 5, ',': 6}[b[0]]; ok {
		return jlex.Word{Kind: kind, Next: 1}, api.OK
	}
	if x := lettery.Find(b); x != nil && !goesOn.Match(b[len(x):]) {
		return map[string]jlex.Word{"true": {Kind: 7, Int: 1, Next: 4}, "false": {Kind: 7, Next: 5}, "null": {Kind: 8, Next: 4}}[string(x)], api.OK
	}
	if x := numbery.Find(b); x != nil {
		return wantedNumber(x, b[len(x):])
	}
	if x := texty.Find(b); x != nil && utf8.Valid(x) {
		if s, ok := meant(string(x[1 : len(x)-1])); ok {
			return jlex.Word{Kind: 10, Text: s, Next: len(x)}, api.OK
		}
	}
	return jlex.Word{}, api.ErrText
}

// wantedNumber is what it says of a number, by what stands behind it.
func wantedNumber(x, rest []byte) (jlex.Word, api.Errno) {
	n, _ := new(big.Int).SetString(string(x), 10)
	switch {
	case floaty.Match(rest):
		return jlex.Word{}, api.ErrNumber
	case goesOn.Match(rest):
		return jlex.Word{}, api.ErrText
	case !n.IsInt64():
		return jlex.Word{}, api.ErrNumber
	}
	return jlex.Word{Kind: 9, Int: n.Int64(), Next: len(x)}, api.OK
}

// meant is the characters of a text by its parts, and whether it has no surrogate that is none of a pair.
func meant(s string) (string, bool) {
	var out []rune
	high := rune(0) // one that waits for its low one
	for _, part := range parts.FindAllString(s, -1) {
		c := partMeant(part)
		switch {
		case high != 0:
			c = utf16.DecodeRune(high, c)
			if c == utf8.RuneError {
				return "", false
			}
			out = append(out, c)
			high = 0
		case c >= 0xd800 && c < 0xdc00:
			high = c
		case utf16.IsSurrogate(c):
			return "", false
		default:
			out = append(out, c)
		}
	}
	return string(out), high == 0
}

// partMeant is the character, or the surrogate, that a part of a text is.
func partMeant(part string) rune {
	if part[0] != '\\' {
		c, _ := utf8.DecodeRuneInString(part)
		return c
	}
	if part[1] == 'u' {
		c, err := strconv.ParseUint(part[2:], 16, 32)
		if err != nil {
			panic(err)
		}
		return rune(c)
	}
	return map[byte]rune{'"': 34, '\\': 92, '/': 47, 'b': 8, 'f': 12, 'n': 10, 'r': 13, 't': 9}[part[1]]
}

// check holds Take against what is wanted, and the bytes against what they were.
func check(t *testing.T, b []byte, at int, want jlex.Word, wantE api.Errno) {
	t.Helper()
	was := bytes.Clone(b)
	got, e := jlex.Take(b, at)
	if got != want || e != wantE {
		t.Fatalf("Take(%.60q, %d) = %+v, %d, not %+v, %d", b, at, got, int(e), want, int(wantE))
	}
	if !bytes.Equal(b, was) {
		t.Fatalf("Take changed %.60q to %.60q", was, b)
	}
}

// checkRefused holds Take's refusal of a text, alone, behind white bytes, and behind bytes that are not looked at.
func checkRefused(t *testing.T, s string, want api.Errno) {
	t.Helper()
	check(t, []byte(s), 0, jlex.Word{}, want)
	check(t, []byte(" \n"+s), 0, jlex.Word{}, want)
	check(t, []byte("\xff\"1"+s), 3, jlex.Word{}, want)
}

// checkWord holds Take of a word against what it has, alone, behind white bytes, behind bytes that are not looked at, and ahead of rest.
func checkWord(t *testing.T, s, rest string, want jlex.Word) {
	t.Helper()
	for _, ahead := range []string{"", " ", "\t\r\n ", strings.Repeat(" ", 300)} {
		want.At, want.Next = len(ahead), len(ahead)+len(s)
		check(t, []byte(ahead+s+rest), 0, want, api.OK)
		want.At += 3
		want.Next += 3
		check(t, []byte("\xff\"1"+ahead+s+rest), 3, want, api.OK)
	}
}

// checkWanted holds Take of each place of b against the patterns, and All against Take.
func checkWanted(t *testing.T, b []byte) {
	t.Helper()
	for at := -1; at <= len(b)+1; at++ {
		want, e := wanted(b, at)
		check(t, b, at, want, e)
	}
	checkAll(t, b)
}

// checkAll holds All against P6.2's words: what the patterns have, word by word.
func checkAll(t *testing.T, b []byte) {
	t.Helper()
	var words []jlex.Word
	w, e := wanted(b, 0)
	for ; e == api.OK && w.Kind != jlex.End; w, e = wanted(b, w.Next) {
		words = append(words, w)
	}
	if e != api.OK {
		words = nil
	}
	was := bytes.Clone(b)
	if got, gotE := jlex.All(b); gotE != e || !slices.Equal(got, words) {
		t.Fatalf("All(%.60q) = %+v, %d, not %+v, %d", b, got, int(gotE), words, int(e))
	}
	if !bytes.Equal(b, was) {
		t.Fatalf("All changed %.60q to %.60q", was, b)
	}
}

// random tells numbers that hang on no rule; the same each time.
func random(seed uint64) func(below int) int {
	return func(below int) int {
		seed += 0x9e3779b97f4a7c15
		x := seed
		x = (x ^ x>>30) * 0xbf58476d1ce4e5b9
		x = (x ^ x>>27) * 0x94d049bb133111eb
		return int((x ^ x>>31) % uint64(below))
	}
}

// given is words of each kind, with what they have.
func given() map[string]jlex.Word {
	return map[string]jlex.Word{
		"{": {Kind: 1}, "}": {Kind: 2}, "[": {Kind: 3}, "]": {Kind: 4}, ":": {Kind: 5}, ",": {Kind: 6},
		"true": {Kind: 7, Int: 1}, "false": {Kind: 7}, "null": {Kind: 8},
		"0": {Kind: 9}, "-0": {Kind: 9}, "7": {Kind: 9, Int: 7}, "-7": {Kind: 9, Int: -7}, "1234567890": {Kind: 9, Int: 1234567890}, "-30": {Kind: 9, Int: -30},
		"9223372036854775807": {Kind: 9, Int: math.MaxInt64}, "-9223372036854775808": {Kind: 9, Int: math.MinInt64},
		`""`: {Kind: 10}, `"a"`: {Kind: 10, Text: "a"}, `"true"`: {Kind: 10, Text: "true"}, `"a\u00e4"`: {Kind: 10, Text: "aä"}, `"ä€😀"`: {Kind: 10, Text: "ä€😀"}, `" {\"\n"`: {Kind: 10, Text: " {\"\n"}, "\"\x7f\u0080\"": {Kind: 10, Text: "\x7f\u0080"},
	}
}

// The kinds' numbers, as the chapter has them.
func TestKinds(t *testing.T) {
	kinds := []int{jlex.Bad, jlex.Open, jlex.Close, jlex.OpenList, jlex.CloseList, jlex.Colon, jlex.Comma, jlex.Truth, jlex.Nothing, jlex.Number, jlex.Text, jlex.End}
	for want, kind := range kinds {
		if kind != want {
			t.Errorf("kind %d is %d", want, kind)
		}
	}
}

// P6.1: words of each kind, at the end, ahead of white bytes, and ahead of what may stand right behind them.
func TestGivenWords(t *testing.T) {
	for s, want := range given() {
		for _, rest := range []string{"", " ", "\n1", "\"", "]", "}", ",1", ":", "{", "[", "\xff", "\x00", "-", "+", "_", "\\"} {
			checkWord(t, s, rest, want)
		}
	}
}

// P6.1: places that may not be are refused ahead of all that the bytes could be refused for; the place behind the last byte may be.
func TestPlaces(t *testing.T) {
	for _, s := range []string{"", " ", "1", "1.", "\xff", "true", `"a"`, `"`, "[1]", "tru", "99999999999999999999"} {
		b := []byte(s)
		for _, at := range []int{math.MinInt, math.MinInt + 1, -20000, -2, -1, len(b) + 1, len(b) + 2, len(b) + 20000, math.MaxInt - 1, math.MaxInt} {
			check(t, b, at, jlex.Word{}, api.ErrArg)
		}
		check(t, b, len(b), jlex.Word{Kind: jlex.End, At: len(b), Next: len(b)}, api.OK)
	}
	check(t, nil, 0, jlex.Word{Kind: jlex.End}, api.OK)
	check(t, nil, 1, jlex.Word{}, api.ErrArg)
	check(t, nil, -1, jlex.Word{}, api.ErrArg)
	// Within a word what stands from there on is looked at, and nothing ahead of it.
	check(t, []byte("123"), 1, jlex.Word{Kind: jlex.Number, Int: 23, At: 1, Next: 3}, api.OK)
	check(t, []byte("100"), 1, jlex.Word{}, api.ErrText)
	check(t, []byte("true"), 1, jlex.Word{}, api.ErrText)
	check(t, []byte(`"1"`), 1, jlex.Word{Kind: jlex.Number, Int: 1, At: 1, Next: 2}, api.OK)
	check(t, []byte(`"1"`), 2, jlex.Word{}, api.ErrText)
}

// P6.1: just the four white bytes are passed over, ahead of a word and at the end, from the place on.
func TestWhiteBytes(t *testing.T) {
	for x := range 256 {
		b := []byte{byte(x), byte(x), '[', byte(x), byte(x)}
		if x != 32 && x != 9 && x != 10 && x != 13 {
			checkWanted(t, b)
			if w, e := jlex.Take(b, 3); w.Kind == jlex.End || w.Kind == jlex.OpenList && x != '[' || e == api.OK && w.At != 3 {
				t.Errorf("byte %d is passed over: %+v, %d", x, w, int(e))
			}
			continue
		}
		for at := range 3 {
			check(t, b, at, jlex.Word{Kind: jlex.OpenList, At: 2, Next: 3}, api.OK)
		}
		for at := 3; at <= 5; at++ {
			check(t, b, at, jlex.Word{Kind: jlex.End, At: 5, Next: 5}, api.OK)
		}
	}
	all := strings.Repeat(" \t\n\r", 100)
	check(t, []byte(all), 7, jlex.Word{Kind: jlex.End, At: 400, Next: 400}, api.OK)
	check(t, []byte(all+"\u00a0"), 0, jlex.Word{}, api.ErrText)
	check(t, []byte("\ufeff1"), 0, jlex.Word{}, api.ErrText)
}

// P6.1: bytes that no word begins with.
func TestNoWord(t *testing.T) {
	begins := "{}[]:,\"-0123456789tfn \t\n\r"
	for x := range 256 {
		if strings.IndexByte(begins, byte(x)) < 0 {
			checkRefused(t, string([]byte{byte(x)}), api.ErrText)
			checkRefused(t, string([]byte{byte(x)})+"1", api.ErrText)
			checkRefused(t, string([]byte{byte(x)})+"true", api.ErrText)
		}
	}
	for _, s := range []string{"'a'", "+1", ".5", "/**/", "//", "NaN", "Infinity", "undefined", "ä", "\xc3", "\\", "\\u0031", "a", "e1", "E"} {
		checkRefused(t, s, api.ErrText)
	}
}

// P6.1: numbers at the ends of int64, and beyond them, with any number of digits.
func TestNumbersAtTheEnds(t *testing.T) {
	for _, row := range []struct {
		s string
		n int64
		e api.Errno
	}{
		{"9223372036854775806", math.MaxInt64 - 1, api.OK}, {"9223372036854775807", math.MaxInt64, api.OK}, {"9223372036854775808", 0, api.ErrNumber}, {"9223372036854775809", 0, api.ErrNumber},
		{"-9223372036854775807", -math.MaxInt64, api.OK}, {"-9223372036854775808", math.MinInt64, api.OK}, {"-9223372036854775809", 0, api.ErrNumber}, {"-9223372036854775810", 0, api.ErrNumber},
		{"9999999999999999999", 0, api.ErrNumber}, {"-9999999999999999999", 0, api.ErrNumber}, {"999999999999999999", 999999999999999999, api.OK}, {"-999999999999999999", -999999999999999999, api.OK},
		{"1000000000000000000", 1000000000000000000, api.OK}, {"10000000000000000000", 0, api.ErrNumber}, {"-10000000000000000000", 0, api.ErrNumber},
		{"18446744073709551615", 0, api.ErrNumber}, {"18446744073709551616", 0, api.ErrNumber}, {"18446744073709551617", 0, api.ErrNumber}, {"-18446744073709551616", 0, api.ErrNumber}, {"-18446744073709551617", 0, api.ErrNumber}, {"36893488147419103233", 0, api.ErrNumber},
		{"1" + strings.Repeat("0", 5000), 0, api.ErrNumber}, {"-" + strings.Repeat("7", 5000), 0, api.ErrNumber},
	} {
		for _, rest := range []string{"", " ", "]", ",", "\"", "-1"} {
			if row.e != api.OK {
				checkRefused(t, row.s+rest, row.e)
				continue
			}
			checkWord(t, row.s, rest, jlex.Word{Kind: jlex.Number, Int: row.n})
		}
	}
}

// P6.1: each number near a power of two or of ten is its digits.
func TestManyNumbers(t *testing.T) {
	some := random(3)
	for base := range 2 {
		for power := int64(1); power > 0; power *= int64(2 + 8*base) {
			for off := int64(-3); off <= 3; off++ {
				for _, n := range []int64{power + off, -power + off, power/int64(1+some(1000)) + off} {
					s := strconv.FormatInt(n, 10)
					check(t, []byte(s+","), 0, jlex.Word{Kind: jlex.Number, Int: n, Next: len(s)}, api.OK)
				}
			}
			if power > math.MaxInt64/10 {
				break
			}
		}
	}
}

// P6.1: no numbers: a - without a digit, and a first digit 0 that is not alone, whatever follows and however many digits they are.
func TestNoNumbers(t *testing.T) {
	for _, s := range []string{"-", "--1", "-a", "-.5", "-e", "-e5", "-E", "- 1", "-\n", "-true", "-\"", "-,", "-[", "-/", "-:", "-+1",
		"00", "01", "-00", "-01", "007", "0123", "01.", "01.5", "00.0", "01e", "01e5", "00E", "-01.", "-00e1", "-07E", "00a", "01a", "08", "09", "0x1", "-0x1", "0b", "0z", "-0Z",
		"00000000000000000000000", "0" + strings.Repeat("9", 30), "-0" + strings.Repeat("9", 30), "0" + strings.Repeat("9", 30) + ".", "0" + strings.Repeat("9", 30) + "e"} {
		checkRefused(t, s, api.ErrText)
	}
}

// P6.1: what stands right behind a number, each byte: . and e and E make it one that is refused as a number; a digit or another letter make it no number at all, however great; all else leaves it.
func TestBehindNumbers(t *testing.T) {
	great := []string{"9223372036854775808", "-9223372036854775809", "99999999999999999999999999", "18446744073709551617"}
	for x := range 256 {
		behind := string([]byte{byte(x)})
		for s, n := range map[string]int64{"0": 0, "-0": 0, "5": 5, "-12": -12, "9223372036854775807": math.MaxInt64, "-9223372036854775808": math.MinInt64} {
			for _, rest := range []string{"", "1", "a", "."} {
				switch {
				case x >= '0' && x <= '9' && n != 0:
					// It is another number then: TestManyBytes has those.
				case x >= '0' && x <= '9':
					checkRefused(t, s+behind+rest, api.ErrText)
				case strings.Contains(".eE", behind):
					checkRefused(t, s+behind+rest, api.ErrNumber)
				case letter.MatchString(behind):
					checkRefused(t, s+behind+rest, api.ErrText)
				default:
					checkWord(t, s, behind+rest, jlex.Word{Kind: jlex.Number, Int: n})
				}
			}
		}
		for _, s := range great {
			want := api.ErrNumber
			if letter.MatchString(behind) && !strings.Contains(".eE", behind) {
				want = api.ErrText
			}
			checkRefused(t, s+behind, want)
			if strings.Contains(".eE", behind) {
				checkRefused(t, s+behind+"z", want)
			}
		}
	}
}

// P6.1: the words of letters are just those, in that case, to their last letter.
func TestNoWordsOfLetters(t *testing.T) {
	for _, s := range []string{"true", "false", "null"} {
		for size := 1; size < len(s); size++ {
			for _, rest := range []string{"", " ", "_", s[size:size+1] + "_", "]", "\xff", s} {
				if strings.HasPrefix(s[:size]+rest, s) {
					continue // the piece and its last letter are the word again
				}
				checkRefused(t, s[:size]+rest, api.ErrText)
			}
		}
		checkRefused(t, strings.ToUpper(s), api.ErrText)
		checkRefused(t, strings.ToUpper(s[:1])+s[1:], api.ErrText)
		for place := range s {
			for x := range 256 {
				b := []byte(s)
				b[place] = byte(x)
				if byte(x) == s[place] || place == 0 && !letter.Match(b) {
					continue // the word itself, or a word of another kind
				}
				checkRefused(t, string(b), api.ErrText)
			}
		}
	}
	for _, s := range []string{"nil", "none", "t", "f", "n", "tfn", "truth", "fals", "nul", "falsetrue", "truefalse", "nullnull", "tnull"} {
		checkRefused(t, s, api.ErrText)
	}
}

// P6.1: what stands right behind a word of letters, each byte: no digit and no letter.
func TestBehindWordsOfLetters(t *testing.T) {
	for s, want := range map[string]jlex.Word{"true": {Kind: 7, Int: 1}, "false": {Kind: 7}, "null": {Kind: 8}} {
		for x := range 256 {
			behind := string([]byte{byte(x)})
			if goesOn.MatchString(behind) {
				checkRefused(t, s+behind, api.ErrText)
				checkRefused(t, s+behind+" ", api.ErrText)
				continue
			}
			checkWord(t, s, behind, want)
			checkWord(t, s, behind+"1", want)
		}
	}
}

// P6.1: what stands behind \, each byte: just eight of them are escapes of one byte.
func TestShortEscapes(t *testing.T) {
	means := map[byte]string{'"': "\x22", '\\': "\x5c", '/': "\x2f", 'b': "\x08", 'f': "\x0c", 'n': "\x0a", 'r': "\x0d", 't': "\x09"}
	for x := range 256 {
		s := string([]byte{'\\', byte(x)})
		if mean, ok := means[byte(x)]; ok {
			checkWord(t, `"`+s+`"`, "", jlex.Word{Kind: jlex.Text, Text: mean})
			checkWord(t, `"a`+s+s+`u0041"`, `"`, jlex.Word{Kind: jlex.Text, Text: "a" + mean + mean + "u0041"})
			continue
		}
		checkRefused(t, `"`+s+`"`, api.ErrText)
		checkRefused(t, `"a`+s+`a"`, api.ErrText)
	}
}

// P6.1: escapes of four digits, of either case: each number that is no surrogate is its character, and each surrogate alone is refused.
func TestUnits(t *testing.T) {
	for u := range 65536 {
		for _, form := range []string{`"\u%04x"`, `"\u%04X"`} {
			s := fmt.Sprintf(form, u)
			if utf16.IsSurrogate(rune(u)) {
				check(t, []byte(s), 0, jlex.Word{}, api.ErrText)
				continue
			}
			check(t, []byte(s), 0, jlex.Word{Kind: jlex.Text, Text: string(rune(u)), Next: len(s)}, api.OK)
		}
	}
	for s, want := range map[string]string{`"\u00Ff\uaBcD"`: "\u00ff\uabcd", `"\u0041b"`: "Ab", `"\u00411"`: "A1", `"\u0000"`: "\x00", `"\u0022\u005c"`: "\"\\", `"\\u0041"`: `\u0041`, `"\\\u0041"`: `\A`, `"\u005cn"`: `\n`} {
		checkWord(t, s, "", jlex.Word{Kind: jlex.Text, Text: want})
	}
}

// P6.1: at each of the four places just hexadecimal digits may be; and there are no fewer than four.
func TestUnitDigits(t *testing.T) {
	for place := range 4 {
		for x := range 256 {
			digits := []byte("0041")
			digits[place] = byte(x)
			s := `"\u` + string(digits) + `"`
			n, err := strconv.ParseUint(string(digits), 16, 32)
			if err != nil || strings.ContainsAny(string(digits), "_+-") {
				checkRefused(t, s, api.ErrText)
			} else if !utf16.IsSurrogate(rune(n)) {
				checkWord(t, s, "", jlex.Word{Kind: jlex.Text, Text: string(rune(n))})
			}
		}
	}
	for _, s := range []string{`"\u"`, `"\u0"`, `"\u00"`, `"\u004"`, `"\u004`, `"\u0041`, `"\u`, `"\u0`, `"\u 041"`, `"\u+041"`, `"\u-041"`, `"\u0x41"`, `"\u{41}"`, `"\U0041"`, `"\x41"`, `"\u00 41"`, "\"\\u00\xc3\xa4\"", `"\u\u0041"`, `"\u004\n"`} {
		checkRefused(t, s, api.ErrText)
	}
}

// P6.1: two escapes that are a pair of surrogates are its character, of either case of their digits.
func TestPairs(t *testing.T) {
	for high := 0xd7fe; high <= 0xdc02; high += 2 {
		for low := 0xdbfe; low <= 0xe002; low += 3 {
			s := fmt.Sprintf(`"\u%04x\u%04X"`, high, low)
			want, ok := meant(s[1 : len(s)-1])
			if !ok {
				check(t, []byte(s), 0, jlex.Word{}, api.ErrText)
				continue
			}
			check(t, []byte(s), 0, jlex.Word{Kind: jlex.Text, Text: want, Next: len(s)}, api.OK)
		}
	}
	for s, want := range map[string]string{
		`"\ud800\udc00"`: "\U00010000", `"\uDBFF\uDFFF"`: "\U0010ffff", `"\ud83d\ude00"`: "😀", `"\uD83D\ude00"`: "😀", `"a\uD83d\uDe00b"`: "a😀b", `"\ud83d\ude00\ud83d\ude00"`: "😀😀", `"\ud83d\ude00\u00e4"`: "😀ä", `"\ud83d\ude00d83d"`: "😀d83d", `"\ud7ff\ue000"`: "\ud7ff\ue000",
	} {
		checkWord(t, s, "x", jlex.Word{Kind: jlex.Text, Text: want})
	}
}

// P6.1: surrogates that are none of a pair: alone, the low one first, two of a kind, something between them, ends between them, one written as bytes.
func TestNoPairs(t *testing.T) {
	for _, s := range []string{
		`"\ud83d"`, `"\ude00"`, `"\ud83da"`, `"a\ud83d"`, `"\ud83d `, `"\ude00\ud83d"`, `"\ud83d\ud83d"`, `"\ude00\ude00"`, `"\ud83d\ud83d\ude00"`, `"\ud83d\ude00\ude00"`, `"\ud83d\ude00\ud83d"`,
		`"\ud83d \ude00"`, `"\ud83d\n\ude00"`, `"\ud83d\\ude00"`, `"\ud83d\u0041\ude00"`, `"\ud83d\u0041"`, `"\ud83d\udbff"`, `"\ud83d\ue000"`, `"\ud83d\ud7ff"`, `"\ud83d\"`, `"\ud83d\u"`, `"\ud83d\ude0"`, `"\ud83d\ude0g"`, `"\ud83d\Ude00"`, `"\ud83dude00"`, `"\ud83d/ude00"`, `"\ud83d\xde00"`, `"\ud83d`, `"\ud83d\`, `"\ud83d\ude00`,
		"\"\\ud83d\xed\xb8\x80\"", "\"\xed\xa0\xbd\\ude00\"", "\"\xed\xa0\xbd\xed\xb8\x80\"", `"\ud83d😀"`, `"😀\ude00"`,
	} {
		checkRefused(t, s, api.ErrText)
	}
}

// P6.1: each byte within a text: those below 32 may not be, nor may bytes that are no character's.
func TestBytesOfTexts(t *testing.T) {
	for x := range 256 {
		s := `"a` + string([]byte{byte(x)}) + `b"`
		switch {
		case x == '"':
			checkWord(t, `"a"`, `b"`, jlex.Word{Kind: jlex.Text, Text: "a"})
		case x == '\\':
			checkWord(t, s, "", jlex.Word{Kind: jlex.Text, Text: "a\b"})
		case x < 32 || x > 127:
			checkRefused(t, s, api.ErrText)
		default:
			checkWord(t, s, "", jlex.Word{Kind: jlex.Text, Text: s[1 : len(s)-1]})
		}
	}
	for _, bad := range []string{"\x80", "\xbf", "\xc0\x80", "\xc1\xbf", "\xc2", "\xc2A", "\xe0\x80\x80", "\xe0\x9f\xbf", "\xe2\x82", "\xe2\x82A", "\xed\xa0\x80", "\xed\xbf\xbf", "\xf0\x80\x80\x80", "\xf0\x8f\xbf\xbf", "\xf0\x9f\x98", "\xf4\x90\x80\x80", "\xf5\x80\x80\x80", "\xff", "\xfe", "ä\xa4", "€\x82"} {
		checkRefused(t, `"`+bad+`"`, api.ErrText)
		checkRefused(t, `"ä`+bad+`ä"`, api.ErrText)
		checkRefused(t, `"`+bad, api.ErrText)
		// Behind the text they are not looked at.
		checkWord(t, `"ä"`, bad, jlex.Word{Kind: jlex.Text, Text: "ä"})
	}
	for _, good := range []string{"\u007f", "\u0080", "\u07ff", "\u0800", "\ud7ff", "\ue000", "\ufffd", "\uffff", "\U00010000", "\U0010ffff", "/", "'", "\u2028", "\ufeff"} {
		checkWord(t, `"`+good+`"`, "", jlex.Word{Kind: jlex.Text, Text: good})
	}
}

// P6.1: texts without an end, cut at each place, also where spare room behind them has the rest (rule 8).
func TestTextsWithoutAnEnd(t *testing.T) {
	for _, s := range []string{`"`, `"a`, `"\"`, `"a\"`, `"\\\"`, `"a b, `, `"\`, `"a\`, "\"a\n", "\"a\xc3"} {
		checkRefused(t, s, api.ErrText)
	}
	whole := []byte(`"aä\n\u00e4\ud83d\ude00€\\\""`)
	for size := 1; size < len(whole); size++ {
		check(t, whole[:size], 0, jlex.Word{}, api.ErrText)
		check(t, bytes.Clone(whole[:size]), 0, jlex.Word{}, api.ErrText)
	}
	check(t, whole, 0, jlex.Word{Kind: jlex.Text, Text: "aä\nä😀€\\\"", Next: len(whole)}, api.OK)
	long := `"` + strings.Repeat("ä", 30000)
	check(t, []byte(long), 0, jlex.Word{}, api.ErrText)
	check(t, []byte(long+`"`), 0, jlex.Word{Kind: jlex.Text, Text: long[1:], Next: len(long) + 1}, api.OK)
}

// Rule 8: what lies behind the bytes' length is not read.
func TestSpareRoomIsNotRead(t *testing.T) {
	room := []byte("truex")
	check(t, room[:3], 0, jlex.Word{}, api.ErrText)
	check(t, room[:4], 0, jlex.Word{Kind: jlex.Truth, Int: 1, Next: 4}, api.OK)
	room = []byte("-12.5")
	check(t, room[:1], 0, jlex.Word{}, api.ErrText)
	check(t, room[:2], 0, jlex.Word{Kind: jlex.Number, Int: -1, Next: 2}, api.OK)
	check(t, room[:3], 0, jlex.Word{Kind: jlex.Number, Int: -12, Next: 3}, api.OK)
	check(t, room[:4], 0, jlex.Word{}, api.ErrNumber)
	check(t, room[:0], 0, jlex.Word{Kind: jlex.End}, api.OK)
	check(t, room[:1], 3, jlex.Word{}, api.ErrArg)
	room = []byte("   1")
	check(t, room[:2], 0, jlex.Word{Kind: jlex.End, At: 2, Next: 2}, api.OK)
}

// Rule 4: the text that is told is its own memory.
func TestTextIsNotTheBytes(t *testing.T) {
	b := []byte(`"foo" "bar"`)
	w, _ := jlex.Take(b, 0)
	words, _ := jlex.All(b)
	clear(b)
	if w.Text != "foo" || words[0].Text != "foo" || words[1].Text != "bar" {
		t.Errorf("the texts are %q, %q, %q", w.Text, words[0].Text, words[1].Text)
	}
}

// P6.2: the chapter's example, and others.
func TestAllOfGivenTexts(t *testing.T) {
	for _, row := range []struct {
		s    string
		want []jlex.Word
	}{
		{"", nil}, {" \n\t\r ", nil},
		{`[-7, "a\u00e4"]`, []jlex.Word{{3, 0, "", 0, 1}, {9, -7, "", 1, 3}, {6, 0, "", 3, 4}, {10, 0, "aä", 5, 14}, {4, 0, "", 14, 15}}},
		{` {"a":true , "":null}`, []jlex.Word{{1, 0, "", 1, 2}, {10, 0, "a", 2, 5}, {5, 0, "", 5, 6}, {7, 1, "", 6, 10}, {6, 0, "", 11, 12}, {10, 0, "", 13, 15}, {5, 0, "", 15, 16}, {8, 0, "", 16, 20}, {2, 0, "", 20, 21}}},
		{"1-2 -0", []jlex.Word{{9, 1, "", 0, 1}, {9, -2, "", 1, 3}, {9, 0, "", 4, 6}}},
		{`false"false"null"\n"0`, []jlex.Word{{7, 0, "", 0, 5}, {10, 0, "false", 5, 12}, {8, 0, "", 12, 16}, {10, 0, "\n", 16, 20}, {9, 0, "", 20, 21}}},
		{"]}],:{", []jlex.Word{{4, 0, "", 0, 1}, {2, 0, "", 1, 2}, {4, 0, "", 2, 3}, {6, 0, "", 3, 4}, {5, 0, "", 4, 5}, {1, 0, "", 5, 6}}},
	} {
		got, e := jlex.All([]byte(row.s))
		if e != api.OK || !slices.Equal(got, row.want) {
			t.Errorf("All(%q) = %+v, %d, not %+v", row.s, got, int(e), row.want)
		}
		checkAll(t, []byte(row.s))
	}
}

// P6.2: what is refused first is told, from the front, wherever it stands, and no words with it.
func TestAllOfRefusals(t *testing.T) {
	for _, row := range []struct {
		s    string
		want api.Errno
	}{
		{"1.5", api.ErrNumber}, {"1e5", api.ErrNumber}, {"[1, 2E0]", api.ErrNumber}, {"x", api.ErrText}, {`["a", "b`, api.ErrText}, {"[1, 2", api.OK},
		{"1. x", api.ErrNumber}, {"x 1.", api.ErrText}, {"9223372036854775808 tru", api.ErrNumber}, {"tru 9223372036854775808", api.ErrText}, {`"\ud800" 1.`, api.ErrText}, {`1. "\ud800"`, api.ErrNumber},
		{"true false null 01", api.ErrText}, {strings.Repeat("[", 40000), api.OK}, {strings.Repeat("1 ", 40000) + "1.", api.ErrNumber}, {strings.Repeat("1 ", 40000) + "?", api.ErrText},
	} {
		words, e := jlex.All([]byte(row.s))
		if e != row.want || e != api.OK && len(words) != 0 {
			t.Errorf("All(%.30q) = %d words, %d, not %d", row.s, len(words), int(e), int(row.want))
		}
	}
}

// P6.3: the quoted form of each byte, alone and among others, and what Take reads of it.
func TestQuoteOfEachByte(t *testing.T) {
	named := map[int]string{8: `\b`, 9: `\t`, 10: `\n`, 12: `\f`, 13: `\r`, 34: `\"`, 92: `\\`}
	for x := range 256 {
		s := string([]byte{byte(x)})
		want, ok := named[x]
		switch {
		case ok:
		case x < 32:
			want = fmt.Sprintf(`\u00%02x`, x)
		default:
			want = s
		}
		for text, form := range map[string]string{s: want, "a" + s + "b": "a" + want + "b", s + s: want + want} {
			b := jlex.Quote(nil, text)
			if string(b) != `"`+form+`"` {
				t.Fatalf("Quote of %q is %q, not %q", text, b, form)
			}
			if utf8.ValidString(text) {
				check(t, b, 0, jlex.Word{Kind: jlex.Text, Text: text, Next: len(b)}, api.OK)
			} else {
				check(t, b, 0, jlex.Word{}, api.ErrText)
			}
		}
	}
}

// P6.3: given texts; what is no ASCII, / and 127 stay as they are, and so do bytes that are no characters.
func TestQuoteOfGivenTexts(t *testing.T) {
	for s, want := range map[string]string{
		"": `""`, "a": `"a"`, "aä€😀": `"aä€😀"`, "a/b": `"a/b"`, "\x7f": "\"\x7f\"", "\u2028<>&'": "\"\u2028<>&'\"", `a"b\c`: `"a\"b\\c"`, "\x00\x1f\x10\x0b\x0e": `"\u0000\u001f\u0010\u000b\u000e"`, `\u0041`: `"\\u0041"`, "\xff\xc3\xed\xa0\x80": "\"\xff\xc3\xed\xa0\x80\"",
	} {
		if got := jlex.Quote(nil, s); string(got) != want {
			t.Errorf("Quote of %q is %q, not %q", s, got, want)
		}
	}
}

// P6.3: the bytes that are there stay as they are, with spare room or without, whatever they are.
func TestQuoteStandsBehind(t *testing.T) {
	for _, s := range []string{"", "a", "\n\"\\", "\x01\x02\x03", "äöü€", strings.Repeat("x\x00", 200)} {
		want := jlex.Quote(nil, s)
		for _, room := range []int{0, 1, 2, 3, len(want), len(want) + 5, 5000} {
			b := append(make([]byte, 0, 3+room), 0xff, '"', '\\')
			got := jlex.Quote(b, s)
			if !bytes.Equal(got, append([]byte{0xff, '"', '\\'}, want...)) {
				t.Fatalf("Quote of %.20q with room for %d: %.40q", s, room, got)
			}
			if !bytes.Equal(b, []byte{0xff, '"', '\\'}) {
				t.Fatalf("Quote of %.20q with room for %d changed what it was handed: %q", s, room, b)
			}
		}
	}
}

// P6.4: a text of characters is quoted as one word, that has it, whatever follows; and the library reads it so too.
func TestQuotedIsOneWord(t *testing.T) {
	some := random(11)
	rests := []string{"", " ", "\"", "a", "1", "\\", "\xff", ":1}", "\"\"", "\x00", ".5", "e1"}
	for size := range 4000 {
		var text []rune
		for range size % 12 {
			c := rune(some([]int{40, 128, 2048, 65536, 1114112}[some(5)]))
			if utf8.ValidRune(c) {
				text = append(text, c)
			}
		}
		s := string(text)
		b := jlex.Quote([]byte(" "), s)
		for _, rest := range rests {
			check(t, append(bytes.Clone(b), rest...), 0, jlex.Word{Kind: jlex.Text, Text: s, At: 1, Next: len(b)}, api.OK)
		}
		var back string
		if err := json.Unmarshal(b, &back); err != nil || back != s {
			t.Fatalf("the library reads %q as %q, %v", b, back, err)
		}
	}
}

// bare is words without their places.
func bare(words []jlex.Word) []jlex.Word {
	out := slices.Clone(words)
	for i := range out {
		out[i].At, out[i].Next = 0, 0
	}
	return out
}

// P6.4: words with white bytes between them are the same words, whatever the bytes are.
func TestWhiteBytesBetweenWords(t *testing.T) {
	some := random(23)
	forms := make([]string, 0)
	for s := range given() {
		forms = append(forms, s)
	}
	slices.Sort(forms)
	for range 2000 {
		var want []jlex.Word
		var b []byte
		for range some(12) {
			s := forms[some(len(forms))]
			for range 1 + some(3) {
				b = append(b, " \t\n\r"[some(4)])
			}
			w := given()[s]
			w.At, w.Next = len(b), len(b)+len(s)
			b = append(b, s...)
			want = append(want, w)
		}
		got, e := jlex.All(append(b, " \n"[:some(3)]...))
		if e != api.OK || !slices.Equal(got, want) {
			t.Fatalf("All(%q) = %+v, %d, not %+v", b, got, int(e), want)
		}
		again, e := jlex.All(spread(b, got))
		if e != api.OK || !slices.Equal(bare(again), bare(got)) {
			t.Fatalf("All of %q with more between is %+v, %d, not %+v", b, again, int(e), got)
		}
	}
	close, e := jlex.All([]byte(`{"a":[1,true,-2],"b":null}`))
	wide, f := jlex.All([]byte("\n{ \"a\"\t: [ 1 , true\r\n, -2 ] , \"b\" : null } "))
	if e != api.OK || f != api.OK || !slices.Equal(bare(close), bare(wide)) || len(close) != 15 {
		t.Errorf("%+v, %+v", close, wide)
	}
}

// spread is the words of b with more white bytes between them.
func spread(b []byte, words []jlex.Word) []byte {
	out := []byte("\r\n")
	for _, w := range words {
		out = append(out, b[w.At:w.Next]...)
		out = append(out, " \t \n"...)
	}
	return out
}

// P6.1, P6.2, in their own words, of all of one and two bytes, and of more at which something turns.
func TestManyBytes(t *testing.T) {
	for x := range 256 {
		checkWanted(t, []byte{byte(x)})
		for y := range 256 {
			checkWanted(t, []byte{byte(x), byte(y)})
			quoted := []byte{'"', byte(x), byte(y), '"'}
			want, e := wanted(quoted, 0)
			check(t, quoted, 0, want, e)
		}
	}
	turns := []byte("-01589.eEaZ_\"\\u \n\x1f\x7f\x80\xc3\xa4{],:tn")
	for _, x := range turns {
		for _, y := range turns {
			for _, z := range turns {
				checkWanted(t, []byte{x, y, z})
				for _, last := range turns {
					b := []byte{x, y, z, last}
					want, e := wanted(b, 0)
					check(t, b, 0, want, e)
				}
			}
		}
	}
}

// P6.1, P6.2, of words and pieces of words laid together that hang on no rule.
func TestAnyWords(t *testing.T) {
	some := random(31)
	pieces := []string{" ", "\n", "\t", "\r", "\x0b", "{", "}", "[", "]", ":", ",", "true", "false", "null", "tru", "nul", "fals", "0", "-0", "-", "1", "-7", "01", "9223372036854775807", "9223372036854775808", "-9223372036854775808", "-9223372036854775809", "1.5", "2e3", "3E", ".", "e", "x", "Z", "_", `""`, `"a"`, `"`, `\`, `\"`, `\\`, `\n`, `\/`, `\u`, `\u00e4`, `\uD83D`, `\ude00`, `"\ud83d\ude00"`, "ä", "€", "\xff", "\xc3", "\x00", "\x1f", "\x7f"}
	kinds := map[api.Errno]int{}
	for range 60000 {
		var b []byte
		count := some(9)
		inText := some(3) == 0
		if inText {
			b = append(b, '"')
		}
		for range count {
			b = append(b, pieces[some(len(pieces))]...)
			if !inText && some(2) == 0 {
				b = append(b, ' ')
			}
		}
		if inText && some(4) > 0 {
			b = append(b, '"')
		}
		want, e := wanted(b, 0)
		check(t, b, 0, want, e)
		checkAll(t, b)
		kinds[e]++
	}
	if kinds[api.OK] < 5000 || kinds[api.ErrText] < 5000 || kinds[api.ErrNumber] < 1000 {
		t.Errorf("too few of a kind: %v", kinds)
	}
}

// RFC 8259 as the library has it: what Take tells as a text, and what it refuses, within the bounds of the chapter.
func TestTextsAsTheLibraryHasThem(t *testing.T) {
	some := random(41)
	pieces := []string{"a", " ", "/", `\"`, `\\`, `\/`, `\b`, `\f`, `\n`, `\r`, `\t`, `\u0041`, `\u00E4`, `\ud83d\ude00`, `\uDBFF\uDFFF`, "ä", "€", "😀", "\x7f", `\x`, "\n", `\u12`, `\U0041`}
	taken := 0
	for range 30000 {
		b := []byte{'"'}
		for range some(8) {
			b = append(b, pieces[some(len(pieces))]...)
		}
		b = append(b, '"')
		var want string
		err := json.Unmarshal(b, &want)
		w, e := jlex.Take(b, 0)
		if (e == api.OK) != (err == nil) || e == api.OK && (w.Text != want || w.Next != len(b)) || e != api.OK && e != api.ErrText {
			t.Fatalf("Take(%q) = %+v, %d; the library has %q, %v", b, w, int(e), want, err)
		}
		if e == api.OK {
			taken++
		}
	}
	if taken < 5000 || taken > 25000 {
		t.Errorf("%d were taken", taken)
	}
}
