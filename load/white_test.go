package load_test

import (
	"bytes"
	"slices"
	"strings"
	"testing"

	"avocet/api"
	"avocet/jlex"
)

// words are the words of a text, as it has them.
func words(t *testing.T, text string) []string {
	t.Helper()
	all, e := jlex.All([]byte(text))
	if e != api.OK {
		t.Fatalf("All(%s) is %d", text, e)
	}
	var out []string
	for _, w := range all {
		out = append(out, text[w.At:w.Next])
	}
	return out
}

// some are texts that are loaded, and ones that are refused, with what refuses them.
func some() map[string]api.Errno {
	return map[string]api.Errno{
		`"int"`: 0, `["null","int"]`: 0, rich: 0, with(`["null","r"]`, `null`, `"int"`, `-7`, `"boolean"`, `true`): 0, `{"type":"fixed","name":"x","size":0}`: 0,
		`"nothing"`: 33, `[]`: 34, `{}`: 30, `7`: 30, with(`"int"`, `"no"`): 35, with(`"r"`, ``): 3, with(`"int"`, `1`) + `,`: 20, `["int"`: 20, `{"type":"int","type":"int"}`: 23, lists(33): 21, `99999999999999999999`: 22,
	}
}

// P14.3: white bytes of each kind, ahead of a text, behind it, and between its words.
func TestWhiteBytes(t *testing.T) {
	for text, refused := range some() {
		want, e := checkBytes(t, []byte(text))
		if e != refused {
			t.Fatalf("Text(%s) is %d, not %d", text, e, refused)
		}
		parts := words(t, strings.Replace(text, "99999999999999999999", "7", 1))
		if refused == 22 {
			parts = []string{text}
		}
		for _, white := range []string{" ", "\t", "\n", "\r", "\r\n", " \t\r\n", "    ", "\n\n\n"} {
			for _, spaced := range []string{white + text, text + white, white + text + white, strings.Join(parts, white), white + strings.Join(parts, white) + white} {
				got, e := checkBytes(t, []byte(spaced))
				if e != refused || !alike(got, want) {
					t.Fatalf("Text(%q) = %s, %d", spaced, line(got), e)
				}
			}
			for at := range parts {
				spaced := strings.Join(slices.Insert(slices.Clone(parts), at, white), "")
				if got, e := checkBytes(t, []byte(spaced)); e != refused || !alike(got, want) {
					t.Fatalf("Text(%q) = %s, %d", spaced, line(got), e)
				}
			}
		}
	}
}

// P14.3: bytes that are not white, ahead of a text, behind it, and within it.
func TestNotWhite(t *testing.T) {
	for c := range 256 {
		if strings.ContainsRune(" \t\r\n", rune(c)) || c == '"' {
			continue
		}
		odd := string([]byte{byte(c)})
		for _, text := range []string{odd + `"int"`, `"int"` + odd, `"int" ` + odd + " ", " " + odd + ` ["int"]`, `["null"` + odd + `"int"]`, odd} {
			want := api.Errno(20)
			switch {
			case text == `["null","int"]`:
				want = 0
			case text == ` [ ["int"]`:
				want = 20
			case c >= '0' && c <= '9' && text == odd:
				want = 30
			}
			checkRefusedOr(t, text, want)
		}
	}
	for _, odd := range []string{"\xc2\xa0", "\xe2\x80\xa8", "\xef\xbb\xbf", "/**/", "\\n", "//", "#"} {
		checkRefused(t, odd+`"int"`, 20)
		checkRefused(t, `"int"`+odd, 20)
	}
}

// P14.3: just as many bytes as there may be, and one more, wherever they are white.
func TestManyWhiteBytes(t *testing.T) {
	for text, refused := range some() {
		want, _ := checkBytes(t, []byte(text))
		middle := strings.IndexAny(text, ",:]")
		for _, size := range []int{19999, 20000, 20001, 20002, 40000} {
			white := bytes.Repeat([]byte(" \t\r\n"), size/4+1)[:size-len(text)]
			half := len(white) / 2
			all := []string{string(white) + text, text + string(white), string(white[:half]) + text + string(white[half:])}
			if middle >= 0 {
				all = append(all, text[:middle]+string(white)+text[middle:])
			}
			for _, spaced := range all {
				got, e := checkBytes(t, []byte(spaced))
				if size > 20000 && e != 3 || size <= 20000 && (e != refused || !alike(got, want)) {
					t.Fatalf("Text(%.200s), with white bytes %d in all, = %s, %d", text, size, line(got), e)
				}
			}
		}
	}
	for _, size := range []int{19999, 20000, 20001} {
		want := map[int]api.Errno{19999: 20, 20000: 20, 20001: 3}[size]
		checkRefused(t, strings.Repeat(" ", size), want)
		checkRefused(t, strings.Repeat("x", size), want)
		checkRefused(t, strings.Repeat("\xff", size), want)
	}
	// A text that is a schema without any white byte, of just as many bytes.
	for _, size := range []int{19999, 20000, 20001} {
		ahead := `{"type":"int","doc":"`
		_, e := checkBytes(t, []byte(ahead+strings.Repeat("d", size-len(ahead)-2)+`"}`))
		if want := map[int]api.Errno{20001: 3}[size]; e != want {
			t.Errorf("of %d bytes it is %d", size, e)
		}
	}
}

// pieces are parts of texts that stand anywhere.
func pieces() []string {
	return []string{
		`"`, `{`, `}`, `[`, `]`, `,`, `:`, ` `, "\n", `\`, `1`, `-`, `.`, `e`, `null`, `true`, `"int"`, `"null"`, `"long"`, `"r"`, `"n.e"`, `"x"`, `"type"`, `"name"`, `"default":`, `"default":7,`, `"fields":[]`, `["null"]`, `{"type":"int"}`, `"type":`, `"a"`, `"A"`, `"no"`, `7`, `[]`, `{}`,
		`{"type":"array","items":"int"}`, `{"type":"fixed","name":"z","size":1}`, "\xff", "\x00", "ä", `\u00e4`, `\ud800`, `{"name":"z","type":"int","default":1},`, `{"name":"z","type":["null","r"],"default":{}},`,
	}
}

// P14.1, P14.3: each beginning of a text, and each text with a byte less, or another one, or more.
func TestAnyByte(t *testing.T) {
	text := with(`["null","r"]`, `null`, `{"type":"enum","name":"e","symbols":["A"]}`, `"A"`, `"int"`, `-7`)
	answers := map[api.Errno]int{}
	for at := range len(text) + 1 {
		_, e := checkBytes(t, []byte(text[:at]))
		answers[e]++
		for _, piece := range pieces() {
			_, e = checkBytes(t, []byte(text[:at]+piece+text[at:]))
			answers[e]++
			if at < len(text) {
				_, e = checkBytes(t, []byte(text[:at]+piece+text[at+1:]))
				answers[e]++
			}
		}
	}
	for _, e := range []api.Errno{0, 20, 22, 30, 31, 33, 35} {
		if answers[e] == 0 {
			t.Errorf("no text is answered by %d", e)
		}
	}
}

// P14.1, P14.3: texts that hang on no rule: mostly another text in the place of one.
func TestAnyText(t *testing.T) {
	some := random(14)
	answers := map[api.Errno]int{}
	texts := []string{rich, with(`["null","r"]`, `null`, `"int"`, `7`), with(inner("n.o", `"int"`, `1`), `{}`, `"n.o"`, `{"f0":2}`, arrays(1, `"n.o"`), `[{},{}]`)}
	for n := range 8000 {
		parts := words(t, texts[n%len(texts)])
		for range 1 + some(3) {
			at, other := some(len(parts)), parts[some(len(parts))]
			switch change := some(24); {
			case change == 0:
				parts[at] = pieces()[some(len(pieces()))]
			case change == 1:
				parts = slices.Insert(parts, at, other)
			case change == 2:
				parts = slices.Delete(parts, at, at+1)
			case parts[at][0] == '"' && other[0] == '"' && change%2 == 0:
				parts[at] = other
			case parts[at][0] == '"':
				all := []string{`"int"`, `"r"`, `"n.e"`, `"no"`, `"A"`, `"f0"`, `"default"`, `"symbols"`, `"-"`, `null`, `7`, `"string"`, `[]`, `{"type":"double"}`}
				parts[at] = all[some(len(all))]
			}
		}
		_, e := checkBytes(t, []byte(strings.Join(parts, "")))
		answers[e]++
	}
	for _, e := range []api.Errno{0, 20, 23, 30, 31, 33, 34, 35, 36} {
		if answers[e] < 10 {
			t.Errorf("just %v", answers)
		}
	}
}
