package lex_test

import (
	"regexp"
	"slices"
	"strconv"
	"strings"
	"testing"
	"unsafe"

	"backstay/api"
	"backstay/lex"
)

// The chapter's words, as patterns: the package itself goes byte by byte.
var (
	passedForm  = regexp.MustCompile(`^(?:[ \t\n]|#[^\n]*)*`)
	wordForm    = regexp.MustCompile(`^[a-zA-Z0-9_-]+`)
	nameForm    = regexp.MustCompile(`^[a-zA-Z][a-zA-Z0-9_-]*\z`)
	numberForm  = regexp.MustCompile(`^(?:0|[1-9][0-9]*)\z`)
	keywordForm = regexp.MustCompile(`^(?:protocol|vector|path|failures|node|link|dest|at|check|reach|within|waypoint|equal)\z`)
)

var keywords = []string{
	"protocol", "vector", "path", "failures", "node", "link", "dest", "at",
	"check", "reach", "within", "waypoint", "equal",
}

// edges are runs of word bytes at, and just beyond, what names and numbers may be.
var edges = []string{
	"a", "Z", "z9", "A-_", "a--", "a__", "abcdefghijkl", "ABCDEFGHIJKL", "a-_-_-_-_-_-", "abcdefghijk9",
	"abcdefghijklm", "a23456789012", "a234567890123", "_", "-", "_a", "-a", "9a", "0a", "1-", "1_0", "-1", "-0",
	"0", "1", "9", "10", "100", "9999", "10000", "65534", "65535", "65536", "65539", "65540", "65600", "66000",
	"70000", "99999", "100000", "655350", "655360", "999999999999", "9999999999999", "18446744073709551616",
	"18446744073709551617", "36893488147419103233", "00", "01", "00000", "065535", "000000000000",
	"At", "AT", "Node", "NODE", "nodes", "nod", "node-", "node_", "node1", "vectors", "waypoints", "_at", "at-", "0at",
}

func slowName(s string) bool {
	return nameForm.MatchString(s) && len(s) <= 12 && !keywordForm.MatchString(s)
}

func slowNumber(s string) int {
	if !numberForm.MatchString(s) || len(s) > 5 {
		return -1
	}
	n, err := strconv.Atoi(s)
	if err != nil || n > 65535 {
		return -1
	}
	return n
}

// slowLex takes a text's beginning off, piece by piece.
func slowLex(s string) ([]api.Token, api.Errno, int) {
	if len(s) > 10000 {
		return nil, 20, 10000
	}
	var tokens []api.Token
	rest := s
	for {
		rest = rest[len(passedForm.FindString(rest)):]
		at := len(s) - len(rest)
		word := wordForm.FindString(rest)
		switch {
		case rest == "":
			return append(tokens, api.Token{Kind: 4, At: at}), 0, 0
		case rest[0] == ';':
			tokens = append(tokens, api.Token{Kind: 3, Text: ";", At: at})
			rest = rest[1:]
			continue
		case slowName(word) || keywordForm.MatchString(word):
			tokens = append(tokens, api.Token{Kind: 1, Text: word, At: at})
		case slowNumber(word) >= 0:
			tokens = append(tokens, api.Token{Kind: 2, Text: word, N: slowNumber(word), At: at})
		default:
			return nil, 21, at
		}
		rest = rest[len(word):]
	}
}

func checkLex(t *testing.T, s string) {
	t.Helper()
	tokens, e, at := lex.Lex(s)
	wantTokens, wantE, wantAt := slowLex(s)
	if !slices.Equal(tokens, wantTokens) || e != wantE || at != wantAt {
		t.Fatalf("Lex(%.80q) = %v, %d, %d, want %v, %d, %d", s, tokens, e, at, wantTokens, wantE, wantAt)
	}
}

func checkRun(t *testing.T, s string) {
	t.Helper()
	if got, want := lex.Keyword(s), keywordForm.MatchString(s); got != want {
		t.Errorf("Keyword(%.80q) = %v, want %v", s, got, want)
	}
	if got, want := lex.Name(s), slowName(s); got != want {
		t.Errorf("Name(%.80q) = %v, want %v", s, got, want)
	}
	if got, want := lex.Number(s), slowNumber(s); got != want {
		t.Errorf("Number(%.80q) = %d, want %d", s, got, want)
	}
}

// eachText hands over every text of the alphabet's bytes, up to so many of them.
func eachText(alphabet string, most int, hand func(s string)) {
	texts := []string{""}
	for range most + 1 {
		var longer []string
		for _, s := range texts {
			hand(s)
			for i := range len(alphabet) {
				longer = append(longer, s+alphabet[i:i+1])
			}
		}
		texts = longer
	}
}

// eachByte hands over the texts of one byte, of all 256.
func eachByte(hand func(b byte, s string)) {
	for b := range 256 {
		hand(byte(b), string([]byte{byte(b)}))
	}
}

func TestL1Keywords(t *testing.T) {
	if len(keywords) != 13 {
		t.Fatal("there are 13 keywords")
	}
	for _, s := range keywords {
		if !lex.Keyword(s) || lex.Name(s) || lex.Number(s) != -1 {
			t.Errorf("%s is a keyword, and nothing else", s)
		}
		for _, near := range []string{s + "s", s + "-", s + " ", s + ";", " " + s, s[1:], s[:len(s)-1], strings.ToUpper(s), strings.ToUpper(s[:1]) + s[1:], s + "\x00", s + s} {
			if lex.Keyword(near) {
				t.Errorf("Keyword(%q) is true", near)
			}
		}
	}
	for _, s := range []string{"", "a", "0", "origin", "failure", "checks", "via", "cost"} {
		if lex.Keyword(s) {
			t.Errorf("Keyword(%q) is true", s)
		}
	}
}

func TestL1NamesAtTheEdges(t *testing.T) {
	for s, want := range map[string]bool{
		"": false, "a": true, "Z": true, "m5": true, "a-": true, "a_": true, "Z9-_": true, "At": true, "ata": true,
		"abcdefghijkl": true, "abcdefghijklm": false, "a-9_b-9_c-9_": true, "a-9_b-9_c-9_d": false,
		"0": false, "9a": false, "-": false, "-a": false, "_": false, "_a": false,
		"at": false, "waypoint": false, "a b": false, "a ": false, " a": false, "a.": false, "a;": false, "a#": false,
		"a\n": false, "a\x00": false, "a\u00e9": false, "\u00e9": false, "a\xff": false, "\u212a": false,
	} {
		if got := lex.Name(s); got != want {
			t.Errorf("Name(%q) = %v", s, got)
		}
	}
}

func TestL1EachByteOfAName(t *testing.T) {
	eachByte(func(b byte, s string) {
		letter := strings.IndexByte("abcdefghijklmnopqrstuvwxyzABCDEFGHIJKLMNOPQRSTUVWXYZ", b) >= 0
		other := strings.IndexByte("0123456789-_", b) >= 0
		if got := lex.Name(s); got != letter {
			t.Errorf("Name(%q) = %v", s, got)
		}
		for _, longer := range []string{"a" + s, "a" + s + "b", "abcdefghijk" + s} {
			if got := lex.Name(longer); got != (letter || other) && !lex.Keyword(longer) {
				t.Errorf("Name(%q) = %v", longer, got)
			}
		}
	})
}

func TestL1EveryNumber(t *testing.T) {
	for n := range 65536 {
		s := strconv.Itoa(n)
		if got := lex.Number(s); got != n {
			t.Fatalf("Number(%s) = %d", s, got)
		}
		if got := lex.Number("0" + s); got != -1 {
			t.Fatalf("Number(0%s) = %d", s, got)
		}
	}
	for n := 65536; n < 1000000; n++ {
		if got := lex.Number(strconv.Itoa(n)); got != -1 {
			t.Fatalf("Number(%d) = %d", n, got)
		}
	}
}

func TestL1WhatIsNoNumber(t *testing.T) {
	for _, s := range []string{
		"", "00", "01", "000", "-0", "-1", "+1", "1-", "1_0", "1 ", " 1", "1a", "a1", "0x1", "1.0", "1e3", "one", "1;",
		"\u0661", "\uff11", "1\x00", "\x001", "65536", "655350", "4294967297", "18446744073709551616", "18446744073709551617",
		"36893488147419103233", strings.Repeat("9", 10000), strings.Repeat("0", 10000), "1" + strings.Repeat("0", 9999),
	} {
		if got := lex.Number(s); got != -1 {
			t.Errorf("Number(%.40q) = %d", s, got)
		}
	}
	eachByte(func(b byte, s string) {
		want := strings.IndexByte("0123456789", b)
		if got := lex.Number(s); got != want {
			t.Errorf("Number(%q) = %d", s, got)
		}
		if want < 0 && (lex.Number("1"+s) != -1 || lex.Number(s+"1") != -1 || lex.Number("1"+s+"2") != -1) {
			t.Errorf("a number with %q in it", s)
		}
	})
}

func TestL1EveryShortRun(t *testing.T) {
	for _, s := range edges {
		checkRun(t, s)
	}
	eachText("aZ09-_ ", 5, func(s string) { checkRun(t, s) })
	eachText("at", 6, func(s string) { checkRun(t, s) })
	eachText("0156", 6, func(s string) { checkRun(t, s) })
}

func TestL2Example(t *testing.T) {
	tokens, e, at := lex.Lex("link a b 3;")
	want := []api.Token{
		{Kind: api.TokWord, Text: "link", At: 0},
		{Kind: api.TokWord, Text: "a", At: 5},
		{Kind: api.TokWord, Text: "b", At: 7},
		{Kind: api.TokNumber, Text: "3", N: 3, At: 9},
		{Kind: api.TokStop, Text: ";", At: 10},
		{Kind: api.TokEnd, Text: "", At: 11},
	}
	if !slices.Equal(tokens, want) || e != api.OK || at != 0 {
		t.Error(tokens, e, at)
	}
}

func TestL2PassedOver(t *testing.T) {
	for _, s := range []string{
		"", " ", "\t", "\n", " \t\n\n\t ", "#", "##", "#\n", "# no line feed behind it", "#a;b$\x00\xff\r\u00e9", "#a\n#b\n#c",
		"#\n\n#", " # \n\t# ; # \n ", "#" + strings.Repeat("$", 9999),
	} {
		tokens, e, at := lex.Lex(s)
		if len(tokens) != 1 || tokens[0] != (api.Token{Kind: api.TokEnd, At: len(s)}) || e != api.OK || at != 0 {
			t.Errorf("Lex(%.40q) = %v, %d, %d", s, tokens, e, at)
		}
	}
}

func TestL2WhereTokensEnd(t *testing.T) {
	for _, s := range []string{
		"a;b", ";;", "1;2", "a#b", "a#b\nc", "1#", "1#2\n3", ";#;\n;", "a b", "a\tb", "a\nb", "#x\na", "#x\n#y\na#z", "a #b\n#c\n d",
		"node a-1 65535;link\ta_b\n0 ;", "at at At 0 0", "a-b-c_", "a1;1;a", "a\n", "a ", "a#", "12 abcdefghijkl",
	} {
		if _, e, _ := lex.Lex(s); e != api.OK {
			t.Errorf("Lex(%q): error %d", s, e)
		}
		checkLex(t, s)
	}
}

func TestL2RunsAtTheEdges(t *testing.T) {
	for _, s := range append(slices.Clone(edges), keywords...) {
		for _, around := range [][2]string{{"", ""}, {" ", " "}, {";", ";"}, {"#\n", "#"}, {"a 1;", " b"}, {"", "\n"}, {"", "\r"}, {"\u00e9", ""}, {"", "\u00e9"}} {
			checkLex(t, around[0]+s+around[1])
		}
	}
}

func TestL2WrongBytes(t *testing.T) {
	const taken = " \t\n#;-_0123456789abcdefghijklmnopqrstuvwxyzABCDEFGHIJKLMNOPQRSTUVWXYZ"
	eachByte(func(b byte, s string) {
		if strings.IndexByte(taken, b) >= 0 {
			checkLex(t, s)
			return
		}
		for before, want := range map[string]int{"": 0, "a": 1, "1": 1, ";": 1, "node a 1;": 9, " \t\n": 3, "#x\n": 3} {
			for _, behind := range []string{"", "a", " ", "\n", "$", "00"} {
				tokens, e, at := lex.Lex(before + s + behind)
				if len(tokens) != 0 || e != api.ErrToken || at != want {
					t.Errorf("Lex(%q) = %v, %d, %d", before+s+behind, tokens, e, at)
				}
			}
		}
	})
}

func TestL2TheFirstErrorCounts(t *testing.T) {
	for s, want := range map[string]int{
		"01": 0, "a 01 $": 2, "a $ 01": 2, "1a$": 0, "a 65536": 2, "65535 65536": 6, "abcdefghijkl abcdefghijklm": 13,
		"-": 0, "a;-1": 2, "#$\n$": 3, "a _": 2, "abcdefghijklm$": 0, "node\r\n": 4, "a+b": 1, "\xef\xbb\xbfnode": 0, "a;;\x00": 3,
	} {
		tokens, e, at := lex.Lex(s)
		if len(tokens) != 0 || e != api.ErrToken || at != want {
			t.Errorf("Lex(%q) = %v, %d, %d, want %d", s, tokens, e, at, want)
		}
	}
}

func TestL2Length(t *testing.T) {
	for _, piece := range []string{" ", "\n", ";", "#", "a", "0", "9", "$", "\xff", "a ", "a;", "1 ", "#\n", "abcdefghijkl "} {
		for _, size := range []int{9998, 9999, 10000, 10001, 10002, 20000} {
			s := strings.Repeat(piece, size)[:size]
			checkLex(t, s)
			if size > 10000 {
				tokens, e, at := lex.Lex(s)
				if len(tokens) != 0 || e != api.ErrLong || at != 10000 {
					t.Errorf("%d of %q: %v, %d, %d", size, piece, tokens, e, at)
				}
			}
		}
	}
	if tokens, e, _ := lex.Lex(strings.Repeat(";", 10000)); len(tokens) != 10001 || e != api.OK {
		t.Error("10000 stops:", len(tokens), e)
	}
	if tokens, e, at := lex.Lex(strings.Repeat(" ", 9999) + "$"); len(tokens) != 0 || e != api.ErrToken || at != 9999 {
		t.Error("a wrong last byte:", tokens, e, at)
	}
}

func TestL2EveryShortText(t *testing.T) {
	eachText("aZ019-_ \t\n#;\r\x00$\xc3\xa9", 4, func(s string) { checkLex(t, s) })
	eachText("a0 #\n;", 7, func(s string) { checkLex(t, s) })
}

// texts are such without an error, for the theorem.
var texts = []string{
	"", " ", "#", "# a", "a", "a;", "link a b 3;", "protocol vector;failures 1;node a 1;node b 2;\nlink a b 3;",
	"protocol path 12; failures 0; # no links\nnode a-1 65535;\n\tdest x at a-1;check reach a-1 x; # the end",
	"a#b\n#c\nd;1;;2 abcdefghijkl", "0 0 0", ";;;", "at\tAt\nAT", "#\n#\n", strings.Repeat("a 1;", 100),
}

// withoutPlaces are the tokens' kinds, texts and numbers alone.
func withoutPlaces(tokens []api.Token) []api.Token {
	out := slices.Clone(tokens)
	for i := range out {
		out[i].At = 0
	}
	return out
}

func checkBetween(t *testing.T, s string, tokens []api.Token) {
	t.Helper()
	end := 0
	for i, token := range tokens {
		if token.At < end || token.At+len(token.Text) > len(s) {
			t.Fatalf("%.80q: token %d is at %d, the one ahead ends at %d", s, i, token.At, end)
		}
		between := s[end:token.At]
		if passedForm.FindString(between) != between {
			t.Errorf("%.80q: %q was passed over", s, between)
		}
		if s[token.At:token.At+len(token.Text)] != token.Text {
			t.Errorf("%.80q: no %q at %d", s, token.Text, token.At)
		}
		end = token.At + len(token.Text)
		if last := i == len(tokens)-1; last != (token.Kind == api.TokEnd) || last != (token.Text == "") {
			t.Errorf("%.80q: token %d of %d is %v", s, i, len(tokens), token)
		}
	}
	if end != len(s) {
		t.Errorf("%.80q: the end is at %d", s, end)
	}
}

func checkJoined(t *testing.T, s string, tokens []api.Token) {
	t.Helper()
	var pieces []string
	for _, token := range tokens[:len(tokens)-1] {
		pieces = append(pieces, token.Text)
	}
	for _, between := range []string{" ", "\n", "  ", "\n\n ", "#\n", " # ; $\x00 1a\n", "#a\n#b\n"} {
		again, e, at := lex.Lex(strings.Join(pieces, between))
		if e != api.OK || at != 0 || !slices.Equal(withoutPlaces(again), withoutPlaces(tokens)) {
			t.Errorf("%.80q, joined by %q: %v, %d, %d", s, between, again, e, at)
		}
	}
}

func TestL3OneBehindTheOther(t *testing.T) {
	for _, s := range texts {
		tokens, e, _ := lex.Lex(s)
		if e != api.OK {
			t.Fatalf("Lex(%.80q): error %d", s, e)
		}
		checkBetween(t, s, tokens)
		checkJoined(t, s, tokens)
	}
	eachText("a0 #\n;", 5, func(s string) {
		if tokens, e, _ := lex.Lex(s); e == api.OK {
			checkBetween(t, s, tokens)
			checkJoined(t, s, tokens)
		}
	})
}

func TestL3WhatStandsBehind(t *testing.T) {
	for _, s := range texts {
		tokens, _, _ := lex.Lex(s)
		for _, behind := range texts {
			more, e, _ := lex.Lex(behind)
			if e != api.OK {
				t.Fatalf("Lex(%.80q): error %d", behind, e)
			}
			want := slices.Clone(tokens[:len(tokens)-1])
			for _, token := range more {
				token.At += len(s) + 1
				want = append(want, token)
			}
			both, e, at := lex.Lex(s + "\n" + behind)
			if e != api.OK || at != 0 || !slices.Equal(both, want) {
				t.Errorf("%.80q and %.80q: %v, %d, %d", s, behind, both, e, at)
			}
		}
	}
}

func TestR2WordsAndStopsHaveNoNumber(t *testing.T) {
	tokens, e, at := lex.Lex("7 a 9;at 65535 b-8;")
	if e != api.OK || at != 0 || len(tokens) != 9 {
		t.Fatal(tokens, e, at)
	}
	for _, token := range tokens {
		if token.Kind != api.TokNumber && token.N != 0 {
			t.Errorf("%v has a number", token)
		}
	}
}

func TestR3TokensAreNewMemory(t *testing.T) {
	for _, s := range append(slices.Clone(texts), "a", "1", "node", ";") {
		want, _, _ := slowLex(s)
		first, _, _ := lex.Lex(s)
		second, _, _ := lex.Lex(s)
		full := first[:cap(first)]
		for i := range full {
			full[i] = api.Token{Kind: 9, Text: "over", N: 9, At: 9}
		}
		_ = append(first, api.Token{Kind: 8})
		if third, _, _ := lex.Lex(s); !slices.Equal(second, want) || !slices.Equal(third, want) {
			t.Errorf("Lex(%.80q) shares memory with another answer", s)
		}
	}
}

// within tells whether the bytes of part stand in those of s themselves.
func within(part, s string) bool {
	if part == "" || s == "" {
		return false
	}
	from := uintptr(unsafe.Pointer(unsafe.StringData(s)))
	at := uintptr(unsafe.Pointer(unsafe.StringData(part)))
	return at >= from && at < from+uintptr(len(s))
}

func TestR3TextsAreNotKept(t *testing.T) {
	for _, s := range texts {
		s = strings.Clone(s)
		tokens, _, _ := lex.Lex(s)
		for _, token := range tokens {
			if within(token.Text, s) {
				t.Errorf("%q stands in the memory of the text %.80q", token.Text, s)
			}
		}
	}
}

func TestR4TheSameAgain(t *testing.T) {
	all := slices.Concat(texts, edges, keywords, []string{"$", "a $", "#$", "\xff", strings.Repeat("a ", 5001)})
	for _, s := range all {
		first, e, at := lex.Lex(s)
		for _, other := range all {
			lex.Lex(other)
			lex.Number(other)
		}
		again, eAgain, atAgain := lex.Lex(s)
		if !slices.Equal(first, again) || e != eAgain || at != atAgain {
			t.Errorf("Lex(%.80q) told %v, %d, %d, then %v, %d, %d", s, first, e, at, again, eAgain, atAgain)
		}
	}
}

func FuzzR1AnyBytes(f *testing.F) {
	for _, s := range slices.Concat(texts, edges, keywords) {
		f.Add(s)
	}
	for _, s := range []string{"$", "a\r", "\xff\xfe", "#\xff\n1", "\u00e9", strings.Repeat("0", 10001)} {
		f.Add(s)
	}
	f.Fuzz(func(t *testing.T, s string) {
		checkRun(t, s)
		checkLex(t, s)
	})
}
