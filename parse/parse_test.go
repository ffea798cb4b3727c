package parse_test

import (
	"fmt"
	"math/rand"
	"slices"
	"strconv"
	"strings"
	"testing"
	"unsafe"

	"backstay/api"
	"backstay/lex"
	"backstay/parse"
	"backstay/plan"
)

const ringText = `protocol vector; failures 1;
node a 1; node b 2; node c 3; node d 4;
link a b 1; link b c 1; link c d 1; link a d 1;
dest x at a;
check reach c x; check waypoint c x b; check within b x 1; check equal b d x;`

var ringNet = api.Plan{
	Proto: api.ProtoVector, K: 1,
	Nodes:  []api.Node{{Name: "a", AS: 1}, {Name: "b", AS: 2}, {Name: "c", AS: 3}, {Name: "d", AS: 4}},
	Links:  []api.Link{{A: 0, B: 1, Cost: 1}, {A: 1, B: 2, Cost: 1}, {A: 2, B: 3, Cost: 1}, {A: 0, B: 3, Cost: 1}},
	Dests:  []api.Dest{{Name: "x", Origins: []int{0}}},
	Checks: []api.Check{{Kind: 1, Node: 2}, {Kind: 3, Node: 2, Other: 1}, {Kind: 2, Node: 1, Limit: 1}, {Kind: 4, Node: 1, Other: 3}},
}

// In pathText links and destinations name nodes in all orders, names end in all that they may, and numbers are at their edges.
const pathText = `protocol path 12; failures 4;
node Z-9 65535; node a_ 1; node abcdefghijkl 7; node b 7; node B 7;
link b Z-9 15; link a_ b 1; link abcdefghijkl a_ 2; link B abcdefghijkl 3; link Z-9 a_ 15;
dest far at B b abcdefghijkl a_ Z-9; dest A at b; dest y at a_ Z-9;
check equal b a_ far; check equal b b y; check within B A 65535; check within B A 0;
check waypoint abcdefghijkl y B; check reach Z-9 far; check reach Z-9 far; check waypoint a_ A a_;`

var pathNet = api.Plan{
	Proto: api.ProtoPath, Cap: 12, K: 4,
	Nodes: []api.Node{{Name: "Z-9", AS: 65535}, {Name: "a_", AS: 1}, {Name: "abcdefghijkl", AS: 7}, {Name: "b", AS: 7}, {Name: "B", AS: 7}},
	Links: []api.Link{{A: 0, B: 3, Cost: 15}, {A: 1, B: 3, Cost: 1}, {A: 1, B: 2, Cost: 2}, {A: 2, B: 4, Cost: 3}, {A: 0, B: 1, Cost: 15}},
	Dests: []api.Dest{{Name: "far", Origins: []int{0, 1, 2, 3, 4}}, {Name: "A", Origins: []int{3}}, {Name: "y", Origins: []int{0, 1}}},
	Checks: []api.Check{
		{Kind: 4, Node: 3, Other: 1, Dest: 0}, {Kind: 4, Node: 3, Other: 3, Dest: 2},
		{Kind: 2, Node: 4, Dest: 1, Limit: 65535}, {Kind: 2, Node: 4, Dest: 1},
		{Kind: 3, Node: 2, Dest: 2, Other: 4}, {Kind: 1, Node: 0, Dest: 0}, {Kind: 1, Node: 0, Dest: 0}, {Kind: 3, Node: 1, Dest: 1, Other: 1},
	},
}

const leastText = "protocol vector; failures 0; node a 1;"

var leastNet = api.Plan{Proto: api.ProtoVector, Nodes: []api.Node{{Name: "a", AS: 1}}}

// lines are so many statements of one form: %i counts them from 0 on, %a and %b are two unlike nodes, never the same two twice.
func lines(count int, form string) string {
	text := ""
	for i := range count {
		a, b := i%8, 8+(i+i/8)%4
		text += strings.NewReplacer("%i", strconv.Itoa(i), "%a", strconv.Itoa(a), "%b", strconv.Itoa(b)).Replace(form)
	}
	return text
}

// many is a text of so many nodes, links, destinations and checks.
func many(nodes, links, dests, checks int) string {
	return "protocol vector; failures 0;" + lines(nodes, "node n%i 1;") + lines(links, "link n%a n%b 1;") +
		lines(dests, "dest d%i at n0;") + lines(checks, "check reach n0 d0;")
}

// fullText has as many of each thing as there may be.
var fullText = many(12, 8, 4, 16)

func rightTexts() []string {
	return []string{leastText, ringText, pathText, fullText}
}

// slow is the same by other means: it goes token by token, asks which slot of which statement that token fills, and gathers every error that fits.
type slow struct {
	net   api.Plan
	names map[string]int // a node's place from 0 on, a destination's from 100 on
	slots []string       // that the tokens fill which come next
	begun string         // the statement that was begun last
	first string         // a link's first node
	ends  map[[2]string]int
	k     api.Token
}

// behind are the slots that follow a word which begins a statement, or one of its forms.
var behind = map[string]string{
	"protocol": "vector|path", "vector": ";", "path": "CAP ;", "failures": "K ;", "node": "NEW AS ;", "link": "NODE SECOND COST ;",
	"dest": "NEW at ORIGIN MORE", "check": "reach|within|waypoint|equal",
	"reach": "NODE DEST ;", "within": "NODE DEST LIMIT ;", "waypoint": "NODE DEST OTHER ;", "equal": "NODE OTHER DEST ;",
}

// next are the words that a statement may be followed by; an empty one is the end.
var next = map[string]string{
	"": "protocol", "protocol": "failures", "failures": "node", "node": "node|link|dest|check|", "link": "link|dest|check|",
	"dest": "dest|check|", "check": "check|",
}

var numbers = map[string][2]int{"CAP": {1, 12}, "K": {0, 4}, "AS": {1, 65535}, "COST": {1, 15}, "LIMIT": {0, 65535}}

func (w *slow) counts() map[string]int {
	return map[string]int{
		"node": 12 - len(w.net.Nodes), "link": 16 - len(w.net.Links), "dest": 4 - len(w.net.Dests), "check": 16 - len(w.net.Checks),
	}
}

func isNameSlot(slot string) bool {
	return slices.Contains([]string{"NEW", "NODE", "SECOND", "DEST", "ORIGIN", "MORE", "OTHER"}, slot)
}

// errors are all that the token has in that slot.
func (w *slow) errors(slot string, token api.Token) map[api.Errno]bool {
	all := map[api.Errno]bool{}
	bounds, isNumber := numbers[slot]
	place, known := w.names[token.Text]
	switch {
	case isNumber:
		all[api.ErrSyntax] = token.Kind != api.TokNumber
		all[api.ErrRange] = token.Kind == api.TokNumber && (token.N < bounds[0] || token.N > bounds[1])
	case isNameSlot(slot):
		all[api.ErrSyntax] = token.Kind != api.TokWord
		isDest := known && place >= 100
		_, keyword := behind[token.Text]
		keyword = keyword || token.Text == "at"
		all[api.ErrName] = keyword || known == (slot == "NEW") || slot != "NEW" && isDest != (slot == "DEST")
	default:
		_, isCounted := w.counts()[token.Text]
		all[api.ErrSyntax] = !slices.Contains(strings.Split(slot, "|"), token.Text)
		all[api.ErrMany] = isCounted && w.counts()[token.Text] <= 0
	}
	switch slot {
	case "SECOND":
		all[api.ErrLink] = token.Text == w.first || w.ends[[2]string{w.first, token.Text}] > 0
	case "ORIGIN", "MORE":
		all[api.ErrName] = all[api.ErrName] || slices.Contains(w.net.Dests[len(w.net.Dests)-1].Origins, place)
	}
	return all
}

// fill lays the token into that slot; it has no error.
func (w *slow) fill(slot string, token api.Token) {
	if form, isWord := behind[token.Text]; isWord {
		w.slots = strings.Fields(form)
		w.word(token.Text)
		return
	}
	place := w.names[token.Text]
	linkAt, destAt, checkAt := len(w.net.Links)-1, len(w.net.Dests)-1, len(w.net.Checks)-1
	switch slot {
	case "CAP":
		w.net.Cap = token.N
	case "K":
		w.net.K, w.k = token.N, token
	case "AS":
		w.net.Nodes[len(w.net.Nodes)-1].AS = token.N
	case "COST":
		w.net.Links[linkAt].Cost = token.N
	case "LIMIT":
		w.net.Checks[checkAt].Limit = token.N
	case "NEW":
		if w.begun == "node" {
			w.names[token.Text] = len(w.net.Nodes)
			w.net.Nodes = append(w.net.Nodes, api.Node{Name: token.Text})
		} else {
			w.names[token.Text] = 100 + len(w.net.Dests)
			w.net.Dests = append(w.net.Dests, api.Dest{Name: token.Text})
		}
	case "NODE":
		w.first = token.Text
		if w.begun == "check" {
			w.net.Checks[checkAt].Node = place
		}
	case "SECOND":
		w.ends[[2]string{w.first, token.Text}], w.ends[[2]string{token.Text, w.first}] = 1, 1
		ends := []int{w.names[w.first], place}
		slices.Sort(ends)
		w.net.Links = append(w.net.Links, api.Link{A: ends[0], B: ends[1]})
	case "ORIGIN", "MORE":
		if slot == "MORE" && token.Kind == api.TokWord {
			w.slots = []string{"MORE"}
		}
		if token.Kind == api.TokWord {
			d := &w.net.Dests[destAt]
			d.Origins = append(d.Origins, place)
			slices.Sort(d.Origins)
		}
	case "OTHER":
		w.net.Checks[checkAt].Other = place
	case "DEST":
		w.net.Checks[checkAt].Dest = place - 100
	}
}

// word begins a statement, or tells its form.
func (w *slow) word(text string) {
	if _, begins := next[text]; begins {
		w.begun = text
	}
	kinds := map[string]int{"reach": 1, "within": 2, "waypoint": 3, "equal": 4}
	switch {
	case text == "vector":
		w.net.Proto = 1
	case text == "path":
		w.net.Proto = 2
	case kinds[text] > 0:
		w.net.Checks = append(w.net.Checks, api.Check{Kind: kinds[text]})
	}
}

func slowParse(s string) (api.Plan, api.Errno, int) {
	tokens, err, at := lex.Lex(s)
	if err != api.OK {
		return api.Plan{}, err, at
	}
	w := slow{names: map[string]int{}, ends: map[[2]string]int{}}
	for _, token := range tokens {
		slot := next[w.begun]
		if len(w.slots) > 0 {
			slot, w.slots = w.slots[0], w.slots[1:]
		}
		if slot == "MORE" && token.Kind == api.TokStop {
			continue
		}
		all := w.errors(slot, token)
		for _, e := range []api.Errno{api.ErrSyntax, api.ErrMany, api.ErrName, api.ErrLink, api.ErrRange} {
			if all[e] {
				return api.Plan{}, e, token.At
			}
		}
		w.fill(slot, token)
	}
	if w.net.K > len(w.net.Links) {
		return api.Plan{}, api.ErrRange, w.k.At
	}
	return w.net, api.OK, 0
}

// check holds a text against the slow reckoning, and what comes out against chapter 3; it tells the error.
func check(t *testing.T, s string) api.Errno {
	t.Helper()
	p, e, at := parse.Parse(s)
	wantP, wantE, wantAt := slowParse(s)
	if !plan.Same(p, wantP) || e != wantE || at != wantAt {
		t.Fatalf("Parse(%q) = %+v, %d, %d, want %+v, %d, %d", s, p, e, at, wantP, wantE, wantAt)
	}
	if at < 0 || at > len(s) || plan.Right(p) != (e == api.OK) {
		t.Fatalf("Parse(%q) = %+v, %d, %d", s, p, e, at)
	}
	return e
}

// checkNet holds a text against the network that it tells.
func checkNet(t *testing.T, s string, want api.Plan) {
	t.Helper()
	if p, e, at := parse.Parse(s); !plan.Same(p, want) || e != api.OK || at != 0 {
		t.Errorf("Parse(%q) = %+v, %d, %d, want %+v", s, p, e, at, want)
	}
}

// checkError holds a text in which a ^ stands ahead of what is wrong.
func checkError(t *testing.T, marked string, want api.Errno) {
	t.Helper()
	at := strings.IndexByte(marked, '^')
	if at < 0 {
		t.Fatalf("no mark in %q", marked)
	}
	s := marked[:at] + marked[at+1:]
	if p, e, place := parse.Parse(s); !plan.Same(p, api.Plan{}) || e != want || place != at {
		t.Errorf("Parse(%q) = %+v, %d, %d, want %d, %d", s, p, e, place, want, at)
	}
	check(t, s)
}

func TestQ1Example(t *testing.T) {
	p, e, at := parse.Parse("protocol vector; failures 0; node a 1; link a a 1;")
	if !plan.Same(p, api.Plan{}) || e != api.ErrLink || at != 46 {
		t.Error(p, e, at)
	}
}

func TestQ1Networks(t *testing.T) {
	checkNet(t, leastText, leastNet)
	checkNet(t, ringText, ringNet)
	checkNet(t, pathText, pathNet)
	p, e, _ := parse.Parse(fullText)
	if e != api.OK || len(p.Nodes) != 12 || len(p.Dests) != 4 || len(p.Checks) != 16 {
		t.Error(p, e)
	}
	for _, s := range rightTexts() {
		check(t, s)
	}
}

func TestQ1EachPart(t *testing.T) {
	// Links, destinations and checks may each be missing, or be there alone.
	const head = "protocol path 1; failures 0; node a 1; node b 2;"
	base := api.Plan{Proto: 2, Cap: 1, Nodes: []api.Node{{Name: "a", AS: 1}, {Name: "b", AS: 2}}}
	checkNet(t, head, base)
	linked := base
	linked.Links = []api.Link{{A: 0, B: 1, Cost: 9}}
	checkNet(t, head+"link b a 9;", linked)
	checkNet(t, head+"link a b 9;", linked)
	there := base
	there.Dests = []api.Dest{{Name: "c", Origins: []int{0, 1}}}
	checkNet(t, head+"dest c at b a;", there)
	checkNet(t, head+"dest c at a b;", there)
	there.Checks = []api.Check{{Kind: 1, Node: 1}}
	checkNet(t, head+"dest c at b a; check reach b c;", there)
}

func TestQ1WhatIsBetweenTokens(t *testing.T) {
	for want, s := range map[*api.Plan]string{&leastNet: leastText, &ringNet: ringText, &pathNet: pathText} {
		checkNet(t, strings.ReplaceAll(strings.ReplaceAll(s, "\n", ""), "; ", ";"), *want)
		for _, between := range []string{" ", "\t", "\n", " \t\n ", "#\n", " # node a 1; $ \x00\n", "\n#a\n#b;\n\n"} {
			tokens, _, _ := lex.Lex(s)
			spread := between
			for _, token := range tokens {
				spread += token.Text + between
			}
			checkNet(t, spread, *want)
			checkNet(t, spread+"# the end", *want)
		}
	}
	checkNet(t, leastText+strings.Repeat(" ", 10000-len(leastText)), leastNet)
	checkNet(t, strings.Repeat("\n", 10000-len(leastText))+leastText, leastNet)
}

func TestQ1Syntax(t *testing.T) {
	const head = "protocol vector; failures 0; node a 1; node b 2; "
	for _, s := range []string{
		"^", " \n# nothing\n^", "^;", "^1", "^x", "^node a 1;", "^failures 0;", "^vector", "^Protocol vector;",
		"protocol ^", "protocol ^;", "protocol ^1", "protocol ^protocol", "protocol ^x", "protocol ^at", "protocol ^vectors;",
		"protocol vector^", "protocol vector ^0;", "protocol vector ^path", "protocol vector ^failures 0;",
		"protocol path^", "protocol path^;", "protocol path ^x", "protocol path ^failures", "protocol path 3 ^3", "protocol path 3^", "protocol path 3 ^failures",
		"protocol vector;^", "protocol vector; ^;", "protocol vector; ^protocol", "protocol vector; ^node", "protocol vector; ^0", "protocol vector; ^failure 0;",
		"protocol vector; failures^", "protocol vector; failures^;", "protocol vector; failures ^x", "protocol vector; failures ^node",
		"protocol vector; failures 0^", "protocol vector; failures 0 ^1", "protocol vector; failures 0 ^node",
		"protocol vector; failures 0;^", "protocol vector; failures 0; ^link a b 1;", "protocol vector; failures 0; ^dest", "protocol vector; failures 0; ^check",
		"protocol vector; failures 0; ^failures 0;", "protocol vector; failures 0; ^;", "protocol vector; failures 0; ^7", "protocol vector; failures 0; ^a",
		head + "^a", head + "^;", head + "^1", head + "^protocol", head + "^failures 0;", head + "^at", head + "^reach", head + "^nodes c 1;",
		head + "node^", head + "node ^;", head + "node ^1", head + "node c^", head + "node c^;", head + "node c ^d", head + "node c ^node", head + "node c 3^", head + "node c 3 ^3", head + "node c 3 ^node d 4;",
		head + "link^", head + "link ^;", head + "link ^1", head + "link a^", head + "link a^;", head + "link a ^1", head + "link a b^", head + "link a b^;", head + "link a b ^a", head + "link a b ^link", head + "link a b 1^", head + "link a b 1 ^1;", head + "link a b 1 ^link",
		head + "link a b 1; ^node c 3;", head + "link a b 1; ^protocol", head + "link a b 1; ^;", head + "link a b 1; ^a", head + "link a b 1; ^1",
		head + "dest^", head + "dest ^;", head + "dest ^1", head + "dest x^", head + "dest x^;", head + "dest x ^a;", head + "dest x ^1", head + "dest x ^node", head + "dest x at^", head + "dest x at^;", head + "dest x at ^1", head + "dest x at a^", head + "dest x at a ^1", head + "dest x at a b^", head + "dest x at a b ^0;",
		head + "dest x at a; ^node c 3;", head + "dest x at a; ^link a b 1;", head + "dest x at a; ^;", head + "dest x at a; ^at b;", head + "dest x at a; ^b;",
	} {
		checkError(t, s, api.ErrSyntax)
	}
}

func TestQ1SyntaxOfChecks(t *testing.T) {
	const head = "protocol vector; failures 0; node a 1; node b 2; dest x at a; "
	for _, s := range []string{
		"check^", "check^;", "check ^1", "check ^a x;", "check ^at", "check ^check", "check ^vector a x;", "check ^Reach a x;",
		"check reach^", "check reach^;", "check reach ^1", "check reach a^", "check reach a^;", "check reach a ^1", "check reach a x^", "check reach a x ^1;", "check reach a x ^b;", "check reach a x ^check",
		"check within ^;", "check within ^1", "check within a ^;", "check within a ^1", "check within a x^", "check within a x^;", "check within a x ^b;", "check within a x ^at", "check within a x 1^", "check within a x 1 ^1;",
		"check waypoint ^;", "check waypoint a ^2", "check waypoint a x^", "check waypoint a x^;", "check waypoint a x ^1", "check waypoint a x b^", "check waypoint a x b ^1", "check waypoint a x b ^a;",
		"check equal ^;", "check equal ^1", "check equal a ^;", "check equal a ^1", "check equal a b^", "check equal a b^;", "check equal a b ^1", "check equal a b x^", "check equal a b x ^1", "check equal a b x ^x;",
		"check reach a x; ^node c 1;", "check reach a x; ^link a b 1;", "check reach a x; ^dest y at a;", "check reach a x; ^reach a x;", "check reach a x; ^;", "check reach a x; ^0",
	} {
		checkError(t, head+s, api.ErrSyntax)
	}
}

func TestQ1Names(t *testing.T) {
	const head = "protocol path 5; failures 0; node a 1; node b 2; "
	const full = head + "dest x at a; dest y at b; "
	for _, s := range []string{
		head + "node ^a 1;", head + "node ^b 1;", head + "link ^c a 1;", head + "link a ^c 1;", head + "link ^A b 1;", head + "link ^a- b 1;",
		head + "dest ^a at a;", head + "dest ^b at a;", head + "dest x at ^x;", head + "dest x at ^c;", head + "dest x at a ^x;", head + "dest x at a ^a;", head + "dest x at b a ^b;", head + "dest x at a b ^b;", head + "dest x at b ^b2;",
		full + "dest ^x at a;", full + "dest ^y at a;", full + "dest z at ^x;", full + "dest z at a ^y;",
		head + "check reach ^x y;", head + "check reach a ^x;", head + "check reach a ^b;",
		full + "check reach ^x x;", full + "check reach ^c x;", full + "check reach a ^a;", full + "check reach a ^z;",
		full + "check within ^y x 1;", full + "check within ^d x 1;", full + "check within a ^b 1;", full + "check within a ^X 1;",
		full + "check waypoint ^x x b;", full + "check waypoint ^c x b;", full + "check waypoint a ^b x;", full + "check waypoint a x ^y;", full + "check waypoint a x ^c;",
		full + "check equal ^x a b;", full + "check equal a ^x b;", full + "check equal a b ^a;", full + "check equal ^c b x;", full + "check equal a ^c x;", full + "check equal a b ^c;",
	} {
		checkError(t, s, api.ErrName)
	}
}

func TestQ1KeywordsForNames(t *testing.T) {
	const head = "protocol path 5; failures 0; node a 1; node b 2; "
	const full = head + "dest x at a; dest y at b; "
	for _, word := range []string{
		"protocol", "vector", "path", "failures", "node", "link", "dest", "at", "check", "reach", "within", "waypoint", "equal",
	} {
		for _, s := range []string{
			"protocol vector; failures 0; node ^% 1;", head + "node ^% 1;", head + "link ^% a 1;", head + "link a ^% 1;",
			head + "dest ^% at a;", head + "dest x at ^%;", head + "dest x at a ^% b;",
			full + "check reach ^% x;", full + "check reach a ^%;", full + "check within ^% x 1;", full + "check within a ^% 1;",
			full + "check waypoint ^% x b;", full + "check waypoint a ^% b;", full + "check waypoint a x ^%;",
			full + "check equal ^% b x;", full + "check equal a ^% x;", full + "check equal a b ^%;",
		} {
			checkError(t, strings.ReplaceAll(s, "%", word), api.ErrName)
		}
		// Where no name stands, one that is nearly a keyword is none.
		checkError(t, head+"^"+word+"s a 1;", api.ErrSyntax)
	}
}

func TestQ1Links(t *testing.T) {
	const head = "protocol vector; failures 0; node a 1; node b 2; node c 3; "
	for _, s := range []string{
		"link a ^a 1;", "link c ^c 1;", "link a b 1; link a ^b 1;", "link a b 1; link b ^a 2;", "link b a 1; link a ^b 1;", "link b a 1; link b ^a 1;",
		"link a b 1; link b c 1; link a c 1; link c ^a 1;", "link a b 1; link b c 1; link c a 1; link c ^b 15;", "link a b 1; link b ^b 1;",
	} {
		checkError(t, head+s, api.ErrLink)
	}
	// One end alone may be another link's.
	check(t, head+"link a b 1; link a c 1; link c b 1;")
	if _, e, _ := parse.Parse(head + "link a b 1; link a c 1; link c b 1;"); e != api.OK {
		t.Error(e)
	}
}

func TestQ1Numbers(t *testing.T) {
	const links = "node a 1; node b 2; node c 3; node d 4; link a b 1; link a c 1; link a d 1; link b c 1; link b d 1; "
	for form, bounds := range map[string][2]int{
		"protocol path ^%d; failures 0; node a 1;":                                             {1, 12},
		"protocol vector; failures ^%d; " + links:                                              {0, 4},
		"protocol path 3; failures ^%d; " + links:                                              {0, 4},
		"protocol vector; failures 0; node a ^%d;":                                             {1, 65535},
		"protocol path 12; failures 0; node a 1; node b ^%d; node c 3;":                        {1, 65535},
		"protocol vector; failures 0; node a 1; node b 2; link b a ^%d;":                       {1, 15},
		"protocol path 1; failures 0; node a 1; node b 2; link a b ^%d;":                       {1, 15},
		"protocol vector; failures 0; node a 1; dest x at a; check within a x ^%d;":            {0, 65535},
		"protocol path 2; failures 0; node a 1; dest x at a; check within a x ^%d; # no bound": {0, 65535},
	} {
		for _, n := range []int{0, 1, 2, 3, 4, 5, 6, 9, 10, 11, 12, 13, 14, 15, 16, 17, 99, 255, 256, 257, 65534, 65535} {
			s := fmt.Sprintf(form, n)
			if n < bounds[0] || n > bounds[1] {
				checkError(t, s, api.ErrRange)
			} else if e := check(t, strings.ReplaceAll(s, "^", "")); e != api.OK {
				t.Errorf("%s: %d", s, e)
			}
		}
	}
}

func TestQ1EveryNumberIsTold(t *testing.T) {
	for n := range 65536 {
		p, e, _ := parse.Parse(fmt.Sprintf("protocol vector; failures 0; node b 7; node a %d; dest x at a; check within a x %d;", max(n, 1), n))
		if e != api.OK || p.Nodes[1].AS != max(n, 1) || p.Checks[0].Limit != n {
			t.Fatal(n, p, e)
		}
	}
}

func TestQ1Many(t *testing.T) {
	for _, s := range []string{
		many(12, 0, 0, 0) + "^node m 1;", many(12, 0, 0, 0) + "^node", many(12, 0, 0, 0) + "^node 1", many(12, 0, 0, 0) + "^node node 1;",
		many(12, 16, 0, 0) + "^link n0 n1 1;", many(12, 16, 0, 0) + "^link", many(12, 16, 0, 0) + "^link n0 n0 0;",
		many(1, 0, 4, 0) + "^dest y at n0;", many(1, 0, 4, 0) + "^dest", many(12, 16, 4, 0) + "^dest dest",
		many(1, 0, 1, 16) + "^check reach n0 d0;", many(1, 0, 1, 16) + "^check", many(12, 16, 4, 16) + "^check 3",
	} {
		checkError(t, s, api.ErrMany)
	}
	for _, s := range []string{many(12, 0, 0, 0), many(12, 16, 0, 0), many(1, 0, 4, 0), many(1, 0, 1, 16), many(12, 16, 4, 16)} {
		if e := check(t, s); e != api.OK {
			t.Errorf("%s: %d", s, e)
		}
	}
}

func TestQ1WhichOfTwoAtOneToken(t *testing.T) {
	// A statement that can't stand there is not one too many.
	checkError(t, many(12, 1, 0, 0)+"^node m 1;", api.ErrSyntax)
	checkError(t, many(12, 16, 1, 0)+"^link n0 n1 1;", api.ErrSyntax)
	checkError(t, many(12, 16, 4, 1)+"^dest y at n0;", api.ErrSyntax)
	// Where a name stands, no statement begins.
	checkError(t, many(11, 0, 0, 0)+"node ^node 1;", api.ErrName)
	checkError(t, many(12, 16, 0, 0)+"dest ^node at n0;", api.ErrName)
	checkError(t, many(12, 16, 3, 0)+"dest x at n0 ^link", api.ErrName)
	checkError(t, many(12, 16, 4, 15)+"check reach ^check d0;", api.ErrName)
	checkError(t, many(12, 16, 4, 0)+"check waypoint n0 ^dest n1;", api.ErrName)
	// A name that is unknown, or a keyword, is no end of a link.
	checkError(t, many(2, 0, 0, 0)+"link ^link link 1;", api.ErrName)
	checkError(t, many(2, 0, 0, 0)+"link ^m m 1;", api.ErrName)
	checkError(t, many(2, 0, 0, 0)+"link n0 ^m 1;", api.ErrName)
	// What is no number has no range.
	checkError(t, "protocol path ^failures 0;", api.ErrSyntax)
	checkError(t, "protocol vector; failures ^vector;", api.ErrSyntax)
}

func TestQ1WhichOfTwoTokens(t *testing.T) {
	for s, want := range map[string]api.Errno{
		"protocol path ^0; failures 9; node a 0;":                                api.ErrRange,
		"protocol path ^13":                                                      api.ErrRange,
		"protocol vector; failures ^5":                                           api.ErrRange,
		"protocol vector; failures ^5; link":                                     api.ErrRange,
		"protocol vector; failures 1; node a ^0; link":                           api.ErrRange,
		"protocol vector; failures 1; node ^at 0 0":                              api.ErrName,
		"protocol vector; failures 1; node a 1 ^node at 0;":                      api.ErrSyntax,
		"protocol vector; failures 1; node a 1; link a ^a 0":                     api.ErrLink,
		"protocol vector; failures 1; node a 1; link ^b b 0;":                    api.ErrName,
		"protocol vector; failures 1; node a 1; node b 1; link a b ^0 0":         api.ErrRange,
		"protocol vector; failures 1; node a 1; node ^a 0; node b":               api.ErrName,
		"protocol vector; failures 1; node a 1; dest ^a a":                       api.ErrName,
		"protocol vector; failures 0; node a 1; dest x at a; check reach ^b y z": api.ErrName,
		"protocol vector; failures 0; node a 1; dest x at a; check ^equals b y":  api.ErrSyntax,
		many(12, 16, 0, 0) + "^link n0 n0 99; node":                              api.ErrMany,
		many(12, 1, 0, 0) + "link ^m n0 1; node m 1;":                            api.ErrName,
	} {
		checkError(t, s, want)
	}
}

func TestQ1FailuresAboveTheLinks(t *testing.T) {
	heads := []string{"", "link a b 1;", "link a b 1; link b c 2;", "link a b 1; link b c 2; link c a 3;"}
	const nodes = "; node a 1; node b 2; node c 3; "
	for count, links := range heads {
		for k := range 5 {
			s := fmt.Sprintf("protocol vector; failures ^%d%s%s", k, nodes, links)
			if k > count {
				checkError(t, s, api.ErrRange)
				checkError(t, s+" dest x at a; check reach a x;", api.ErrRange)
			} else if e := check(t, strings.ReplaceAll(s, "^", "")); e != api.OK {
				t.Errorf("%s: %d", s, e)
			}
		}
	}
	// Every other error is told ahead of it, wherever it is.
	const head = "protocol vector; failures 4" + nodes
	for s, want := range map[string]api.Errno{
		"^;": api.ErrSyntax, "link a c^": api.ErrSyntax, "dest x at a; check reach a ^a;": api.ErrName, "link a b ^0;": api.ErrRange,
		"link a ^a 1;": api.ErrLink, "dest x at a; check reach a x^": api.ErrSyntax, lines(4, "dest d%i at a;") + "^dest": api.ErrMany,
	} {
		checkError(t, head+s, want)
	}
}

func TestQ1TextsThatCannotBeScanned(t *testing.T) {
	for _, s := range []string{
		"^@", "protocol ^@", "protocol vector^,", "protocol vector; failures ^00;", "protocol vector; failures ^65536;", "protocol vector; failures ^-1;",
		"protocol vector; failures 0; node ^abcdefghijklm 1;", "protocol vector; failures 0; node ^_a 1;", "protocol vector; failures 0; node a 1;^\x00",
		"protocol vector; failures 0; node a 1;^\r\n", "^\xef\xbb\xbfprotocol vector;",
		// What can't be scanned is told ahead of all else, however far behind it stands.
		"node node node ^1a", "; ; ; ^$", "protocol path 0; failures 9; node at 0; link a a 0; ^$", many(13, 1, 5, 17) + " ^01", "protocol vector; failures 4; node a 1; ^+",
	} {
		checkError(t, s, api.ErrToken)
	}
	for _, s := range []string{
		leastText + strings.Repeat(" ", 10001-len(leastText)), strings.Repeat("@", 10001), strings.Repeat("node ", 4000), strings.Repeat("\xff", 100000),
	} {
		if p, e, at := parse.Parse(s); !plan.Same(p, api.Plan{}) || e != api.ErrLong || at != 10000 {
			t.Error(len(s), p, e, at)
		}
	}
}

func TestQ1CutBehindEachToken(t *testing.T) {
	for _, s := range rightTexts() {
		tokens, _, _ := lex.Lex(s)
		for _, token := range tokens {
			cut := s[:token.At+len(token.Text)]
			e := check(t, cut)
			// Behind a stop the text may be whole already, but for links that are not there yet.
			if token.Kind != api.TokEnd && token.Kind != api.TokStop && e != api.ErrSyntax {
				t.Errorf("%q: %d", cut, e)
			}
			if _, _, at := parse.Parse(cut); e == api.ErrSyntax && at != len(cut) {
				t.Errorf("%q: at %d", cut, at)
			}
		}
	}
}

func TestQ1CutAtEachByte(t *testing.T) {
	for _, s := range rightTexts() {
		for i := range len(s) + 1 {
			check(t, s[:i])
			check(t, s[i:])
		}
	}
}

// others are tokens that are put in others' places.
var others = strings.Fields("protocol vector path failures node link dest at check reach within waypoint equal ; a b d x zz abcdefghijkl Z-9 far n0 n11 d0 d3 0 1 4 5 12 13 15 16 65535 @ 00")

// unlike are a text's tokens with one of them missing, there twice, changed for another, or another ahead of it; or two neighbours changed about.
func unlike(words []string) []string {
	var all []string
	add := func(i, skip int, in ...string) {
		all = append(all, strings.Join(slices.Concat(words[:i], in, words[i+skip:]), " "))
	}
	for i := range words {
		add(i, 1)
		add(i, 0, words[i])
		if i > 0 {
			add(i-1, 2, words[i], words[i-1])
		}
		for _, other := range others {
			add(i, 1, other)
			add(i, 0, other)
		}
	}
	return all
}

func wordsOf(s string) []string {
	tokens, _, _ := lex.Lex(s)
	var words []string
	for _, token := range tokens {
		words = append(words, token.Text)
	}
	return words
}

func TestQ1UnlikeInOneToken(t *testing.T) {
	told := map[api.Errno]int{}
	for _, s := range rightTexts() {
		for _, text := range unlike(wordsOf(s)) {
			told[check(t, text)]++
		}
	}
	for _, e := range []api.Errno{api.OK, api.ErrToken, api.ErrSyntax, api.ErrName, api.ErrRange, api.ErrLink, api.ErrMany} {
		if told[e] < 5 {
			t.Errorf("error %d was told %d times", e, told[e])
		}
	}
}

func TestQ1StatementsChangedAbout(t *testing.T) {
	for _, s := range rightTexts() {
		statements := strings.SplitAfter(s, ";")
		for i := range statements {
			for j := range statements {
				moved := slices.Insert(slices.Delete(slices.Clone(statements), i, i+1), min(j, len(statements)-1), statements[i])
				check(t, strings.Join(moved, ""))
				check(t, strings.Join(slices.Insert(slices.Clone(statements), j, statements[i]), ""))
			}
		}
	}
}

// someNet is a network by chance; it may be.
func someNet(chance *rand.Rand) api.Plan {
	p := api.Plan{Proto: 1 + chance.Intn(2)}
	if p.Proto == 2 {
		p.Cap = 1 + chance.Intn(12)
	}
	names := strings.Fields("a b c d e f g h A B a-b a_b longer-name1 protocols x1 nodes")
	chance.Shuffle(len(names), func(i, j int) { names[i], names[j] = names[j], names[i] })
	nodes := 1 + chance.Intn(12)
	for i := range nodes {
		p.Nodes = append(p.Nodes, api.Node{Name: names[i], AS: 1 + chance.Intn(65535)})
	}
	for b := range nodes {
		for a := range b {
			if chance.Intn(4) == 0 && len(p.Links) < 16 {
				p.Links = append(p.Links, api.Link{A: a, B: b, Cost: 1 + chance.Intn(15)})
			}
		}
	}
	chance.Shuffle(len(p.Links), func(i, j int) { p.Links[i], p.Links[j] = p.Links[j], p.Links[i] })
	p.K = chance.Intn(min(4, len(p.Links)) + 1)
	for i := range chance.Intn(5) {
		d := api.Dest{Name: names[len(names)-1-i]}
		for at := chance.Intn(nodes); at < nodes; at += 1 + chance.Intn(3) {
			d.Origins = append(d.Origins, at)
		}
		p.Dests = append(p.Dests, d)
	}
	for range min(chance.Intn(17), 100*len(p.Dests)) {
		c := api.Check{Kind: 1 + chance.Intn(4), Node: chance.Intn(nodes), Dest: chance.Intn(len(p.Dests))}
		if c.Kind == 2 {
			c.Limit = chance.Intn(65536)
		}
		if c.Kind > 2 {
			c.Other = chance.Intn(nodes)
		}
		p.Checks = append(p.Checks, c)
	}
	return p
}

func TestQ2UndoesPrint(t *testing.T) {
	chance := rand.New(rand.NewSource(4))
	for range 5000 {
		p := someNet(chance)
		text, e := plan.Print(p)
		if e != api.OK {
			t.Fatalf("%+v may not be", p)
		}
		checkNet(t, text, p)
		check(t, text)
	}
	for _, p := range []api.Plan{leastNet, ringNet, pathNet} {
		text, _ := plan.Print(p)
		checkNet(t, text, p)
	}
}

func TestQ2ParsedAndPrinted(t *testing.T) {
	for _, s := range rightTexts() {
		p, _, _ := parse.Parse(s)
		text, e := plan.Print(p)
		if e != api.OK {
			t.Fatal(s)
		}
		checkNet(t, text, p)
		again, _, _ := parse.Parse(text)
		if once, _ := plan.Print(again); once != text {
			t.Errorf("%q and %q", text, once)
		}
	}
}

func TestQ2ByChance(t *testing.T) {
	chance := rand.New(rand.NewSource(5))
	told := map[api.Errno]int{}
	for range 20000 {
		text, _ := plan.Print(someNet(chance))
		words := wordsOf(text)
		for range chance.Intn(4) {
			i, in := chance.Intn(len(words)), others[chance.Intn(len(others)-2)]
			switch chance.Intn(4) {
			case 0:
				in = words[chance.Intn(len(words))]
			case 1:
				words = slices.Insert(words, i, words[chance.Intn(len(words))])
				continue
			}
			words[i] = in
		}
		between := []string{" ", "\n", "\t ", " # ;\n"}[chance.Intn(4)]
		told[check(t, strings.Join(words, between))]++
	}
	for _, e := range []api.Errno{api.OK, api.ErrSyntax, api.ErrName, api.ErrRange, api.ErrLink} {
		if told[e] < 50 {
			t.Errorf("error %d was told %d times", e, told[e])
		}
	}
}

func TestR1AnyBytes(t *testing.T) {
	chance := rand.New(rand.NewSource(6))
	for range 20000 {
		bytes := make([]byte, chance.Intn(60))
		for i := range bytes {
			bytes[i] = byte(chance.Intn(256))
		}
		check(t, string(bytes))
	}
	for _, s := range rightTexts() {
		for i := range len(s) {
			for _, b := range []byte{0, ' ', '#', ';', '0', '9', 'a', 't', '-', '$', 0xff, s[i] ^ 1} {
				check(t, s[:i]+string([]byte{b})+s[i+1:])
			}
		}
	}
	for _, word := range others {
		check(t, strings.Repeat(word+" ", 600))
		check(t, pathText+strings.Repeat(" "+word, 300))
		check(t, "protocol vector; failures 0; node "+strings.Repeat(word+" ", 300))
	}
}

func TestR3NewMemory(t *testing.T) {
	s := strings.Clone(pathText)
	p, _, _ := parse.Parse(s)
	other, _, _ := parse.Parse(s)
	first := uintptr(unsafe.Pointer(unsafe.StringData(s)))
	isWithin := func(name string) bool {
		at := uintptr(unsafe.Pointer(unsafe.StringData(name)))
		return at >= first && at < first+uintptr(len(s))
	}
	for _, n := range p.Nodes {
		if isWithin(n.Name) {
			t.Errorf("%s is a piece of the text", n.Name)
		}
	}
	for _, d := range p.Dests {
		if isWithin(d.Name) {
			t.Errorf("%s is a piece of the text", d.Name)
		}
	}
	p.Nodes[0], p.Links[0], p.Checks[0], p.Dests[0].Origins[0], p.Dests[1].Name = api.Node{}, api.Link{}, api.Check{}, 9, ""
	if !plan.Same(other, pathNet) {
		t.Errorf("the other answer is now %+v", other)
	}
	checkNet(t, s, pathNet)
}

func TestR3SpareRoom(t *testing.T) {
	p, _, _ := parse.Parse(pathText)
	for _, d := range p.Dests {
		room := d.Origins[:cap(d.Origins)]
		for i := len(d.Origins); i < len(room); i++ {
			room[i] = 99
		}
	}
	clear(p.Nodes[len(p.Nodes):cap(p.Nodes)])
	clear(p.Links[len(p.Links):cap(p.Links)])
	clear(p.Dests[len(p.Dests):cap(p.Dests)])
	clear(p.Checks[len(p.Checks):cap(p.Checks)])
	if !plan.Same(p, pathNet) {
		t.Errorf("it is now %+v", p)
	}
}

func TestR4TheSameAgain(t *testing.T) {
	for range 3 {
		for _, s := range []string{ringText, "", pathText, many(13, 0, 0, 0), leastText, "@", fullText, ringText[:100]} {
			check(t, s)
		}
	}
}

func FuzzR1(f *testing.F) {
	for _, s := range rightTexts() {
		f.Add(s)
	}
	f.Add("protocol vector; failures 2; node a 1; node b 2; link a b 1;")
	f.Fuzz(func(t *testing.T, s string) {
		if e := check(t, s); e == api.OK {
			p, _, _ := parse.Parse(s)
			text, _ := plan.Print(p)
			checkNet(t, text, p)
		}
	})
}
