package plan_test

import (
	"fmt"
	"math"
	"math/rand"
	"reflect"
	"regexp"
	"slices"
	"strings"
	"testing"

	"backstay/api"
	"backstay/lex"
	"backstay/plan"
)

var (
	nameForm    = regexp.MustCompile(`^[a-zA-Z][a-zA-Z0-9_-]{0,11}\z`)
	keywordForm = regexp.MustCompile(`^(?:protocol|vector|path|failures|node|link|dest|at|check|reach|within|waypoint|equal)\z`)
)

// far are numbers at which reckonings with numbers are known to wrap.
var far = []int{
	math.MinInt, math.MinInt + 1, math.MinInt32, -65536, -65535, -2, -1,
	65537, 131072, math.MaxInt32, math.MaxUint32, math.MaxUint32 + 1, math.MaxUint32 + 2, math.MaxInt - 1, math.MaxInt,
}

// pathNet is a network with everything in it that there may be.
func pathNet() api.Plan {
	return api.Plan{
		Proto: 2, Cap: 7, K: 2,
		Nodes: []api.Node{{Name: "a", AS: 1}, {Name: "B-2", AS: 65535}, {Name: "c_", AS: 1}, {Name: "abcdefghijkl", AS: 10}},
		Links: []api.Link{{A: 0, B: 1, Cost: 1}, {A: 2, B: 3, Cost: 15}, {A: 0, B: 3, Cost: 2}},
		Dests: []api.Dest{{Name: "x", Origins: []int{0}}, {Name: "A", Origins: []int{0, 1, 3}}},
		Checks: []api.Check{
			{Kind: 1, Node: 3, Dest: 1},
			{Kind: 2, Node: 1, Dest: 0, Limit: 12},
			{Kind: 3, Node: 2, Dest: 1, Other: 1},
			{Kind: 4, Node: 0, Dest: 1, Other: 3},
			{Kind: 4, Node: 2, Dest: 0, Other: 2},
		},
	}
}

const pathText = "protocol path 7;\nfailures 2;\nnode a 1;\nnode B-2 65535;\nnode c_ 1;\nnode abcdefghijkl 10;\n" +
	"link a B-2 1;\nlink c_ abcdefghijkl 15;\nlink a abcdefghijkl 2;\n" +
	"dest x at a;\ndest A at a B-2 abcdefghijkl;\n" +
	"check reach abcdefghijkl A;\ncheck within B-2 x 12;\ncheck waypoint c_ A B-2;\n" +
	"check equal a abcdefghijkl A;\ncheck equal c_ c_ x;\n"

// ringNet is the ring of four nodes, by distances.
func ringNet() api.Plan {
	return api.Plan{
		Proto: 1, K: 1,
		Nodes:  []api.Node{{Name: "a", AS: 1}, {Name: "b", AS: 2}, {Name: "c", AS: 3}, {Name: "d", AS: 4}},
		Links:  []api.Link{{A: 0, B: 1, Cost: 1}, {A: 1, B: 2, Cost: 1}, {A: 2, B: 3, Cost: 1}, {A: 0, B: 3, Cost: 1}},
		Dests:  []api.Dest{{Name: "x", Origins: []int{0}}},
		Checks: []api.Check{{Kind: 1, Node: 2}, {Kind: 3, Node: 2, Other: 1}, {Kind: 2, Node: 1, Limit: 1}, {Kind: 4, Node: 1, Other: 3}},
	}
}

const ringText = "protocol vector;\nfailures 1;\nnode a 1;\nnode b 2;\nnode c 3;\nnode d 4;\n" +
	"link a b 1;\nlink b c 1;\nlink c d 1;\nlink a d 1;\ndest x at a;\n" +
	"check reach c x;\ncheck waypoint c x b;\ncheck within b x 1;\ncheck equal b d x;\n"

// fullNet is the greatest network that may be; every number is at its most, and names are as long as they may be.
func fullNet() api.Plan {
	p := api.Plan{Proto: 2, Cap: 12, K: 4}
	for i := range 12 {
		p.Nodes = append(p.Nodes, api.Node{Name: fmt.Sprintf("longer-nam%02d", i), AS: 65535})
	}
	for i := range 16 {
		p.Links = append(p.Links, api.Link{A: i % 8, B: 8 + (i+i/8)%4, Cost: 15})
	}
	for i := range 4 {
		p.Dests = append(p.Dests, api.Dest{Name: fmt.Sprintf("destination%d", i), Origins: []int{0, 1, 2, 3, 4, 5, 6, 7, 8, 9, 10, 11}})
	}
	for i := range 16 {
		c := api.Check{Kind: 1 + i%4, Node: 11, Dest: 3}
		switch c.Kind {
		case 2:
			c.Limit = 65535
		case 3, 4:
			c.Other = 11
		}
		p.Checks = append(p.Checks, c)
	}
	return p
}

// leastNet is the least network that may be.
func leastNet() api.Plan {
	return api.Plan{Proto: 1, Nodes: []api.Node{{Name: "a", AS: 1}}}
}

func bases() []api.Plan {
	return []api.Plan{leastNet(), ringNet(), pathNet(), fullNet()}
}

func deepCopy(p api.Plan) api.Plan {
	p.Nodes, p.Links, p.Dests, p.Checks = slices.Clone(p.Nodes), slices.Clone(p.Links), slices.Clone(p.Dests), slices.Clone(p.Checks)
	for i := range p.Dests {
		p.Dests[i].Origins = slices.Clone(p.Dests[i].Origins)
	}
	return p
}

func slowIn(n, least, most int) bool {
	return !(n < least || n > most)
}

// slowRight says the chapter's sentences one by one, and counts names, ends and places in maps.
func slowRight(p api.Plan) bool {
	switch {
	case p.Proto != 1 && p.Proto != 2, p.Proto == 1 && p.Cap != 0, p.Proto == 2 && !slowIn(p.Cap, 1, 12):
		return false
	case !slowIn(p.K, 0, 4), p.K > len(p.Links):
		return false
	case !slowIn(len(p.Nodes), 1, 12), len(p.Links) > 16, len(p.Dests) > 4, len(p.Checks) > 16:
		return false
	}
	names, ends, right := map[string]int{}, map[[2]int]int{}, true
	must := func(so bool) { right = right && so }
	isNode := func(at int) bool { return slowIn(at, 0, len(p.Nodes)-1) }
	for _, n := range p.Nodes {
		names[n.Name]++
		must(slowIn(n.AS, 1, 65535))
	}
	for _, l := range p.Links {
		ends[[2]int{l.A, l.B}]++
		must(isNode(l.A) && isNode(l.B) && l.A < l.B && slowIn(l.Cost, 1, 15))
	}
	for _, d := range p.Dests {
		names[d.Name]++
		must(len(d.Origins) > 0)
		for i, at := range d.Origins {
			must(isNode(at) && (i == 0 || d.Origins[i-1] < at))
		}
	}
	for _, c := range p.Checks {
		must(slowIn(c.Kind, 1, 4) && isNode(c.Node) && slowIn(c.Dest, 0, len(p.Dests)-1))
		must(c.Limit == 0 || c.Kind == 2 && slowIn(c.Limit, 0, 65535))
		must(c.Other == 0 || (c.Kind == 3 || c.Kind == 4) && isNode(c.Other))
	}
	for name, times := range names {
		must(times == 1 && nameForm.MatchString(name) && !keywordForm.MatchString(name))
	}
	for _, times := range ends {
		must(times == 1)
	}
	return right
}

// slowPrint is of networks that may be.
func slowPrint(p api.Plan) string {
	name := func(at int) string { return p.Nodes[at].Name }
	text := "protocol vector;\n"
	if p.Proto == 2 {
		text = fmt.Sprintf("protocol path %d;\n", p.Cap)
	}
	text += fmt.Sprintf("failures %d;\n", p.K)
	for _, n := range p.Nodes {
		text += fmt.Sprintf("node %s %d;\n", n.Name, n.AS)
	}
	for _, l := range p.Links {
		text += fmt.Sprintf("link %s %s %d;\n", name(l.A), name(l.B), l.Cost)
	}
	for _, d := range p.Dests {
		text += "dest " + d.Name + " at"
		for _, at := range d.Origins {
			text += " " + name(at)
		}
		text += ";\n"
	}
	for _, c := range p.Checks {
		dest := p.Dests[c.Dest].Name
		text += map[int]string{
			1: fmt.Sprintf("check reach %s %s;\n", name(c.Node), dest),
			2: fmt.Sprintf("check within %s %s %d;\n", name(c.Node), dest, c.Limit),
			3: fmt.Sprintf("check waypoint %s %s %s;\n", name(c.Node), dest, name(c.Other)),
			4: fmt.Sprintf("check equal %s %s %s;\n", name(c.Node), name(c.Other), dest),
		}[c.Kind]
	}
	return text
}

// checkOne holds a network against the slow reckoning: whether it may be, and its text.
func checkOne(t *testing.T, p api.Plan, right bool) {
	t.Helper()
	if got := plan.Right(p); got != right {
		t.Fatalf("Right(%+v) = %v", p, got)
	}
	wantText, wantErr := "", api.ErrArg
	if right {
		wantText, wantErr = slowPrint(p), api.OK
	}
	if text, err := plan.Print(p); text != wantText || err != wantErr {
		t.Fatalf("Print(%+v) = %q, %d, not %q, %d", p, text, err, wantText, wantErr)
	}
}

func TestK1OrdinaryNetworks(t *testing.T) {
	for _, p := range bases() {
		checkOne(t, p, true)
	}
	checkOne(t, api.Plan{}, false)
	checkOne(t, api.Plan{Proto: 1}, false)
	// Nothing need hang together, and nothing need be checked.
	checkOne(t, api.Plan{Proto: 1, Nodes: []api.Node{{Name: "a", AS: 1}, {Name: "b", AS: 1}}}, true)
	checkOne(t, api.Plan{Proto: 2, Cap: 1, Nodes: []api.Node{{Name: "a", AS: 9}}, Dests: []api.Dest{{Name: "x", Origins: []int{0}}}}, true)
}

// TestK1Numbers sets one number of a network: it may be from the least to the most, and nothing else.
func TestK1Numbers(t *testing.T) {
	fields := []struct {
		name        string
		base        func() api.Plan
		set         func(p *api.Plan, n int)
		least, most int
	}{
		{"cap of path", pathNet, func(p *api.Plan, n int) { p.Cap = n }, 1, 12},
		{"cap of vector", ringNet, func(p *api.Plan, n int) { p.Cap = n }, 0, 0},
		{"proto, no cap", ringNet, func(p *api.Plan, n int) { p.Proto = n }, 1, 1},
		{"proto, cap", pathNet, func(p *api.Plan, n int) { p.Proto = n }, 2, 2},
		{"failures, no links", leastNet, func(p *api.Plan, n int) { p.K = n }, 0, 0},
		{"failures, three links", pathNet, func(p *api.Plan, n int) { p.K = n }, 0, 3},
		{"failures, four links", ringNet, func(p *api.Plan, n int) { p.K = n }, 0, 4},
		{"failures, many links", fullNet, func(p *api.Plan, n int) { p.K = n }, 0, 4},
		{"first AS", pathNet, func(p *api.Plan, n int) { p.Nodes[0].AS = n }, 1, 65535},
		{"last AS", pathNet, func(p *api.Plan, n int) { p.Nodes[3].AS = n }, 1, 65535},
		{"A, below 2", ringNet, func(p *api.Plan, n int) { p.Links = []api.Link{{A: n, B: 2, Cost: 1}} }, 0, 1},
		{"B, above 1", ringNet, func(p *api.Plan, n int) { p.Links = []api.Link{{A: 1, B: n, Cost: 1}} }, 2, 3},
		{"first cost", ringNet, func(p *api.Plan, n int) { p.Links[0].Cost = n }, 1, 15},
		{"last cost", ringNet, func(p *api.Plan, n int) { p.Links[3].Cost = n }, 1, 15},
		{"only origin", pathNet, func(p *api.Plan, n int) { p.Dests[0].Origins[0] = n }, 0, 3},
		{"first origin, above it 1 and 3", pathNet, func(p *api.Plan, n int) { p.Dests[1].Origins[0] = n }, 0, 0},
		{"origin between 0 and 3", pathNet, func(p *api.Plan, n int) { p.Dests[1].Origins[1] = n }, 1, 2},
		{"last origin, below it 0 and 1", pathNet, func(p *api.Plan, n int) { p.Dests[1].Origins[2] = n }, 2, 3},
		{"kind, all else 0", pathNet, func(p *api.Plan, n int) { p.Checks[0].Kind = n }, 1, 4},
		{"kind, a limit", pathNet, func(p *api.Plan, n int) { p.Checks[1].Kind = n }, 2, 2},
		{"kind, another node", pathNet, func(p *api.Plan, n int) { p.Checks[2].Kind = n }, 3, 4},
		{"limit of reach", pathNet, func(p *api.Plan, n int) { p.Checks[0].Limit = n }, 0, 0},
		{"limit of within", pathNet, func(p *api.Plan, n int) { p.Checks[1].Limit = n }, 0, 65535},
		{"limit of waypoint", pathNet, func(p *api.Plan, n int) { p.Checks[2].Limit = n }, 0, 0},
		{"limit of equal", pathNet, func(p *api.Plan, n int) { p.Checks[3].Limit = n }, 0, 0},
		{"other of reach", pathNet, func(p *api.Plan, n int) { p.Checks[0].Other = n }, 0, 0},
		{"other of within", pathNet, func(p *api.Plan, n int) { p.Checks[1].Other = n }, 0, 0},
		{"other of waypoint", pathNet, func(p *api.Plan, n int) { p.Checks[2].Other = n }, 0, 3},
		{"other of equal", pathNet, func(p *api.Plan, n int) { p.Checks[3].Other = n }, 0, 3},
	}
	for i := range 4 {
		fields = append(fields, fields[0], fields[0])
		last := fields[len(fields)-2:]
		last[0].name, last[0].set, last[0].least, last[0].most = "node of a check", func(p *api.Plan, n int) { p.Checks[i].Node = n }, 0, 3
		last[1].name, last[1].set, last[1].least, last[1].most = "dest of a check", func(p *api.Plan, n int) { p.Checks[i].Dest = n }, 0, 1
	}
	for _, f := range fields {
		t.Run(f.name, func(t *testing.T) {
			numbers := slices.Concat(far, []int{f.least - 1, f.least, f.most, f.most + 1, f.least + (f.most-f.least)/2})
			for n := range 20 {
				numbers = append(numbers, n)
			}
			for _, n := range numbers {
				p := f.base()
				f.set(&p, n)
				checkOne(t, p, f.least <= n && n <= f.most)
			}
		})
	}
}

func TestK1ProtocolsAndCaps(t *testing.T) {
	for proto := -2; proto <= 5; proto++ {
		for limit := -2; limit <= 14; limit++ {
			p := leastNet()
			p.Proto, p.Cap = proto, limit
			checkOne(t, p, proto == 1 && limit == 0 || proto == 2 && limit >= 1 && limit <= 12)
		}
	}
}

func TestK1FailuresAndLinks(t *testing.T) {
	for links := range 17 {
		for k := -1; k <= 17; k++ {
			p := fullNet()
			p.Links, p.K = p.Links[:links], k
			checkOne(t, p, k >= 0 && k <= min(4, links))
		}
	}
}

// TestK1Counts takes from a list, or puts more of the same sort on it, up to far beyond what there may be.
func TestK1Counts(t *testing.T) {
	for count := range 30 {
		nodes, links, dests, checks := leastNet(), fullNet(), fullNet(), fullNet()
		nodes.Nodes, links.Links, dests.Dests, checks.Checks, dests.Checks, links.K = nil, nil, nil, nil, nil, 0
		for i := range count {
			nodes.Nodes = append(nodes.Nodes, api.Node{Name: fmt.Sprint("n", i), AS: 65535 - i})
			links.Links = append(links.Links, api.Link{A: i % 6, B: 6 + (i+i/6)%6, Cost: 1 + i%15})
			dests.Dests = append(dests.Dests, api.Dest{Name: fmt.Sprint("d", i), Origins: []int{i % 12}})
			checks.Checks = append(checks.Checks, api.Check{Kind: 1})
		}
		checkOne(t, nodes, count >= 1 && count <= 12)
		checkOne(t, links, count <= 16)
		checkOne(t, dests, count <= 4)
		checkOne(t, checks, count <= 16)
	}
}

func TestK1Names(t *testing.T) {
	names := map[string]bool{
		"z": true, "Z": true, "x9": true, "x-": true, "x_": true, "X-_-9": true, "abcdefghijk9": true, "vectors": true, "Node": true, "at-": true,
		"": false, "abcdefghijklm": false, "9": false, "9a": false, "_a": false, "-a": false, "z z": false, "z;": false, "z\n": false,
		" z": false, "z ": false, "#z": false, "z#": false, "ä": false, "zä": false, "\x00": false, "z\x00": false, "\xff": false, "z.y": false,
		strings.Repeat("z", 70000): false,
	}
	for _, word := range strings.Fields("protocol vector path failures node link dest at check reach within waypoint equal") {
		names[word] = false
	}
	for name, right := range names {
		for i := range 4 {
			p := pathNet()
			p.Nodes[i].Name = name
			checkOne(t, p, right)
		}
		for i := range 2 {
			p := pathNet()
			p.Dests[i].Name = name
			checkOne(t, p, right)
		}
	}
}

func TestK1NamesUnlike(t *testing.T) {
	name := func(p *api.Plan, i int) *string {
		if i < 12 {
			return &p.Nodes[i].Name
		}
		return &p.Dests[i-12].Name
	}
	for i := range 16 {
		for j := range 16 {
			p := fullNet()
			*name(&p, i) = *name(&p, j)
			checkOne(t, p, i == j)
		}
	}
	// Great and small letters are unlike, and AS numbers may be alike.
	p := ringNet()
	p.Nodes[1].Name, p.Dests[0].Name, p.Nodes[1].AS = "A", "C", 1
	checkOne(t, p, true)
}

func TestK1Links(t *testing.T) {
	var ends []api.Link
	for a := -1; a <= 3; a++ {
		for b := -1; b <= 3; b++ {
			ends = append(ends, api.Link{A: a, B: b, Cost: 1})
		}
	}
	may := func(l api.Link) bool { return 0 <= l.A && l.A < l.B && l.B < 3 }
	for _, one := range ends {
		for _, other := range ends {
			p := api.Plan{Proto: 1, Nodes: ringNet().Nodes[:3], Links: []api.Link{one, other}}
			right := may(one) && may(other) && one != other
			checkOne(t, p, right)
			// That costs are unlike does not part two links.
			p.Links[1].Cost = 2
			checkOne(t, p, right)
		}
	}
	p := fullNet()
	for i := range 16 {
		for j := range 16 {
			q := deepCopy(p)
			q.Links[i] = q.Links[j]
			checkOne(t, q, i == j)
		}
	}
}

func TestK1Origins(t *testing.T) {
	var walk func(origins []int)
	walk = func(origins []int) {
		right := len(origins) > 0
		for i, at := range origins {
			right = right && at >= 0 && at < 3 && (i == 0 || origins[i-1] < at)
		}
		p := api.Plan{Proto: 1, Nodes: ringNet().Nodes[:3], Dests: []api.Dest{{Name: "x", Origins: []int{1}}, {Name: "y", Origins: origins}}}
		checkOne(t, p, right)
		if len(origins) < 4 {
			for at := -1; at <= 3; at++ {
				walk(append(slices.Clone(origins), at))
			}
		}
	}
	walk(nil)
	p := leastNet()
	p.Dests = []api.Dest{{Name: "x", Origins: []int{}}}
	checkOne(t, p, false)
	p.Dests = []api.Dest{{Name: "x", Origins: make([]int, 100000)}}
	checkOne(t, p, false)
}

func TestK1Checks(t *testing.T) {
	values := []int{-1, 0, 1, 2, 3, 65535, 65536}
	for kind := -1; kind <= 6; kind++ {
		for _, node := range values {
			for _, dest := range values {
				for _, limit := range values {
					for _, other := range values {
						c := api.Check{Kind: kind, Node: node, Dest: dest, Limit: limit, Other: other}
						right := node >= 0 && node < 3 && dest >= 0 && dest < 2
						switch kind {
						case 1:
							right = right && limit == 0 && other == 0
						case 2:
							right = right && limit >= 0 && limit <= 65535 && other == 0
						case 3, 4:
							right = right && limit == 0 && other >= 0 && other < 3
						default:
							right = false
						}
						checkOne(t, api.Plan{
							Proto: 1, Nodes: ringNet().Nodes[:3], Checks: []api.Check{{Kind: 1}, c},
							Dests: []api.Dest{{Name: "x", Origins: []int{0}}, {Name: "y", Origins: []int{0}}},
						}, right)
					}
				}
			}
		}
	}
	// Where there is no destination, none can be checked.
	for kind := 1; kind <= 4; kind++ {
		p := leastNet()
		p.Checks = []api.Check{{Kind: kind}}
		checkOne(t, p, false)
	}
}

func TestK2Texts(t *testing.T) {
	two := api.Plan{Proto: 1, K: 1, Nodes: []api.Node{{Name: "a", AS: 1}, {Name: "b", AS: 2}}, Links: []api.Link{{A: 0, B: 1, Cost: 3}}}
	for _, c := range []struct {
		net  api.Plan
		text string
	}{
		{two, "protocol vector;\nfailures 1;\nnode a 1;\nnode b 2;\nlink a b 3;\n"},
		{leastNet(), "protocol vector;\nfailures 0;\nnode a 1;\n"},
		{ringNet(), ringText},
		{pathNet(), pathText},
	} {
		if text, err := plan.Print(c.net); text != c.text || err != api.OK {
			t.Errorf("Print(%+v) = %q, %d, not %q", c.net, text, err, c.text)
		}
	}
}

func TestK2WrongNetworks(t *testing.T) {
	wrongs := []func(p *api.Plan){
		func(p *api.Plan) { p.Proto = 3 },
		func(p *api.Plan) { p.Cap = 13 },
		func(p *api.Plan) { p.K = 4 },
		func(p *api.Plan) { p.Nodes[3].Name = "equal" },
		func(p *api.Plan) { p.Nodes[3].AS = 0 },
		func(p *api.Plan) { p.Links[2] = api.Link{A: 3, B: 0, Cost: 1} },
		func(p *api.Plan) { p.Links[2].B = 4 },
		func(p *api.Plan) { p.Dests[1].Name = "x" },
		func(p *api.Plan) { p.Dests[1].Origins[2] = 4 },
		func(p *api.Plan) { p.Dests[1].Origins = nil },
		func(p *api.Plan) { p.Checks[4].Kind = 5 },
		func(p *api.Plan) { p.Checks[4].Dest = 2 },
		func(p *api.Plan) { p.Checks[4].Node = -1 },
		func(p *api.Plan) { p.Checks[4].Other = 4 },
		func(p *api.Plan) { p.Checks[4].Limit = 1 },
	}
	for i, wrong := range wrongs {
		p := pathNet()
		wrong(&p)
		if text, err := plan.Print(p); text != "" || err != api.ErrArg {
			t.Errorf("wrong network %d: %q, %d", i, text, err)
		}
	}
}

// unlike are all networks that differ from one in one thing alone, right or not.
func unlike(base api.Plan) []api.Plan {
	var all []api.Plan
	change := func(f func(p *api.Plan)) {
		p := deepCopy(base)
		f(&p)
		all = append(all, p)
	}
	number := func(at func(p *api.Plan) *int) {
		for _, d := range []int{-1, 1, 2, 3, 65536, math.MinInt} {
			change(func(p *api.Plan) { *at(p) += d })
		}
	}
	text := func(at func(p *api.Plan) *string) {
		change(func(p *api.Plan) { *at(p) += "q" })
		change(func(p *api.Plan) { *at(p) += "\x00" })
		change(func(p *api.Plan) { *at(p) = "q" + (*at(p))[1:] })
		change(func(p *api.Plan) { *at(p) = "" })
	}
	number(func(p *api.Plan) *int { return &p.Proto })
	number(func(p *api.Plan) *int { return &p.Cap })
	number(func(p *api.Plan) *int { return &p.K })
	for i := range base.Nodes {
		text(func(p *api.Plan) *string { return &p.Nodes[i].Name })
		number(func(p *api.Plan) *int { return &p.Nodes[i].AS })
		change(func(p *api.Plan) { p.Nodes = slices.Delete(p.Nodes, i, i+1) })
		change(func(p *api.Plan) { p.Nodes = append(p.Nodes, p.Nodes[i]) })
	}
	for i := range base.Links {
		number(func(p *api.Plan) *int { return &p.Links[i].A })
		number(func(p *api.Plan) *int { return &p.Links[i].B })
		number(func(p *api.Plan) *int { return &p.Links[i].Cost })
		change(func(p *api.Plan) { p.Links = slices.Delete(p.Links, i, i+1) })
		change(func(p *api.Plan) { p.Links = append(p.Links, p.Links[i]) })
	}
	for i, d := range base.Dests {
		text(func(p *api.Plan) *string { return &p.Dests[i].Name })
		for j := range d.Origins {
			number(func(p *api.Plan) *int { return &p.Dests[i].Origins[j] })
			change(func(p *api.Plan) { p.Dests[i].Origins = slices.Delete(p.Dests[i].Origins, j, j+1) })
			change(func(p *api.Plan) { p.Dests[i].Origins = append(p.Dests[i].Origins, j) })
		}
		change(func(p *api.Plan) { p.Dests = slices.Delete(p.Dests, i, i+1) })
		change(func(p *api.Plan) { p.Dests = append(p.Dests, p.Dests[i]) })
	}
	for i := range base.Checks {
		number(func(p *api.Plan) *int { return &p.Checks[i].Kind })
		number(func(p *api.Plan) *int { return &p.Checks[i].Node })
		number(func(p *api.Plan) *int { return &p.Checks[i].Dest })
		number(func(p *api.Plan) *int { return &p.Checks[i].Limit })
		number(func(p *api.Plan) *int { return &p.Checks[i].Other })
		change(func(p *api.Plan) { p.Checks = slices.Delete(p.Checks, i, i+1) })
		change(func(p *api.Plan) { p.Checks = append(p.Checks, p.Checks[i]) })
	}
	return all
}

// orders are a network with two neighbours of one list changed about.
func orders(base api.Plan) []api.Plan {
	var all []api.Plan
	for i := 1; i < len(base.Nodes); i++ {
		p := deepCopy(base)
		p.Nodes[i-1], p.Nodes[i] = p.Nodes[i], p.Nodes[i-1]
		all = append(all, p)
	}
	for i := 1; i < len(base.Links); i++ {
		p := deepCopy(base)
		p.Links[i-1], p.Links[i] = p.Links[i], p.Links[i-1]
		all = append(all, p)
	}
	for i := 1; i < len(base.Dests); i++ {
		p := deepCopy(base)
		p.Dests[i-1], p.Dests[i] = p.Dests[i], p.Dests[i-1]
		all = append(all, p)
	}
	for i := 1; i < len(base.Checks); i++ {
		p := deepCopy(base)
		p.Checks[i-1], p.Checks[i] = p.Checks[i], p.Checks[i-1]
		all = append(all, p)
	}
	return all
}

func TestK1UnlikeInOneThing(t *testing.T) {
	right := 0
	for _, base := range []api.Plan{leastNet(), ringNet(), pathNet()} {
		for _, p := range append(unlike(base), orders(base)...) {
			checkOne(t, p, slowRight(p))
			if slowRight(p) {
				right++
			}
		}
	}
	if right < 100 {
		t.Error("only", right, "of them may be")
	}
}

func TestK3Same(t *testing.T) {
	if !plan.Same(api.Plan{}, api.Plan{}) || plan.Same(api.Plan{}, leastNet()) || plan.Same(leastNet(), api.Plan{}) {
		t.Error("the empty network")
	}
	for i, base := range bases() {
		for j, other := range bases() {
			if plan.Same(base, other) != (i == j) {
				t.Error(i, j)
			}
		}
	}
	for _, base := range []api.Plan{leastNet(), ringNet(), pathNet()} {
		for _, p := range append(unlike(base), orders(base)...) {
			want := reflect.DeepEqual(base, p)
			if plan.Same(base, p) != want || plan.Same(p, base) != want {
				t.Errorf("Same(%+v, %+v) is not %v", base, p, want)
			}
			if !plan.Same(p, deepCopy(p)) {
				t.Errorf("%+v is not the same as itself", p)
			}
		}
	}
}

func TestK3SameLists(t *testing.T) {
	// A list without elements may be nil or not (R2), and spare room is not the network's.
	none := api.Plan{Proto: 1, Dests: []api.Dest{{Name: "x"}}}
	empty := api.Plan{Proto: 1, Nodes: []api.Node{}, Links: []api.Link{}, Dests: []api.Dest{{Name: "x", Origins: []int{}}}, Checks: []api.Check{}}
	if !plan.Same(none, empty) || !plan.Same(empty, none) {
		t.Error("nil and empty")
	}
	a, b := pathNet(), pathNet()
	a.Nodes, a.Dests[1].Origins = append(a.Nodes, api.Node{Name: "q"})[:4], append(a.Dests[1].Origins, 9)[:3]
	if !plan.Same(a, b) || !plan.Same(b, a) {
		t.Error("spare room")
	}
	// The origins of one are not another's.
	c := pathNet()
	c.Dests[0].Origins, c.Dests[1].Origins = c.Dests[1].Origins, c.Dests[0].Origins
	if plan.Same(b, c) {
		t.Error("origins changed about")
	}
}

func TestK3Places(t *testing.T) {
	nets := append(bases(), api.Plan{}, api.Plan{
		// Wrong networks have first ones, too.
		Nodes: []api.Node{{Name: "b"}, {Name: "a"}, {Name: "b"}, {Name: ""}, {Name: "at"}, {Name: "a"}, {Name: ""}},
		Dests: []api.Dest{{Name: "c"}, {Name: "a"}, {Name: "\xff"}, {Name: "c"}, {Name: "\xff"}, {Name: "node"}, {Name: "last"}},
	})
	names := []string{"", "a", "b", "B", "c", "d", "x", "A", "at", "node", "last", "B-2", "c_", "abcdefghijkl", "longer-nam11", "destination3", "\xff", "a ", "lastly", "las"}
	for i, p := range nets {
		for _, name := range names {
			node, dest := -1, -1
			for at := len(p.Nodes) - 1; at >= 0; at-- {
				if p.Nodes[at].Name == name {
					node = at
				}
			}
			for at := len(p.Dests) - 1; at >= 0; at-- {
				if p.Dests[at].Name == name {
					dest = at
				}
			}
			if got := plan.Node(p, name); got != node {
				t.Errorf("network %d: Node of %q is %d, not %d", i, name, got, node)
			}
			if got := plan.Dest(p, name); got != dest {
				t.Errorf("network %d: Dest of %q is %d, not %d", i, name, got, dest)
			}
		}
	}
	many := api.Plan{Nodes: make([]api.Node, 1000), Dests: make([]api.Dest, 1000)}
	many.Nodes[999].Name, many.Dests[998].Name = "a", "a"
	if plan.Node(many, "a") != 999 || plan.Dest(many, "a") != 998 {
		t.Error("far down the lists")
	}
}

// readBack is the network of a text's tokens, for texts that Print told: that it can be read back shows that no two networks have one text.
func readBack(tokens []api.Token) api.Plan {
	var p api.Plan
	var line []api.Token
	name := func(i int) int { return plan.Node(p, line[i].Text) }
	for _, tok := range tokens {
		if tok.Kind != api.TokStop {
			line = append(line, tok)
			continue
		}
		switch line[0].Text {
		case "protocol":
			p.Proto = 1
			if len(line) == 3 {
				p.Proto, p.Cap = 2, line[2].N
			}
		case "failures":
			p.K = line[1].N
		case "node":
			p.Nodes = append(p.Nodes, api.Node{Name: line[1].Text, AS: line[2].N})
		case "link":
			p.Links = append(p.Links, api.Link{A: name(1), B: name(2), Cost: line[3].N})
		case "dest":
			d := api.Dest{Name: line[1].Text}
			for i := 3; i < len(line); i++ {
				d.Origins = append(d.Origins, name(i))
			}
			p.Dests = append(p.Dests, d)
		case "check":
			c := api.Check{Node: name(2)}
			dest := line[3].Text
			switch line[1].Text {
			case "reach":
				c.Kind = 1
			case "within":
				c.Kind, c.Limit = 2, line[4].N
			case "waypoint":
				c.Kind, c.Other = 3, name(4)
			case "equal":
				c.Kind, c.Other, dest = 4, name(3), line[4].Text
			}
			c.Dest = plan.Dest(p, dest)
			p.Checks = append(p.Checks, c)
		}
		line = nil
	}
	return p
}

// checkText holds a right network's text: it is tokens, and the network can be read back from them.
func checkText(t *testing.T, p api.Plan) string {
	t.Helper()
	text, err := plan.Print(p)
	tokens, lexErr, _ := lex.Lex(text)
	if err != api.OK || lexErr != api.OK || len(tokens) == 0 {
		t.Fatalf("Print(%+v) = %q, %d; as tokens %d", p, text, err, lexErr)
	}
	if back := readBack(tokens); !plan.Same(back, p) {
		t.Errorf("%+v came back as %+v", p, back)
	}
	if strings.Count(text, "\n") != 2+len(p.Nodes)+len(p.Links)+len(p.Dests)+len(p.Checks) || !strings.HasSuffix(text, ";\n") {
		t.Errorf("lines of %q", text)
	}
	return text
}

func TestK4UnlikeTexts(t *testing.T) {
	texts := map[string]api.Plan{}
	for _, base := range bases() {
		nets := append(unlike(base), orders(base)...)
		for _, p := range append(nets, base) {
			if !slowRight(p) {
				continue
			}
			text := checkText(t, p)
			if before, told := texts[text]; told && !plan.Same(before, p) {
				t.Errorf("%+v and %+v have one text", before, p)
			}
			texts[text] = p
		}
	}
	if len(texts) < 500 {
		t.Error("only", len(texts), "texts")
	}
}

// wildNet is a network of numbers and names by chance, most of which are such as may be.
func wildNet(chance *rand.Rand) api.Plan {
	number := func(least, most int) int {
		switch chance.Intn(150) {
		case 0:
			return least - 1
		case 1:
			return most + 1
		case 2:
			return far[chance.Intn(len(far))]
		}
		return least + chance.Intn(max(most-least+1, 1))
	}
	count := func(most int) int { return max(0, min(number(0, most), most+1)) }
	names := []string{"a", "b", "c", "d", "e", "f", "g", "h", "x", "y", "z", "path", "", "A", "aa"}
	chance.Shuffle(8, func(i, j int) { names[i], names[j] = names[j], names[i] })
	p := api.Plan{Proto: number(1, 2)}
	if p.Proto == 2 {
		p.Cap = number(1, 12)
	}
	for i := range count(12) {
		p.Nodes = append(p.Nodes, api.Node{Name: names[i], AS: number(1, 65535)})
	}
	for range count(5) {
		b := number(1, len(p.Nodes)-1)
		p.Links = append(p.Links, api.Link{A: number(0, b-1), B: b, Cost: number(1, 15)})
	}
	p.K = number(0, min(4, len(p.Links)))
	for i := range count(4) {
		d := api.Dest{Name: []string{"x", "y", "z", "w", "v"}[i]}
		for at := number(0, 2); at < len(p.Nodes) && at >= -1; at += number(1, 3) {
			d.Origins = append(d.Origins, at)
			if len(d.Origins) > 12 {
				break
			}
		}
		p.Dests = append(p.Dests, d)
	}
	for range count(4) {
		c := api.Check{Kind: number(1, 4), Node: number(0, len(p.Nodes)-1), Dest: number(0, len(p.Dests)-1)}
		switch c.Kind {
		case 2:
			c.Limit = number(0, 65535)
		case 3, 4:
			c.Other = number(0, len(p.Nodes)-1)
		}
		p.Checks = append(p.Checks, c)
	}
	return p
}

func TestK1ByChance(t *testing.T) {
	chance, right := rand.New(rand.NewSource(3)), 0
	for range 20000 {
		p := wildNet(chance)
		checkOne(t, p, slowRight(p))
		if slowRight(p) {
			checkText(t, p)
			right++
		}
	}
	if right < 1000 || right > 19000 {
		t.Error(right, "of 20000 may be")
	}
}

func TestK4FitsTheMostBytes(t *testing.T) {
	if text := checkText(t, fullNet()); len(text) > 10000 {
		t.Error(len(text), "bytes")
	}
}

// spare puts marks behind each list's length.
func spare(p api.Plan) api.Plan {
	p.Nodes = append(p.Nodes, api.Node{Name: "spare", AS: -7})[:len(p.Nodes)]
	p.Links = append(p.Links, api.Link{A: -7, B: -7, Cost: -7})[:len(p.Links)]
	for i, d := range p.Dests {
		p.Dests[i].Origins = append(d.Origins, -7, -7)[:len(d.Origins)]
	}
	p.Dests = append(p.Dests, api.Dest{Name: "spare"})[:len(p.Dests)]
	p.Checks = append(p.Checks, api.Check{Kind: -7})[:len(p.Checks)]
	return p
}

// whole is a network with all that stands behind its lists' lengths.
func whole(p api.Plan) api.Plan {
	p.Nodes, p.Links, p.Checks = p.Nodes[:cap(p.Nodes)], p.Links[:cap(p.Links)], p.Checks[:cap(p.Checks)]
	p.Dests = slices.Clone(p.Dests[:cap(p.Dests)])
	for i, d := range p.Dests {
		p.Dests[i].Origins = d.Origins[:cap(d.Origins)]
	}
	return p
}

func TestR3LeavesNetworksAsTheyWere(t *testing.T) {
	for _, base := range bases() {
		for _, p := range append(unlike(base), base) {
			p = spare(deepCopy(p))
			q := spare(deepCopy(p))
			before := deepCopy(whole(p))
			plan.Right(p)
			plan.Print(p)
			plan.Same(p, q)
			plan.Same(q, p)
			plan.Node(p, "a")
			plan.Dest(p, "x")
			if !reflect.DeepEqual(whole(p), before) {
				t.Errorf("%+v was %+v", whole(p), before)
			}
		}
	}
}

func TestR3KeepsNothing(t *testing.T) {
	p := pathNet()
	text, _ := plan.Print(p)
	p.Nodes[0].Name, p.Links[0].Cost, p.Dests[1].Origins[2], p.Checks[0].Kind, p.K = "new", 3, 2, 2, 0
	if text != pathText {
		t.Errorf("the text is now %q", text)
	}
	want := slowPrint(p)
	if text, err := plan.Print(p); text != want || err != api.OK {
		t.Errorf("the new text is %q, %d, not %q", text, err, want)
	}
}

func TestR4TheSameAgain(t *testing.T) {
	for range 3 {
		for _, p := range []api.Plan{ringNet(), {}, pathNet(), {Proto: 9}, fullNet()} {
			checkOne(t, p, slowRight(p))
		}
	}
}

// FuzzR1 takes a network's numbers and names from bytes.
func FuzzR1(f *testing.F) {
	f.Add([]byte("\x02\x07\x02\x02a\x01b\x02\x01\x00\x01\x03\x01x\x01\x00\x01\x01\x00\x00\x00\x00"))
	f.Add([]byte{})
	f.Fuzz(func(t *testing.T, b []byte) {
		next := func() int {
			if len(b) == 0 {
				return 0
			}
			n := int(int8(b[0]))
			b = b[1:]
			if n < -100 {
				return far[-n%len(far)]
			}
			return n
		}
		word := func() string {
			n := min(max(next(), 0)%15, len(b))
			s := string(b[:n])
			b = b[n:]
			return s
		}
		p := api.Plan{Proto: next(), Cap: next(), K: next()}
		for range min(max(next(), 0), 20) {
			p.Nodes = append(p.Nodes, api.Node{Name: word(), AS: next()})
		}
		for range min(max(next(), 0), 20) {
			p.Links = append(p.Links, api.Link{A: next(), B: next(), Cost: next()})
		}
		for range min(max(next(), 0), 20) {
			d := api.Dest{Name: word()}
			for range min(max(next(), 0), 20) {
				d.Origins = append(d.Origins, next())
			}
			p.Dests = append(p.Dests, d)
		}
		for range min(max(next(), 0), 20) {
			p.Checks = append(p.Checks, api.Check{Kind: next(), Node: next(), Dest: next(), Limit: next(), Other: next()})
		}
		checkOne(t, p, slowRight(p))
		if !plan.Same(p, deepCopy(p)) {
			t.Errorf("%+v is not the same as itself", p)
		}
		if slowRight(p) {
			checkText(t, p)
		}
	})
}
