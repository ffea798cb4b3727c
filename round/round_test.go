package round_test

import (
	"fmt"
	"math"
	"math/rand"
	"reflect"
	"slices"
	"strings"
	"testing"

	"backstay/api"
	"backstay/attr"
	"backstay/plan"
	"backstay/round"
)

// far are numbers that are no destination of any network, among them such as wrap to those that are.
var far = []int{
	math.MinInt, math.MinInt + 1, math.MinInt32, -1 << 32, 1 - 1<<32, -65536, -256, -16, -12, -4, -2, -1,
	4, 5, 12, 16, 64, 255, 256, 257, 65535, 65536, math.MaxInt32, 1 << 31, math.MaxUint32, 1 << 32, 1<<32 + 1, math.MaxInt - 1, math.MaxInt,
}

// none is the route that is none.
var none = api.Route{}

func vector(cost int) api.Route { return api.Route{Kind: api.RouteVector, Cost: cost} }

func path(numbers ...int) api.Route { return api.Route{Kind: api.RoutePath, Path: numbers} }

// vectors are routes by their costs; none of a cost below 0.
func vectors(costs ...int) []api.Route {
	var l []api.Route
	for _, cost := range costs {
		if cost < 0 {
			l = append(l, none)
		} else {
			l = append(l, vector(cost))
		}
	}
	return l
}

// counted are the numbers from one on, each so far from the one ahead.
func counted(from, step, count int) []int {
	var numbers []int
	for i := range count {
		numbers = append(numbers, from+i*step)
	}
	return numbers
}

// net is a network by vectors, if its cap is 0, else by paths, of nodes of some AS.
func net(most int, as ...int) api.Plan {
	p := api.Plan{Proto: api.ProtoVector}
	if most > 0 {
		p.Proto, p.Cap = api.ProtoPath, most
	}
	for i, number := range as {
		p.Nodes = append(p.Nodes, api.Node{Name: fmt.Sprint("n", i), AS: number})
	}
	return p
}

// joined is a network with links between its nodes; each is a node, a node, and the cost.
func joined(p api.Plan, links ...[3]int) api.Plan {
	for _, l := range links {
		p.Links = append(p.Links, api.Link{A: l[0], B: l[1], Cost: l[2]})
	}
	return p
}

// serving is a network with a destination for each list of origins.
func serving(p api.Plan, origins ...[]int) api.Plan {
	for _, o := range origins {
		p.Dests = append(p.Dests, api.Dest{Name: fmt.Sprint("d", len(p.Dests)), Origins: o})
	}
	return p
}

// row is a network of nodes in a row, the destination at the first one.
func row(most, nodes, cost int) api.Plan {
	p := net(most, counted(101, 1, nodes)...)
	for i := range nodes - 1 {
		p = joined(p, [3]int{i, i + 1, cost})
	}
	return serving(p, []int{0})
}

// town is a network of four nodes, the first and the last of the same AS, and a fifth one that no link reaches.
func town(most int) api.Plan {
	p := joined(net(most, 7, 8, 9, 7, 65535), [3]int{0, 1, 3}, [3]int{1, 2, 15}, [3]int{2, 3, 1}, [3]int{0, 3, 2}, [3]int{0, 2, 14})
	p.K = 2
	p.Checks = []api.Check{{Kind: api.CheckReach, Node: 1}}
	return serving(p, []int{1}, []int{0, 2, 4}, []int{0, 1, 2, 3, 4}, []int{3})
}

// greatest is a network with as much of all as there may be: a ring of twelve, with four links across.
func greatest(most int) api.Plan {
	p := net(most, counted(65535, -1, 12)...)
	p.Nodes[6].AS, p.Nodes[11].AS = 1, 300
	for i := range 11 {
		p = joined(p, [3]int{i, i + 1, 1 + i%3})
	}
	p = joined(p, [3]int{0, 11, 2}, [3]int{0, 6, 13}, [3]int{1, 7, 14}, [3]int{2, 8, 15}, [3]int{3, 9, 5})
	p.K = 4
	p.Checks = slices.Repeat([]api.Check{{Kind: api.CheckWithin, Node: 11, Limit: 65535}}, 16)
	return serving(p, []int{0}, []int{11}, counted(0, 1, 12), []int{1, 4, 10})
}

// square is a ring of four, one link of which is dear.
func square(most int) api.Plan {
	return serving(joined(net(most, 1, 2, 3, 4), [3]int{0, 1, 1}, [3]int{1, 2, 1}, [3]int{2, 3, 1}, [3]int{0, 3, 9}), []int{0}, []int{1, 3})
}

// few are networks so small that every set of failed links can be met.
func few() []api.Plan {
	var all []api.Plan
	for _, most := range []int{0, 1, 2, 3, 4, 12} {
		all = append(all, town(most), square(most), row(most, 1, 1), row(most, 2, 15), row(most, 5, 4),
			serving(joined(net(most, 5, 5), [3]int{0, 1, 1}), []int{0}, []int{1}, []int{0, 1}),
			serving(joined(net(most, 5, 6, 5), [3]int{0, 1, 2}, [3]int{1, 2, 2}), []int{0}, []int{1}, []int{0, 2}),
			serving(joined(net(most, 5, 6, 5, 6, 9), [3]int{0, 1, 1}, [3]int{1, 2, 1}, [3]int{2, 3, 1}, [3]int{3, 4, 1}, [3]int{0, 4, 9}), []int{4}, []int{0}, []int{2}),
			serving(joined(net(most, 9, 2, 3, 8, 1), [3]int{0, 1, 3}, [3]int{0, 2, 2}, [3]int{1, 3, 1}, [3]int{2, 3, 2}, [3]int{3, 4, 4}, [3]int{1, 2, 1}), []int{0}, []int{4}, []int{0, 3}),
			serving(net(most, 3, 1, 2), []int{1}))
	}
	return all
}

// nets are networks of both protocols and of all caps.
func nets() []api.Plan {
	all := few()
	for most := range 13 {
		all = append(all, town(most), greatest(most), row(most, 12, 1), row(most, 12, 2), joined(row(most, 12, 1), [3]int{0, 11, 15}))
	}
	return append(all, net(0, 1), net(12, 65535), joined(net(3, 1, 2), [3]int{0, 1, 1}))
}

// sets are sets of failed links: all, if there are few, else some; and with bits beyond the links.
func sets(p api.Plan, chance *rand.Rand) []int {
	all := 1<<len(p.Links) - 1
	l := []int{0, all, -1, 0xffff, 1 << 16, ^all, math.MinInt, math.MaxInt, -1 << 16, -1<<16 | 1, all&5 | 1<<40}
	if all < 64 {
		return append(l, counted(0, 1, all+1)...)
	}
	for link := range p.Links {
		l = append(l, 1<<link)
	}
	for range 12 {
		l = append(l, chance.Intn(all+1)&chance.Intn(all+1))
	}
	return l
}

// wrongRoutes are routes that may not be.
func wrongRoutes() []api.Route {
	all := []api.Route{
		{Kind: 3}, {Kind: -1}, {Kind: 1 << 32}, {Kind: 1<<32 + 1}, {Kind: 1<<32 + 2, Path: []int{1}}, {Kind: math.MaxInt}, {Kind: math.MinInt}, {Kind: 3, Cost: 1, Path: []int{1}},
		{Cost: 1}, {Cost: -1}, {Path: []int{1}}, {Path: []int{0}}, {Cost: 2, Path: []int{3}}, {Cost: math.MaxInt}, {Path: counted(1, 1, 12)},
		vector(16), vector(17), vector(-1), vector(-15), {Kind: 1, Path: []int{1}}, {Kind: 1, Cost: 3, Path: []int{1, 2}},
		{Kind: 2, Cost: 1}, {Kind: 2, Cost: 1, Path: []int{100}}, {Kind: 2, Cost: -1, Path: []int{100}}, {Kind: 2, Cost: 16}, {Kind: 2, Cost: math.MinInt},
		path(0), path(-1), path(65536), path(100, 0), path(0, 100), path(100, 100), path(100, 101, 100), path(100, 101, 101), path(65536+100, 100), path(7, 7), path(8, 8),
		path(counted(100, 1, 13)...), path(counted(100, 1, 14)...), path(append(counted(100, 1, 12), 100)...), path(slices.Repeat([]int{100}, 12)...), path(counted(1, 1, 65535)...), path(make([]int, 1<<18)...),
	}
	for _, n := range far {
		if n < 0 || n > 65535 {
			all = append(all, vector(n), path(n), path(100, n), path(n, 100))
		}
		all = append(all, api.Route{Cost: n}, api.Route{Kind: 2, Cost: n, Path: []int{100}})
	}
	return all
}

// wrongNets are networks that may not be, most of them for one reason alone.
func wrongNets() map[string]api.Plan {
	nets := map[string]api.Plan{"nothing": {}}
	for _, most := range []int{0, 3} {
		for name, wrong := range map[string]func(p *api.Plan){
			"no protocol":             func(p *api.Plan) { p.Proto = 0 },
			"a third protocol":        func(p *api.Plan) { p.Proto = 3 },
			"a protocol that wraps":   func(p *api.Plan) { p.Proto += 1 << 32 },
			"the other protocol":      func(p *api.Plan) { p.Proto = 3 - p.Proto },
			"a cap too great":         func(p *api.Plan) { p.Cap = 13 },
			"a cap below 0":           func(p *api.Plan) { p.Cap = -1 },
			"failures below 0":        func(p *api.Plan) { p.K = -1 },
			"too many failures":       func(p *api.Plan) { p.K = 5 },
			"more failures than so":   func(p *api.Plan) { p.Links, p.K = p.Links[:1], 2 },
			"no nodes":                func(p *api.Plan) { p.Nodes = nil },
			"nothing but a protocol":  func(p *api.Plan) { *p = api.Plan{Proto: p.Proto, Cap: p.Cap} },
			"fewer nodes than links":  func(p *api.Plan) { p.Nodes = p.Nodes[:2] },
			"too many nodes":          func(p *api.Plan) { p.Nodes = append(p.Nodes, net(0, counted(1, 1, 13)...).Nodes[5:]...) },
			"no name":                 func(p *api.Plan) { p.Nodes[4].Name = "" },
			"a name twice":            func(p *api.Plan) { p.Nodes[4].Name = "n0" },
			"no AS":                   func(p *api.Plan) { p.Nodes[4].AS = 0 },
			"an AS too great":         func(p *api.Plan) { p.Nodes[4].AS = 65536 },
			"a link to itself":        func(p *api.Plan) { p.Links[4].A = p.Links[4].B },
			"ends the wrong way":      func(p *api.Plan) { p.Links[4] = api.Link{A: 2, B: 0, Cost: 1} },
			"an end below 0":          func(p *api.Plan) { p.Links[4].A = -1 },
			"an end too great":        func(p *api.Plan) { p.Links[4].B = 5 },
			"two links, same nodes":   func(p *api.Plan) { p.Links[4] = api.Link{A: 0, B: 3, Cost: 1} },
			"a link twice":            func(p *api.Plan) { p.Links = append(p.Links, p.Links[0]) },
			"no cost":                 func(p *api.Plan) { p.Links[4].Cost = 0 },
			"a cost below 0":          func(p *api.Plan) { p.Links[4].Cost = -1 },
			"a cost too great":        func(p *api.Plan) { p.Links[4].Cost = 16 },
			"far too many links":      func(p *api.Plan) { p.Links = slices.Repeat(p.Links, 1000) },
			"a node as a destination": func(p *api.Plan) { p.Dests[3].Name = "n1" },
			"no origins":              func(p *api.Plan) { p.Dests[3].Origins = nil },
			"an origin too great":     func(p *api.Plan) { p.Dests[3].Origins = []int{3, 5} },
			"an origin below 0":       func(p *api.Plan) { p.Dests[3].Origins = []int{-1, 3} },
			"an origin twice":         func(p *api.Plan) { p.Dests[3].Origins = []int{3, 3} },
			"too many destinations":   func(p *api.Plan) { *p = serving(*p, []int{0}) },
			"a check of no kind":      func(p *api.Plan) { p.Checks[0].Kind = 0 },
			"a check of no node":      func(p *api.Plan) { p.Checks[0].Node = 5 },
			"too many checks":         func(p *api.Plan) { p.Checks = slices.Repeat(p.Checks, 17) },
		} {
			p := town(most)
			wrong(&p)
			nets[fmt.Sprint(name, ", cap ", most)] = p
		}
	}
	return nets
}

// plain is a list of routes without the difference between lists that are nil and ones without elements.
func plain(l []api.Route) []api.Route {
	all := []api.Route{}
	for _, r := range l {
		r.Path = append([]int{}, r.Path...)
		all = append(all, r)
	}
	return all
}

// same holds every field of all routes.
func same(a, b []api.Route) bool { return reflect.DeepEqual(plain(a), plain(b)) }

// slowRight tells whether a route may be, by looking for a reason that it may not.
func slowRight(r api.Route) bool {
	seen := map[int]int{}
	for _, number := range r.Path {
		if number != int(uint16(number)) || number == 0 || r.Kind != 2 {
			return false
		}
		seen[number]++
	}
	return r.Kind|3 == 3 && r.Kind != 3 && len(seen) == len(r.Path) && len(seen) < 13 && (r.Cost == 0 || r.Kind == 1 && r.Cost&15 == r.Cost)
}

// slowFits looks for a route, or a number in it, that may not be there; the kinds are the protocols' numbers.
func slowFits(p api.Plan, l []api.Route) bool {
	for node, r := range l {
		if node >= len(p.Nodes) || !slowRight(r) || r.Kind != 0 && r.Kind != p.Proto || len(r.Path) > p.Cap {
			return false
		}
		for _, number := range r.Path {
			if number == p.Nodes[node].AS {
				return false
			}
		}
	}
	return len(l) == len(p.Nodes)
}

// weight is a number by which routes are told apart: the lesser, the better.
func weight(r api.Route) string {
	switch r.Kind {
	case api.RouteVector:
		return fmt.Sprintf("1 %02d", r.Cost)
	case api.RoutePath:
		text := fmt.Sprintf("1 %02d", len(r.Path))
		for _, number := range r.Path {
			text += fmt.Sprintf(" %05d", number)
		}
		return text
	}
	return "2"
}

// fails tells whether a link is in a set, by its binary digits.
func fails(f, link int) bool {
	digits := fmt.Sprintf("%016b", uint16(f))
	return digits[15-link] == '1'
}

// slowStart is what nodes hold at first.
func slowStart(p api.Plan, dest int) []api.Route {
	l := make([]api.Route, len(p.Nodes))
	for _, at := range p.Dests[dest].Origins {
		l[at].Kind = p.Proto
	}
	return l
}

// slowTold is what becomes of a node's route at another one.
func slowTold(p api.Plan, link, from, to int, r api.Route) api.Route {
	if r.Kind == 0 {
		return none
	}
	if p.Proto == api.ProtoVector {
		r.Cost += p.Links[link].Cost
	} else {
		r.Path = slices.Insert(slices.Clone(r.Path), 0, p.Nodes[from].AS)
	}
	if r.Cost > 15 || len(r.Path) > p.Cap || slices.Contains(r.Path, p.Nodes[to].AS) {
		return none
	}
	return r
}

// slowStep goes from link to link, and has each of both ends tell the other one.
func slowStep(p api.Plan, f, dest int, l []api.Route) []api.Route {
	held := slowStart(p, dest)
	for link, e := range p.Links {
		for from, to := range map[int]int{e.A: e.B, e.B: e.A} {
			told := slowTold(p, link, from, to, l[from])
			if !fails(f, link) && weight(told) < weight(held[to]) {
				held[to] = told
			}
		}
	}
	return held
}

func slowRun(p api.Plan, f, dest, rounds int) []api.Route {
	l := slowStart(p, dest)
	for range rounds {
		l = slowStep(p, f, dest, l)
	}
	return l
}

// byWays is the best of each node's routes by ways of at most so many links, all of which are gone, from each origin.
func byWays(p api.Plan, f, dest, most int) []api.Route {
	held := make([]api.Route, len(p.Nodes))
	var visit func(way []int, links int, cost int)
	visit = func(way []int, links int, cost int) {
		at := way[len(way)-1]
		r := none
		if p.Proto == api.ProtoVector && cost <= 15 {
			r = vector(cost)
		}
		if p.Proto == api.ProtoPath && links <= p.Cap {
			r = path()
			for i := links - 1; i >= 0; i-- {
				r.Path = append(r.Path, p.Nodes[way[i]].AS)
			}
		}
		if weight(r) < weight(held[at]) {
			held[at] = r
		}
		for link, e := range p.Links {
			to := e.A + e.B - at
			if links < most && (e.A == at || e.B == at) && !fails(f, link) && !slices.Contains(way, to) {
				visit(append(slices.Clone(way), to), links+1, cost+e.Cost)
			}
		}
	}
	for _, origin := range p.Dests[dest].Origins {
		visit([]int{origin}, 0, 0)
	}
	return held
}

// unlikeAS tells whether no two nodes have the same AS.
func unlikeAS(p api.Plan) bool {
	seen := map[int]int{}
	for _, n := range p.Nodes {
		seen[n.AS]++
	}
	return len(seen) == len(p.Nodes)
}

// text is what nodes hold, to be read.
func text(l []api.Route) string {
	var words []string
	for _, r := range l {
		words = append(words, attr.Print(r))
	}
	return strings.Join(words, " ")
}

// checkStep holds a step on routes that fit against the slow reckoning.
func checkStep(t *testing.T, p api.Plan, f, dest int, l []api.Route) {
	t.Helper()
	got, want := round.Step(p, f, dest, l), slowStep(p, f, dest, l)
	if !same(got, want) {
		t.Fatalf("Step(%+v, %d, %d, %s) = %s, not %s", p, f, dest, text(l), text(got), text(want))
	}
	if !round.Fits(p, got) {
		t.Fatalf("Step(%+v, %d, %d, %s) does not fit: %s", p, f, dest, text(l), text(got))
	}
}

// checkRun holds some rounds against the slow reckoning.
func checkRun(t *testing.T, p api.Plan, f, dest, rounds int) {
	t.Helper()
	got, want := round.Run(p, f, dest, rounds), slowRun(p, f, dest, rounds)
	if !same(got, want) {
		t.Fatalf("Run(%+v, %d, %d, %d) = %s, not %s", p, f, dest, rounds, text(got), text(want))
	}
}

// checkNothing holds that of a network or a destination that may not be nothing is told.
func checkNothing(t *testing.T, p api.Plan, f, dest, rounds int, l []api.Route) {
	t.Helper()
	if got := round.Start(p, dest); len(got) > 0 {
		t.Fatalf("Start(%+v, %d) = %+v", p, dest, got)
	}
	if got := round.Step(p, f, dest, l); len(got) > 0 {
		t.Fatalf("Step(%+v, %d, %d, %+v) = %+v", p, f, dest, l, got)
	}
	if got := round.Run(p, f, dest, rounds); len(got) > 0 {
		t.Fatalf("Run(%+v, %d, %d, %d) = %+v", p, f, dest, rounds, got)
	}
}

func TestNetsMayBe(t *testing.T) {
	for _, p := range nets() {
		if !plan.Right(p) {
			t.Fatalf("%+v may not be", p)
		}
	}
}

// TestExample is the chapter's own, round by round.
func TestExample(t *testing.T) {
	p := serving(joined(net(0, 1, 2, 3), [3]int{0, 1, 3}, [3]int{1, 2, 1}), []int{0})
	held := round.Start(p, 0)
	for rounds, want := range [][]api.Route{vectors(0, -1, -1), vectors(0, 3, -1), vectors(0, 3, 4), vectors(0, 3, 4)} {
		if !same(held, want) {
			t.Errorf("behind %d steps: %s, not %s", rounds, text(held), text(want))
		}
		if got := round.Run(p, 0, 0, rounds); !same(got, want) {
			t.Errorf("Run of %d: %s, not %s", rounds, text(got), text(want))
		}
		held = round.Step(p, 0, 0, held)
	}
}

func TestN1Fits(t *testing.T) {
	v, two := town(0), town(2)
	for at, c := range []struct {
		p    api.Plan
		l    []api.Route
		want bool
	}{
		{v, vectors(0, 1, 2, 3, 15), true}, {v, vectors(-1, -1, -1, -1, -1), true}, {v, make([]api.Route, 5), true}, {v, vectors(15, -1, 0, -1, 7), true},
		{v, nil, false}, {v, []api.Route{}, false}, {v, vectors(0), false}, {v, vectors(0, 1, 2, 3), false}, {v, vectors(0, 1, 2, 3, 4, 5), false}, {v, vectors(-1, -1, -1, -1, -1, -1), false}, {v, make([]api.Route, 1<<16), false},
		{v, vectors(16, 1, 2, 3, 4), false}, {v, vectors(0, 1, 16, 3, 4), false}, {v, vectors(0, 1, 2, 3, 16), false}, {v, append(vectors(0, 1, 2, 3), vector(-1)), false},
		{v, append(vectors(0, 1, 2, 3), path()), false}, {v, append([]api.Route{path(100)}, vectors(0, 1, 2, 3)...), false}, {v, append(vectors(0, 1, 2, 3), api.Route{Cost: 1}), false}, {v, append(vectors(0, 1, 2, 3), api.Route{Kind: 3}), false},
		{two, []api.Route{path(), path(), path(), path(), path()}, true}, {two, make([]api.Route, 5), true}, {two, []api.Route{path(8, 9), path(7, 9), path(7, 8), path(8, 9), path(7, 8)}, true}, {two, []api.Route{none, path(7), none, path(100, 8), none}, true},
		{two, []api.Route{path(), path(), path(), path()}, false}, {two, []api.Route{path(), path(), path(), path(), path(), path()}, false}, {two, []api.Route{path(8, 9, 10), none, none, none, none}, false}, {two, []api.Route{none, none, none, none, path(8, 9, 10)}, false},
		{two, []api.Route{path(7), none, none, none, none}, false}, {two, []api.Route{none, path(7, 8), none, none, none}, false}, {two, []api.Route{none, none, path(9, 8), none, none}, false}, {two, []api.Route{none, none, none, path(8, 7), none}, false}, {two, []api.Route{none, none, none, none, path(65535)}, false},
		{two, []api.Route{none, none, path(8, 8), none, none}, false}, {two, []api.Route{none, none, path(0), none, none}, false}, {two, []api.Route{none, none, vector(0), none, none}, false}, {two, vectors(0, 0, 0, 0, 0), false},
		{row(12, 1, 1), []api.Route{path(counted(1, 1, 12)...)}, true}, {row(12, 1, 1), []api.Route{path(counted(1, 1, 13)...)}, false}, {row(12, 1, 1), nil, false}, {row(12, 1, 1), []api.Route{path(counted(90, 1, 12)...)}, false},
	} {
		if got := round.Fits(c.p, c.l); got != c.want || got != slowFits(c.p, c.l) {
			t.Errorf("%d: cap %d: Fits(%s) = %v", at, c.p.Cap, text(c.l), got)
		}
	}
}

// TestN1FitsEachPlace has a route that does not fit at each place.
func TestN1FitsEachPlace(t *testing.T) {
	for _, p := range []api.Plan{town(0), town(2), town(12), greatest(0), greatest(12), row(1, 1, 1)} {
		fitting := slowRun(p, 0, 0, 3)
		if !round.Fits(p, fitting) {
			t.Fatalf("%s does not fit", text(fitting))
		}
		for node := range p.Nodes {
			for _, r := range append(wrongRoutes(), api.Route{Kind: 3 - p.Proto}, path(p.Nodes[node].AS)) {
				l := slices.Clone(fitting)
				l[node] = r
				if round.Fits(p, l) {
					t.Errorf("cap %d: a route of the kind %d, the cost %d and %d numbers fits %d", p.Cap, r.Kind, r.Cost, len(r.Path), node)
				}
				if got := round.Step(p, 0, 0, l); len(got) > 0 {
					t.Errorf("cap %d: with a route of the kind %d and the cost %d at %d Step tells %+v", p.Cap, r.Kind, r.Cost, node, got)
				}
			}
		}
		for count := range 30 {
			l := make([]api.Route, count)
			if got, want := round.Fits(p, l), count == len(p.Nodes); got != want {
				t.Errorf("%d of %d routes fit: %v", count, len(p.Nodes), got)
			}
			if got, want := len(round.Step(p, 0, 0, l)), len(p.Nodes); count == want && got != want || count != want && got > 0 {
				t.Errorf("of %d routes of %d nodes Step tells %d", count, want, got)
			}
		}
	}
}

func TestN1Same(t *testing.T) {
	l := append(vectors(0, 3, -1, 15), path(), path(7), path(7, 9))
	for _, c := range []struct {
		a, b []api.Route
		want bool
	}{
		{nil, nil, true}, {nil, []api.Route{}, true}, {[]api.Route{}, nil, true}, {l, l, true}, {l, slices.Clone(l), true}, {plain(l), l, true}, {vectors(3), vectors(3), true},
		{nil, vectors(-1), false}, {vectors(-1), nil, false}, {l, nil, false}, {nil, l, false}, {l, l[:6], false}, {l[:6], l, false}, {l[1:], l[:6], false}, {l, append(slices.Clone(l), none), false}, {append(slices.Clone(l), none), l, false},
		{vectors(3, 4), vectors(4, 3), false}, {vectors(3), vectors(4), false}, {[]api.Route{path(1, 2)}, []api.Route{path(2, 1)}, false}, {[]api.Route{path(1, 2)}, []api.Route{path(12)}, false}, {[]api.Route{path(1)}, []api.Route{path(1, 1)}, false}, {vectors(0), vectors(-1), false}, {vectors(0), []api.Route{path()}, false}, {vectors(-1), []api.Route{path()}, false},
		{vectors(3, 3, 3), vectors(3, 3), false}, {vectors(3, 3), vectors(3, 3, 3), false},
	} {
		if got := round.Same(c.a, c.b); got != c.want {
			t.Errorf("Same(%s, %s) = %v", text(c.a), text(c.b), got)
		}
	}
}

// TestN1SameEachPlace has one other route at each place, and one that is another in one field alone.
func TestN1SameEachPlace(t *testing.T) {
	for _, l := range [][]api.Route{slowRun(greatest(0), 0, 3, 9), slowRun(greatest(12), 0, 3, 9), vectors(4), vectors(1, 2, 3), slices.Repeat([]api.Route{path(1, 2, 3)}, 5)} {
		for at := range l {
			others := []api.Route{vector(16), path(5), path(1, 2), path(1, 2, 4), path(2, 2, 3)}
			kind, cost, numbers := l[at], l[at], l[at]
			kind.Kind++
			cost.Cost++
			numbers.Path = append(slices.Clone(numbers.Path), 77)
			for _, r := range append(others, kind, cost, numbers) {
				other := slices.Clone(l)
				other[at] = r
				if round.Same(l, other) || round.Same(other, l) || !round.Same(other, plain(other)) {
					t.Errorf("%s: with %+v at %d: same %v, %v", text(l), r, at, round.Same(l, other), round.Same(other, l))
				}
			}
		}
	}
}

func TestN2Start(t *testing.T) {
	for _, c := range []struct {
		p    api.Plan
		dest int
		want []api.Route
	}{
		{town(0), 0, vectors(-1, 0, -1, -1, -1)}, {town(0), 1, vectors(0, -1, 0, -1, 0)}, {town(0), 2, vectors(0, 0, 0, 0, 0)}, {town(0), 3, vectors(-1, -1, -1, 0, -1)},
		{town(3), 0, []api.Route{none, path(), none, none, none}}, {town(3), 1, []api.Route{path(), none, path(), none, path()}}, {town(3), 2, slices.Repeat([]api.Route{path()}, 5)}, {town(1), 3, []api.Route{none, none, none, path(), none}},
		{row(0, 1, 1), 0, vectors(0)}, {row(12, 1, 1), 0, []api.Route{path()}}, {greatest(0), 3, vectors(-1, 0, -1, -1, 0, -1, -1, -1, -1, -1, 0, -1)}, {greatest(0), 1, vectors(-1, -1, -1, -1, -1, -1, -1, -1, -1, -1, -1, 0)},
	} {
		if got := round.Start(c.p, c.dest); !same(got, c.want) {
			t.Errorf("cap %d: Start(%d) = %s, not %s", c.p.Cap, c.dest, text(got), text(c.want))
		}
	}
	for _, p := range nets() {
		for dest := range p.Dests {
			if got, want := round.Start(p, dest), slowStart(p, dest); !same(got, want) || !round.Fits(p, got) {
				t.Errorf("%+v: Start(%d) = %s, not %s", p, dest, text(got), text(want))
			}
		}
	}
}

func TestN3StepByVectors(t *testing.T) {
	p := square(0)
	for _, c := range []struct {
		f, dest int
		l, want []api.Route
	}{
		{0, 0, vectors(0, -1, -1, -1), vectors(0, 1, -1, 9)}, {0, 0, vectors(0, 1, -1, 9), vectors(0, 1, 2, 9)}, {0, 0, vectors(0, 1, 2, 9), vectors(0, 1, 2, 3)}, {0, 0, vectors(0, 1, 2, 3), vectors(0, 1, 2, 3)},
		{1, 0, vectors(0, -1, -1, -1), vectors(0, -1, -1, 9)}, {8, 0, vectors(0, -1, -1, -1), vectors(0, 1, -1, -1)}, {9, 0, vectors(0, -1, -1, -1), vectors(0, -1, -1, -1)}, {15, 0, vectors(0, 1, 2, 3), vectors(0, -1, -1, -1)}, {-1, 0, vectors(0, 1, 2, 3), vectors(0, -1, -1, -1)},
		{16, 0, vectors(0, 1, 2, 9), vectors(0, 1, 2, 3)}, {-16, 0, vectors(0, 1, 2, 9), vectors(0, 1, 2, 3)}, {1<<16 | 4, 0, vectors(0, 1, 2, 9), vectors(0, 1, 2, 9)}, {4 - 1<<16, 0, vectors(0, 1, 2, 9), vectors(0, 1, 2, 9)},
		// What is held is lost, if no neighbour tells it, and a node's own route never is.
		{0, 0, vectors(-1, -1, -1, -1), vectors(0, -1, -1, -1)}, {0, 0, vectors(7, 15, 3, -1), vectors(0, 4, -1, 4)}, {0, 0, vectors(-1, 5, -1, -1), vectors(0, -1, 6, -1)}, {0, 0, vectors(5, 5, 5, 5), vectors(0, 6, 6, 6)}, {0, 0, vectors(0, 0, 0, 0), vectors(0, 1, 1, 1)},
		{0, 0, vectors(15, 15, 15, 15), vectors(0, -1, -1, -1)}, {0, 0, vectors(6, 15, 15, 15), vectors(0, 7, -1, 15)}, {0, 0, vectors(7, 14, 15, 15), vectors(0, 8, 15, -1)}, {14, 0, vectors(14, -1, -1, -1), vectors(0, 15, -1, -1)}, {14, 0, vectors(15, -1, -1, -1), vectors(0, -1, -1, -1)},
		{0, 1, vectors(-1, 0, -1, 0), vectors(1, 0, 1, 0)}, {0, 1, vectors(0, 9, 0, 9), vectors(9+1, 0, 10, 0)}, {3, 1, vectors(-1, 0, -1, 0), vectors(9, 0, 1, 0)},
	} {
		if got := round.Step(p, c.f, c.dest, c.l); !same(got, c.want) {
			t.Errorf("Step(%d, %d, %s) = %s, not %s", c.f, c.dest, text(c.l), text(got), text(c.want))
		}
	}
}

func TestN3StepByPaths(t *testing.T) {
	three, two := square(3), square(2)
	for _, c := range []struct {
		p       api.Plan
		f, dest int
		l, want []api.Route
	}{
		{three, 0, 0, []api.Route{path(), none, none, none}, []api.Route{path(), path(1), none, path(1)}}, {three, 0, 0, []api.Route{path(), path(1), none, path(1)}, []api.Route{path(), path(1), path(2, 1), path(1)}},
		// Of as long ones the list that is ahead, whatever its place, or the costs; and then the other one, as a link has failed.
		{three, 2, 0, []api.Route{path(), path(1), none, path(1)}, []api.Route{path(), path(1), path(4, 1), path(1)}}, {three, 1, 0, []api.Route{path(), none, path(4, 1), path(1)}, []api.Route{path(), path(3, 4, 1), path(4, 1), path(1)}},
		// Paths that would come back to their own AS, and such as have no room.
		{three, 1, 0, []api.Route{none, path(3, 4, 1), path(4, 1), none}, []api.Route{path(), path(3, 4, 1), none, none}}, {three, 0, 0, []api.Route{path(4, 3), path(1, 4), path(2, 1), path(3, 2)}, []api.Route{path(), path(1, 4, 3), path(2, 1, 4), path(3, 2, 1)}}, {two, 1, 0, []api.Route{path(), none, path(4, 1), path(1)}, []api.Route{path(), none, path(4, 1), path(1)}},
		{three, 0, 0, []api.Route{none, path(50, 51, 52), none, none}, []api.Route{path(), none, none, none}}, {three, 0, 0, []api.Route{none, path(50, 51), none, none}, []api.Route{path(), none, path(2, 50, 51), none}}, {two, 0, 0, []api.Route{none, path(50, 51), none, none}, []api.Route{path(), none, none, none}},
		{three, 15, 0, []api.Route{path(), path(1), path(2, 1), path(1)}, []api.Route{path(), none, none, none}}, {three, -1, 1, []api.Route{path(), path(1), path(2, 1), path(1)}, []api.Route{none, path(), none, path()}}, {three, 0, 1, []api.Route{none, path(), none, path()}, []api.Route{path(2), path(), path(2), path()}},
		{three, 16, 0, []api.Route{path(), none, none, none}, []api.Route{path(), path(1), none, path(1)}}, {three, 1 << 20, 1, []api.Route{none, none, none, none}, []api.Route{none, path(), none, path()}},
	} {
		if got := round.Step(c.p, c.f, c.dest, c.l); !same(got, c.want) {
			t.Errorf("cap %d: Step(%d, %d, %s) = %s, not %s", c.p.Cap, c.f, c.dest, text(c.l), text(got), text(c.want))
		}
	}
}

// TestN3SameAS has nodes of the same AS: none hears of a way through the other.
func TestN3SameAS(t *testing.T) {
	p := serving(joined(net(5, 5, 6, 5, 6, 9), [3]int{0, 1, 1}, [3]int{1, 2, 1}, [3]int{2, 3, 1}, [3]int{3, 4, 1}, [3]int{0, 4, 9}), []int{4}, []int{0})
	for _, c := range []struct {
		f, dest int
		want    []api.Route
	}{
		{0, 0, []api.Route{path(9), path(5, 9), path(6, 9), path(9), path()}},
		{16, 0, []api.Route{none, none, path(6, 9), path(9), path()}},
		{8, 0, []api.Route{path(9), path(5, 9), none, none, path()}},
		{0, 1, []api.Route{path(), path(5), none, path(9, 5), path(5)}},
		{16, 1, []api.Route{path(), path(5), none, none, none}},
	} {
		if got := round.Run(p, c.f, c.dest, 20); !same(got, c.want) {
			t.Errorf("Run(%d, %d) = %s, not %s", c.f, c.dest, text(got), text(c.want))
		}
	}
}

// TestN3FromFirst steps from what nodes hold at first, with all sets of failed links, or some.
func TestN3FromFirst(t *testing.T) {
	chance := rand.New(rand.NewSource(9))
	for _, p := range nets() {
		for dest := range p.Dests {
			for _, f := range sets(p, chance) {
				checkStep(t, p, f, dest, round.Start(p, dest))
			}
		}
	}
}

// anyFor is a route that fits a node, of any length, with other nodes' AS among its numbers.
func anyFor(p api.Plan, node int, chance *rand.Rand) api.Route {
	if chance.Intn(5) == 0 {
		return none
	}
	if p.Proto == api.ProtoVector {
		return vector(chance.Intn(16))
	}
	numbers := counted(1, 1, 14)
	for _, n := range p.Nodes {
		numbers = append(numbers, n.AS)
	}
	chance.Shuffle(len(numbers), func(i, j int) { numbers[i], numbers[j] = numbers[j], numbers[i] })
	var chosen []int
	for _, number := range numbers[:chance.Intn(p.Cap+1)] {
		if number != p.Nodes[node].AS && !slices.Contains(chosen, number) {
			chosen = append(chosen, number)
		}
	}
	return path(chosen...)
}

// anyFitting are routes that fit, one of each node.
func anyFitting(p api.Plan, chance *rand.Rand) []api.Route {
	var l []api.Route
	for node := range p.Nodes {
		l = append(l, anyFor(p, node, chance))
	}
	return l
}

// TestN3AnyThatFit steps from any routes that fit.
func TestN3AnyThatFit(t *testing.T) {
	chance := rand.New(rand.NewSource(10))
	for _, p := range nets() {
		for dest := range p.Dests {
			for _, f := range sets(p, chance) {
				l := anyFitting(p, chance)
				if !round.Fits(p, l) || !slowFits(p, l) {
					t.Fatalf("%s does not fit %+v", text(l), p)
				}
				checkStep(t, p, f, dest, l)
			}
		}
	}
}

// TestN3AsLongAsThereMayBe has routes of the greatest cost and of the cap, and such as are one less.
func TestN3AsLongAsThereMayBe(t *testing.T) {
	for have := range 16 {
		for cost := 1; cost <= 15; cost++ {
			want := vectors(0, have+cost)
			if have+cost > 15 {
				want = vectors(0, -1)
			}
			if got := round.Step(row(0, 2, cost), 0, 0, vectors(have, 15)); !same(got, want) {
				t.Errorf("%d over a link of %d: %s, not %s", have, cost, text(got), text(want))
			}
		}
	}
	for most := 1; most <= 12; most++ {
		for count := range most + 1 {
			want := []api.Route{path(), none}
			if count < most {
				want[1] = path(append([]int{101}, counted(20, 1, count)...)...)
			}
			if got := round.Step(row(most, 2, 15), 0, 0, []api.Route{path(counted(20, 1, count)...), path(counted(40, 1, most)...)}); !same(got, want) {
				t.Errorf("cap %d: of %d numbers: %s, not %s", most, count, text(got), text(want))
			}
		}
	}
}

func TestN4Run(t *testing.T) {
	for _, c := range []struct {
		p               api.Plan
		f, dest, rounds int
		want            []api.Route
	}{
		{square(0), 0, 0, 0, vectors(0, -1, -1, -1)}, {square(0), 0, 0, 1, vectors(0, 1, -1, 9)}, {square(0), 0, 0, 2, vectors(0, 1, 2, 9)}, {square(0), 0, 0, 3, vectors(0, 1, 2, 3)}, {square(0), 0, 0, 4, vectors(0, 1, 2, 3)}, {square(0), 0, 0, math.MaxInt, vectors(0, 1, 2, 3)},
		{square(0), 0, 0, -1, nil}, {square(0), 0, 0, math.MinInt, nil}, {square(0), 0, 0, -1 << 32, nil}, {square(0), 0, 0, 1 - 1<<32, nil}, {square(0), 0, 0, 1 << 32, vectors(0, 1, 2, 3)},
		{square(0), 1, 0, 2, vectors(0, -1, 10, 9)}, {square(0), 1, 0, 3, vectors(0, 11, 10, 9)}, {square(0), 9, 0, 30, vectors(0, -1, -1, -1)}, {square(0), 15, 1, 30, vectors(-1, 0, -1, 0)}, {square(0), 0, 1, 1, vectors(1, 0, 1, 0)},
		{square(3), 0, 0, 0, []api.Route{path(), none, none, none}}, {square(3), 0, 0, 2, []api.Route{path(), path(1), path(2, 1), path(1)}}, {square(3), 0, 0, 99, []api.Route{path(), path(1), path(2, 1), path(1)}}, {square(3), 1, 0, 2, []api.Route{path(), none, path(4, 1), path(1)}}, {square(3), 1, 0, 3, []api.Route{path(), path(3, 4, 1), path(4, 1), path(1)}}, {square(2), 1, 0, 9, []api.Route{path(), none, path(4, 1), path(1)}}, {square(3), 0, 0, -1, nil},
		{row(0, 12, 1), 0, 0, 11, vectors(counted(0, 1, 12)...)}, {row(0, 12, 1), 0, 0, 10, vectors(append(counted(0, 1, 11), -1)...)}, {row(0, 12, 2), 0, 0, 50, vectors(0, 2, 4, 6, 8, 10, 12, 14, -1, -1, -1, -1)}, {row(0, 12, 15), 0, 0, 50, vectors(0, 15, -1, -1, -1, -1, -1, -1, -1, -1, -1, -1)},
		{row(0, 1, 1), 0, 0, 0, vectors(0)}, {row(0, 1, 1), -1, 0, 5, vectors(0)}, {row(1, 3, 1), 0, 0, 5, []api.Route{path(), path(101), none}}, {serving(net(0, 3, 1, 2), []int{1}), 0, 0, 7, vectors(-1, 0, -1)},
		// A node without links has its own route, or none.
		{town(0), 0, 0, 30, vectors(3, 0, 6, 5, -1)}, {town(0), 0, 1, 30, vectors(0, 3, 0, 1, 0)}, {town(3), 0, 1, 30, []api.Route{path(), path(7), path(), path(9), path()}}, {town(3), 0, 0, 30, []api.Route{path(8), path(), path(8), path(9, 8), none}},
	} {
		if got := round.Run(c.p, c.f, c.dest, c.rounds); !same(got, c.want) {
			t.Errorf("cap %d: Run(%d, %d, %d) = %s, not %s", c.p.Cap, c.f, c.dest, c.rounds, text(got), text(c.want))
		}
	}
}

// TestN4RunIsStartAndSteps holds rounds behind rounds against steps, and against the slow reckoning.
func TestN4RunIsStartAndSteps(t *testing.T) {
	chance := rand.New(rand.NewSource(11))
	for _, p := range few() {
		for dest := range p.Dests {
			for _, f := range sets(p, chance) {
				checkRounds(t, p, f, dest)
			}
		}
	}
	for most := range 13 {
		for _, p := range []api.Plan{greatest(most), row(most, 12, 1), joined(row(most, 12, 1), [3]int{0, 11, 15})} {
			for dest := range p.Dests {
				for range 4 {
					checkRounds(t, p, chance.Intn(1<<16)&chance.Intn(1<<16)&chance.Intn(1<<16), dest)
				}
				checkRounds(t, p, 0, dest)
			}
		}
	}
}

func checkRounds(t *testing.T, p api.Plan, f, dest int) {
	t.Helper()
	held, slow := round.Start(p, dest), slowStart(p, dest)
	for rounds := range len(p.Nodes) + 3 {
		if got := round.Run(p, f, dest, rounds); !same(got, held) || !same(got, slow) {
			t.Fatalf("Run(%+v, %d, %d, %d) = %s, not %s, or %s", p, f, dest, rounds, text(got), text(held), text(slow))
		}
		held, slow = round.Step(p, f, dest, held), slowStep(p, f, dest, slow)
	}
	if got := round.Run(p, f, dest, math.MaxInt); !same(got, slow) {
		t.Fatalf("Run(%+v, %d, %d) of all rounds = %s, not %s", p, f, dest, text(got), text(slow))
	}
}

func TestN4RoundsThatAreNone(t *testing.T) {
	for _, p := range nets() {
		for _, rounds := range far {
			for dest := range p.Dests {
				got := round.Run(p, 0, dest, rounds)
				if rounds < 0 && len(got) > 0 || rounds > 0 && len(got) != len(p.Nodes) {
					t.Errorf("Run of %d rounds = %s", rounds, text(got))
				}
			}
		}
	}
}

// netByChance is a network of few AS and links, so that rounds have much to choose from.
func netByChance(chance *rand.Rand) api.Plan {
	var as []int
	unlike := chance.Perm(14)
	for i := range 2 + chance.Intn(6) {
		if as = append(as, 1+unlike[i]); chance.Intn(5) == 0 {
			as[i] = 1 + chance.Intn(14)
		}
	}
	p := net(chance.Intn(2)*chance.Intn(13), as...)
	most := 1 + chance.Intn(15)
	for b := range as {
		for a := range b {
			if chance.Intn(3) > 0 && len(p.Links) < 16 {
				p = joined(p, [3]int{a, b, 1 + chance.Intn(most)})
			}
		}
	}
	chance.Shuffle(len(p.Links), func(i, j int) { p.Links[i], p.Links[j] = p.Links[j], p.Links[i] })
	for range 1 + chance.Intn(3) {
		origins := chance.Perm(len(as))[:1+chance.Intn(2)]
		slices.Sort(origins)
		p = serving(p, origins)
	}
	return p
}

func TestN3AndN4ByChance(t *testing.T) {
	chance := rand.New(rand.NewSource(12))
	for range 1500 {
		p := netByChance(chance)
		if !plan.Right(p) {
			t.Fatalf("%+v may not be", p)
		}
		dest, f := chance.Intn(len(p.Dests)), chance.Intn(1<<16)&chance.Intn(1<<16)&chance.Intn(1<<16)
		checkStep(t, p, f, dest, anyFitting(p, chance))
		for _, rounds := range []int{0, 1, 2, 3, chance.Intn(12), 20} {
			checkRun(t, p, f, dest, rounds)
		}
	}
}

func TestN5BestByWays(t *testing.T) {
	chance := rand.New(rand.NewSource(13))
	all := append(few(), greatest(0), greatest(5), greatest(12), row(0, 12, 1), row(11, 12, 1), row(10, 12, 1))
	for range 300 {
		all = append(all, netByChance(chance))
	}
	for _, p := range all {
		if p.Proto == api.ProtoPath && !unlikeAS(p) {
			continue
		}
		dest, f := chance.Intn(len(p.Dests)), chance.Intn(1<<16)&chance.Intn(1<<16)&chance.Intn(1<<16)
		for rounds := range 13 {
			if got, want := round.Run(p, f, dest, rounds), byWays(p, f, dest, rounds); !same(got, want) {
				t.Fatalf("Run(%+v, %d, %d, %d) = %s, not %s", p, f, dest, rounds, text(got), text(want))
			}
		}
	}
}

// TestN5NoWorse holds on answers alone that what nodes hold gets no worse from round to round, and changes no more behind a round that changed nothing.
func TestN5NoWorse(t *testing.T) {
	chance := rand.New(rand.NewSource(14))
	all := nets()
	for range 300 {
		all = append(all, netByChance(chance))
	}
	for _, p := range all {
		for dest := range p.Dests {
			f := chance.Intn(1<<16) & chance.Intn(1<<16) & chance.Intn(1<<16)
			had, still := round.Run(p, f, dest, 0), false
			for rounds := 1; rounds < 15; rounds++ {
				held := round.Run(p, f, dest, rounds)
				for node := range held {
					if attr.Better(had[node], held[node]) {
						t.Fatalf("%+v, failed %d: behind %d rounds %d has %s, behind one less %s", p, f, rounds, node, text(held), text(had))
					}
				}
				if still && !round.Same(had, held) {
					t.Fatalf("%+v, failed %d: behind %d rounds there is something new: %s, %s", p, f, rounds, text(had), text(held))
				}
				had, still = held, round.Same(had, held)
			}
			if !still {
				t.Fatalf("%+v, failed %d: there is no end", p, f)
			}
		}
	}
}

// TestN5MoreFailures holds on answers alone that with more links failed nothing is better, by vectors.
func TestN5MoreFailures(t *testing.T) {
	chance := rand.New(rand.NewSource(15))
	for _, p := range nets() {
		if p.Proto == api.ProtoPath {
			continue
		}
		for dest := range p.Dests {
			for range 10 {
				f := chance.Intn(1<<16) & chance.Intn(1<<16)
				fewer, more := round.Run(p, f&chance.Intn(1<<16), dest, 9), round.Run(p, f, dest, 9)
				for node := range fewer {
					if attr.Better(more[node], fewer[node]) {
						t.Fatalf("%+v, failed %d: %s, with fewer %s", p, f, text(more), text(fewer))
					}
				}
			}
		}
	}
}

func TestNoSuchDestination(t *testing.T) {
	for _, p := range nets() {
		for _, dest := range append(far, len(p.Dests), len(p.Dests)+1) {
			for _, rounds := range []int{-1, 0, 1, 9, math.MaxInt} {
				checkNothing(t, p, 0, dest, rounds, make([]api.Route, len(p.Nodes)))
				checkNothing(t, p, -1, dest, rounds, nil)
			}
		}
	}
}

func TestWrongNetworksTellNothing(t *testing.T) {
	for name, p := range wrongNets() {
		t.Run(name, func(t *testing.T) {
			if plan.Right(p) {
				t.Fatal("it may be")
			}
			lists := [][]api.Route{nil, {}, make([]api.Route, len(p.Nodes)), make([]api.Route, 5), vectors(0, 1, 2, 3, 4), {path(), none, path(10), path(10, 11), none}}
			for _, l := range lists {
				if round.Fits(p, l) {
					t.Fatalf("%s fits", text(l))
				}
				for _, dest := range append(far, 0, 1, 2, 3) {
					for _, rounds := range []int{-1, 0, 1, math.MaxInt} {
						checkNothing(t, p, 0, dest, rounds, l)
						checkNothing(t, p, dest, 0, rounds, l)
					}
				}
			}
		})
	}
}

// callAll calls all that there is.
func callAll(p api.Plan, f, dest, rounds int, l []api.Route) [][]api.Route {
	round.Fits(p, l)
	round.Same(l, round.Start(p, dest))
	return [][]api.Route{round.Start(p, dest), round.Step(p, f, dest, l), round.Run(p, f, dest, rounds)}
}

func TestR1WrongOnesEnd(t *testing.T) {
	all := append(nets(), api.Plan{})
	for _, p := range wrongNets() {
		all = append(all, p)
	}
	wrong := wrongRoutes()
	for _, p := range all {
		for i, r := range wrong {
			n, l := far[i%len(far)], make([]api.Route, len(p.Nodes))
			if len(l) > 0 {
				l[i%len(l)] = r
			}
			callAll(p, n, 0, n, l)
			callAll(p, n, n, 0, []api.Route{r})
			callAll(p, 0, n, n, append(l, r))
			round.Same(l, []api.Route{r, r})
			round.Same([]api.Route{r}, []api.Route{r})
		}
		callAll(p, 0, 0, math.MaxInt, nil)
	}
}

// withSpare puts marks behind the length of each list of a network.
func withSpare(p api.Plan) api.Plan {
	p.Nodes = append(slices.Clone(p.Nodes), api.Node{Name: "spare", AS: -7})[:len(p.Nodes)]
	p.Links = append(slices.Clone(p.Links), api.Link{A: 0, B: 1, Cost: -7})[:len(p.Links)]
	p.Dests = append(slices.Clone(p.Dests), api.Dest{Name: "spare"})[:len(p.Dests)]
	for i, d := range p.Dests {
		p.Dests[i].Origins = append(slices.Clone(d.Origins), -7)[:len(d.Origins)]
	}
	p.Checks = append(slices.Clone(p.Checks), api.Check{Kind: -7})[:len(p.Checks)]
	return p
}

// whole is a copy of a network with all that stands behind its lists' lengths.
func whole(p api.Plan) api.Plan {
	p.Nodes, p.Links, p.Checks = slices.Clone(p.Nodes[:cap(p.Nodes)]), slices.Clone(p.Links[:cap(p.Links)]), slices.Clone(p.Checks[:cap(p.Checks)])
	p.Dests = slices.Clone(p.Dests[:cap(p.Dests)])
	for i, d := range p.Dests {
		p.Dests[i].Origins = slices.Clone(d.Origins[:cap(d.Origins)])
	}
	return p
}

// spareRoutes are routes with marks behind the list's length, and behind those of their paths.
func spareRoutes(l []api.Route) []api.Route {
	var all []api.Route
	for _, r := range append(slices.Clone(l), path(-3), vector(-4)) {
		r.Path = append(append(make([]int, 0, len(r.Path)+3), r.Path...), -7, -8, -9)[:len(r.Path)]
		all = append(all, r)
	}
	return all[:len(l)]
}

// wholeRoutes is a copy of routes with all that stands behind lengths.
func wholeRoutes(l []api.Route) []api.Route {
	all := slices.Clone(l[:cap(l)])
	for i, r := range all {
		all[i].Path = slices.Clone(r.Path[:cap(r.Path)])
	}
	return all
}

func TestR3LeavesWhatIsHandedIn(t *testing.T) {
	chance, wrong := rand.New(rand.NewSource(16)), wrongRoutes()
	all := nets()
	for _, p := range wrongNets() {
		all = append(all, p)
	}
	for _, p := range all {
		p = withSpare(p)
		before := whole(p)
		lists := [][]api.Route{nil, make([]api.Route, len(p.Nodes)), wrong[:20]}
		if plan.Right(p) {
			lists = append(lists, anyFitting(p, chance), anyFitting(p, chance))
		}
		for _, l := range lists {
			l = spareRoutes(l)
			was := wholeRoutes(l)
			for dest := -1; dest <= 4; dest++ {
				for _, answer := range callAll(p, chance.Intn(1<<17), dest, 3, l) {
					fill(answer)
				}
			}
			if !reflect.DeepEqual(wholeRoutes(l), was) {
				t.Fatalf("%+v was %+v", wholeRoutes(l), was)
			}
		}
		if !reflect.DeepEqual(whole(p), before) {
			t.Fatalf("%+v was %+v", whole(p), before)
		}
	}
}

// fill writes into all room that an answer has, its paths' rooms first, and grows it.
func fill(l []api.Route) {
	room := l[:cap(l)]
	for i := range room {
		fillPath(room[i].Path)
	}
	for i := range room {
		room[i] = api.Route{Kind: -99, Cost: -99, Path: []int{-99}}
	}
	_ = append(l, api.Route{Kind: -98})
	_ = append(l[:0], api.Route{Kind: -97})
}

func fillPath(numbers []int) {
	room := numbers[:cap(numbers)]
	for i := range room {
		room[i] = -99
	}
	_ = append(numbers, -98)
	_ = append(numbers[:0], -97, -96)
}

func TestR3AnswersAreNewMemory(t *testing.T) {
	chance := rand.New(rand.NewSource(17))
	for _, p := range []api.Plan{town(0), town(12), square(3), greatest(0), greatest(12), row(12, 12, 1)} {
		for dest := range p.Dests {
			lists := [][]api.Route{round.Start(p, dest), round.Run(p, 0, dest, 2), round.Run(p, 0, dest, 20), anyFitting(p, chance)}
			answers := func() [][]api.Route {
				l := [][]api.Route{round.Start(p, dest), round.Run(p, 0, dest, 0), round.Run(p, 0, dest, 1), round.Run(p, 0, dest, 3), round.Run(p, 1, dest, 30), round.Run(p, 0, dest, 30)}
				for _, have := range lists {
					l = append(l, round.Step(p, 0, dest, have))
				}
				return l
			}
			checkNewMemory(t, answers)
		}
	}
}

// checkNewMemory writes into all answers, one by one, and holds those that come behind, another call's, and later ones.
func checkNewMemory(t *testing.T, answers func() [][]api.Route) {
	t.Helper()
	want, first, second := plainAll(answers()), answers(), answers()
	for i := range first {
		fill(first[i])
		if !reflect.DeepEqual(plainAll(first[i+1:]), want[i+1:]) || !reflect.DeepEqual(plainAll(second), want) {
			t.Fatalf("what was written into the answer %d changed others", i)
		}
	}
	if !reflect.DeepEqual(plainAll(answers()), want) {
		t.Fatal("what was written into answers changed later ones")
	}
	for i, l := range second {
		checkApart(t, l, want[i])
	}
}

// checkApart writes into the paths of one answer, one by one, and holds those that come behind.
func checkApart(t *testing.T, l, want []api.Route) {
	t.Helper()
	for at := range l {
		if !same(l[at:], want[at:]) {
			t.Fatalf("what was written into the route %d changed %s to %s", at-1, text(want), text(l))
		}
		fillPath(l[at].Path)
	}
}

func plainAll(lists [][]api.Route) [][]api.Route {
	all := [][]api.Route{}
	for _, l := range lists {
		all = append(all, plain(l))
	}
	return all
}

func TestR3KeepsNothing(t *testing.T) {
	p, l := square(3), []api.Route{path(), path(1), none, path(1)}
	step, run, start := round.Step(p, 2, 0, l), round.Run(p, 0, 0, 9), round.Start(p, 1)
	l[3].Path[0], l[0], p.Nodes[0].AS, p.Links[2].A, p.Dests[1].Origins[0] = 77, none, 9, 1, 2
	if !same(step, []api.Route{path(), path(1), path(4, 1), path(1)}) || !same(run, []api.Route{path(), path(1), path(2, 1), path(1)}) || !same(start, []api.Route{none, path(), none, path()}) {
		t.Error("answers changed with what was handed in:", text(step), text(run), text(start))
	}
	// The link c d is now b d.
	if got := round.Step(p, 2, 0, l); !same(got, []api.Route{path(), path(4, 77), none, path(2, 1)}) {
		t.Error("the changes are not seen:", text(got))
	}
	if got := round.Run(p, 0, 0, 9); !same(got, []api.Route{path(), path(9), path(2, 9), path(9)}) {
		t.Error("the changes are not seen:", text(got))
	}
	if got := round.Start(p, 1); !same(got, []api.Route{none, none, path(), path()}) {
		t.Error("the change of the origins is not seen:", text(got))
	}
}

func TestR4TheSameAgain(t *testing.T) {
	all := few()
	for range 2 {
		for _, p := range all {
			for dest := range p.Dests {
				for _, f := range []int{0, 1, 6} {
					checkRun(t, p, f, dest, 2)
					checkRun(t, p, f, dest, 9)
					round.Run(api.Plan{}, f, dest, 9)
					round.Step(p, f, dest, nil)
				}
			}
		}
		slices.Reverse(all)
	}
	// What does not speak of routes makes no difference, nor do other destinations.
	for _, p := range nets() {
		q := p
		q.K, q.Checks = 0, nil
		for dest := range p.Dests {
			q.Dests = []api.Dest{{Name: "other", Origins: p.Dests[dest].Origins}}
			if got, want := round.Run(q, 2, 0, 4), round.Run(p, 2, dest, 4); !same(got, want) {
				t.Fatalf("%s and %s: unlike by what does not matter", text(got), text(want))
			}
		}
	}
}

// FuzzR1 takes a network's and routes' numbers from bytes.
func FuzzR1(f *testing.F) {
	f.Add([]byte("\x00\x03\x07\x08\x09\x02\x00\x01\x03\x00\x02\x0f\x01\x00\x01\x00\x01\x03\x01\x05"), 0, 0, 2)
	f.Add([]byte("\x03\x03\x07\x08\x07\x02\x00\x01\x03\x01\x02\x0f\x01\x02\x02\x00\x02\x01\x09\x00"), 1, 0, 1)
	f.Add([]byte("\x0c\x02\x01\x01\x01\x00\x01\x01\x02\x00\x01"), 0, 1, 1)
	f.Add([]byte{}, math.MinInt, math.MaxInt, -1)
	f.Fuzz(func(t *testing.T, b []byte, failed, dest, rounds int) {
		next := func() int {
			if len(b) == 0 {
				return 0
			}
			n := int(int8(b[0]))
			b = b[1:]
			return n
		}
		p := net(next())
		for range min(max(next(), 0), 13) {
			p.Nodes = append(p.Nodes, api.Node{Name: fmt.Sprint("n", len(p.Nodes)), AS: next()})
		}
		for range min(max(next(), 0), 17) {
			p.Links = append(p.Links, api.Link{A: next(), B: next(), Cost: next()})
		}
		for range min(max(next(), 0), 5) {
			p = serving(p, []int{next()})
		}
		var l []api.Route
		for range len(p.Nodes) + next()%2 {
			r := api.Route{Kind: next(), Cost: next()}
			for range min(max(next(), 0), 14) {
				r.Path = append(r.Path, next())
			}
			l = append(l, r)
		}
		checkAny(t, p, failed, dest, rounds, l)
	})
}

// checkAny holds all that is told, whether or not what is handed in may be.
func checkAny(t *testing.T, p api.Plan, f, dest, rounds int, l []api.Route) {
	t.Helper()
	right := plan.Right(p)
	if got, want := round.Fits(p, l), right && slowFits(p, l); got != want {
		t.Fatalf("Fits(%+v, %+v) = %v", p, l, got)
	}
	if !right || dest < 0 || dest >= len(p.Dests) {
		checkNothing(t, p, f, dest, rounds, l)
		return
	}
	if slowFits(p, l) {
		checkStep(t, p, f, dest, l)
	} else if got := round.Step(p, f, dest, l); len(got) > 0 {
		t.Fatalf("Step(%+v, %d, %d, %+v) = %+v", p, f, dest, l, got)
	}
	if rounds < 0 {
		if got := round.Run(p, f, dest, rounds); len(got) > 0 {
			t.Fatalf("Run of %d rounds = %s", rounds, text(got))
		}
		return
	}
	// What nodes hold in the end is there behind so few rounds.
	got, want := round.Run(p, f, dest, rounds), slowRun(p, f, dest, min(rounds, 20))
	if !same(got, want) {
		t.Fatalf("Run(%+v, %d, %d, %d) = %s, not %s", p, f, dest, rounds, text(got), text(want))
	}
}
