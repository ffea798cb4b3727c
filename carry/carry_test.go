package carry_test

import (
	"fmt"
	"math"
	"math/rand"
	"reflect"
	"slices"
	"strings"
	"testing"

	"backstay/api"
	"backstay/attr"
	"backstay/carry"
	"backstay/plan"
)

// far are numbers that are no node, link or destination of any network, among them such as wrap to those that are.
var far = []int{
	math.MinInt, math.MinInt + 1, math.MinInt32, -1 << 32, 1 - 1<<32, -65536, -65535, -256, -16, -15, -12, -2, -1,
	16, 17, 31, 32, 63, 64, 255, 256, 257, 65535, 65536, 65537, math.MaxInt32, 1 << 31, math.MaxUint32, 1 << 32, 1<<32 + 1, math.MaxInt - 1, math.MaxInt,
}

// none is the route that is none.
var none = api.Route{}

func vector(cost int) api.Route { return api.Route{Kind: api.RouteVector, Cost: cost} }

func path(numbers ...int) api.Route { return api.Route{Kind: api.RoutePath, Path: numbers} }

// counted are the numbers from one on, each so far from the one ahead.
func counted(from, step, count int) []int {
	var numbers []int
	for i := range count {
		numbers = append(numbers, from+i*step)
	}
	return numbers
}

// withAt is a copy of a list with a number put in ahead of a place.
func withAt(numbers []int, at, number int) []int {
	return slices.Insert(slices.Clone(numbers), at, number)
}

// net is a network by vectors, if its cap is 0, else by paths, of nodes of some AS.
func net(most int, as ...int) api.Plan {
	p := api.Plan{Proto: api.ProtoVector}
	if most > 0 {
		p.Proto, p.Cap = api.ProtoPath, most
	}
	for i, number := range as {
		p.Nodes = append(p.Nodes, api.Node{Name: fmt.Sprint("n", i), AS: number})
	}
	return p
}

// joined is a network with links between its nodes; each is a node, a node, and the cost.
func joined(p api.Plan, links ...[3]int) api.Plan {
	for _, l := range links {
		p.Links = append(p.Links, api.Link{A: l[0], B: l[1], Cost: l[2]})
	}
	return p
}

// serving is a network with a destination for each list of origins.
func serving(p api.Plan, origins ...[]int) api.Plan {
	for _, o := range origins {
		p.Dests = append(p.Dests, api.Dest{Name: fmt.Sprint("d", len(p.Dests)), Origins: o})
	}
	return p
}

// town is a network of four nodes, the first and the last of the same AS, and a fifth one that no link reaches.
func town(most int) api.Plan {
	p := joined(net(most, 7, 8, 9, 7, 65535), [3]int{0, 1, 3}, [3]int{1, 2, 15}, [3]int{2, 3, 1}, [3]int{0, 3, 2}, [3]int{0, 2, 14})
	p.K = 2
	p.Checks = []api.Check{{Kind: api.CheckReach, Node: 1}}
	return serving(p, []int{1}, []int{0, 2, 4}, []int{0, 1, 2, 3, 4}, []int{3})
}

// greatest is a network with as much of all as there may be: a ring of twelve, with four links across.
func greatest(most int) api.Plan {
	p := net(most, counted(65535, -1, 12)...)
	p.Nodes[6].AS, p.Nodes[11].AS = 1, 65530
	for i := range 11 {
		p = joined(p, [3]int{i, i + 1, 1 + i})
	}
	p = joined(p, [3]int{0, 11, 12}, [3]int{0, 6, 13}, [3]int{1, 7, 14}, [3]int{2, 8, 15}, [3]int{3, 9, 15})
	p.K = 4
	p.Checks = slices.Repeat([]api.Check{{Kind: api.CheckWithin, Node: 11, Limit: 65535}}, 16)
	return serving(p, []int{0}, []int{11}, counted(0, 1, 12), []int{1, 4, 10})
}

// nets are networks of both protocols and of all caps.
func nets() []api.Plan {
	var all []api.Plan
	for most := range 13 {
		all = append(all, town(most), greatest(most))
	}
	return append(all,
		net(0, 1), net(1, 1), net(12, 65535), serving(net(0, 3), []int{0}), serving(net(3, 3), []int{0}),
		joined(net(0, 1, 1), [3]int{0, 1, 1}), joined(net(12, 1, 1), [3]int{0, 1, 1}), joined(net(1, 1, 2), [3]int{0, 1, 15}),
		joined(net(2, 1, 2, 1), [3]int{0, 1, 15}, [3]int{1, 2, 1}), joined(net(12, 5, 5, 5), [3]int{0, 1, 15}, [3]int{0, 2, 1}),
	)
}

// vectors are all that there are.
func vectors() []api.Route {
	var all []api.Route
	for cost := range 16 {
		all = append(all, vector(cost))
	}
	return all
}

// routesFor are none, all vectors, and paths of all lengths, with each AS of a network at each place, and without.
func routesFor(p api.Plan) []api.Route {
	all := append(vectors(), none, path())
	for count := range 13 {
		plain := counted(100, 7, count)
		all = append(all, path(plain...))
		for at := range count {
			for _, n := range p.Nodes {
				one := slices.Clone(plain)
				one[at] = n.AS
				all = append(all, path(one...))
			}
		}
	}
	for _, a := range p.Nodes {
		for _, b := range p.Nodes {
			if a.AS != b.AS {
				all = append(all, path(a.AS, b.AS), path(a.AS, 50, b.AS), path(50, a.AS, b.AS, 51))
			}
		}
	}
	return all
}

// wrongRoutes are routes that may not be.
func wrongRoutes() []api.Route {
	all := []api.Route{
		{Kind: 3}, {Kind: -1}, {Kind: 1 << 32}, {Kind: 1<<32 + 1}, {Kind: 1<<32 + 2, Path: []int{1}}, {Kind: math.MaxInt}, {Kind: math.MinInt}, {Kind: 3, Cost: 1, Path: []int{1}},
		{Cost: 1}, {Cost: -1}, {Path: []int{1}}, {Path: []int{0}}, {Cost: 2, Path: []int{3}}, {Cost: math.MaxInt}, {Path: counted(1, 1, 12)},
		vector(16), vector(17), vector(-1), vector(-15), {Kind: 1, Path: []int{1}}, {Kind: 1, Cost: 3, Path: []int{1, 2}},
		{Kind: 2, Cost: 1}, {Kind: 2, Cost: 1, Path: []int{100}}, {Kind: 2, Cost: -1, Path: []int{100}}, {Kind: 2, Cost: 16}, {Kind: 2, Cost: math.MinInt},
		path(0), path(-1), path(65536), path(100, 0), path(0, 100), path(100, 100), path(100, 101, 100), path(100, 101, 101), path(65536+100, 100), path(7, 7), path(8, 8),
		path(counted(100, 1, 13)...), path(counted(100, 1, 14)...), path(append(counted(100, 1, 12), 100)...), path(slices.Repeat([]int{100}, 12)...), path(counted(1, 1, 65535)...), path(make([]int, 1<<18)...),
	}
	for _, n := range far {
		if n < 0 || n > 65535 {
			all = append(all, vector(n), path(n), path(100, n), path(n, 100))
		}
		all = append(all, api.Route{Cost: n}, api.Route{Kind: 2, Cost: n, Path: []int{100}})
	}
	return all
}

// wrongNets are networks that may not be, most of them for one reason alone.
func wrongNets() map[string]api.Plan {
	nets := map[string]api.Plan{"nothing": {}}
	for _, most := range []int{0, 3, 12} {
		for name, wrong := range map[string]func(p *api.Plan){
			"no protocol":             func(p *api.Plan) { p.Proto = 0 },
			"a third protocol":        func(p *api.Plan) { p.Proto = 3 },
			"a protocol that wraps":   func(p *api.Plan) { p.Proto += 1 << 32 },
			"the other protocol":      func(p *api.Plan) { p.Proto = 3 - p.Proto },
			"a cap too great":         func(p *api.Plan) { p.Cap = 13 },
			"a cap below 0":           func(p *api.Plan) { p.Cap = -1 },
			"failures below 0":        func(p *api.Plan) { p.K = -1 },
			"too many failures":       func(p *api.Plan) { p.K = 5 },
			"more failures than so":   func(p *api.Plan) { p.Links, p.K = p.Links[:1], 2 },
			"no nodes":                func(p *api.Plan) { p.Nodes = nil },
			"fewer nodes than links":  func(p *api.Plan) { p.Nodes = p.Nodes[:2] },
			"too many nodes":          func(p *api.Plan) { p.Nodes = append(p.Nodes, net(0, counted(1, 1, 13)...).Nodes[5:]...) },
			"no name":                 func(p *api.Plan) { p.Nodes[4].Name = "" },
			"a keyword":               func(p *api.Plan) { p.Nodes[4].Name = "link" },
			"a name twice":            func(p *api.Plan) { p.Nodes[4].Name = "n0" },
			"no AS":                   func(p *api.Plan) { p.Nodes[4].AS = 0 },
			"an AS too great":         func(p *api.Plan) { p.Nodes[4].AS = 65536 },
			"a link to itself":        func(p *api.Plan) { p.Links[4].A = p.Links[4].B },
			"ends the wrong way":      func(p *api.Plan) { p.Links[4] = api.Link{A: 2, B: 0, Cost: 1} },
			"an end below 0":          func(p *api.Plan) { p.Links[4].A = -1 },
			"an end too great":        func(p *api.Plan) { p.Links[4].B = 5 },
			"an end far too great":    func(p *api.Plan) { p.Links[4].B = math.MaxInt },
			"a link twice":            func(p *api.Plan) { p.Links[4].B = 3 },
			"no cost":                 func(p *api.Plan) { p.Links[4].Cost = 0 },
			"a cost below 0":          func(p *api.Plan) { p.Links[4].Cost = -1 },
			"a cost too great":        func(p *api.Plan) { p.Links[4].Cost = 16 },
			"far too many links":      func(p *api.Plan) { p.Links = slices.Repeat(p.Links, 1000) },
			"a node as a destination": func(p *api.Plan) { p.Dests[3].Name = "n1" },
			"no origins":              func(p *api.Plan) { p.Dests[3].Origins = nil },
			"an origin too great":     func(p *api.Plan) { p.Dests[3].Origins = []int{3, 5} },
			"an origin below 0":       func(p *api.Plan) { p.Dests[3].Origins = []int{-1, 3} },
			"origins that fall":       func(p *api.Plan) { p.Dests[3].Origins = []int{3, 2} },
			"an origin twice":         func(p *api.Plan) { p.Dests[3].Origins = []int{3, 3} },
			"too many destinations":   func(p *api.Plan) { *p = serving(*p, []int{0}) },
			"a check of no kind":      func(p *api.Plan) { p.Checks[0].Kind = 0 },
			"a check of no node":      func(p *api.Plan) { p.Checks[0].Node = 5 },
			"a check of no dest":      func(p *api.Plan) { p.Checks[0].Dest = 4 },
			"a limit of another kind": func(p *api.Plan) { p.Checks[0].Limit = 1 },
			"too many checks":         func(p *api.Plan) { p.Checks = slices.Repeat(p.Checks, 17) },
		} {
			p := town(most)
			wrong(&p)
			nets[fmt.Sprint(name, ", cap ", most)] = p
		}
	}
	return nets
}

// holds looks for a number in the text of a path.
func holds(numbers []int, number int) bool {
	text := strings.Trim(fmt.Sprint(numbers), "[]")
	return strings.Contains(" "+text+" ", fmt.Sprintf(" %d ", number))
}

// slowFits goes through all routes that there may be of a kind, or through what may not be in a path.
func slowFits(p api.Plan, node int, r api.Route) bool {
	if !slices.Contains(counted(0, 1, len(p.Nodes)), node) {
		return false
	}
	if same(r, none) {
		return true
	}
	if p.Proto == api.ProtoVector {
		return slices.ContainsFunc(vectors(), func(v api.Route) bool { return same(r, v) })
	}
	if r.Kind != api.RoutePath || r.Cost != 0 {
		return false
	}
	seen := map[int]int{p.Nodes[node].AS: -1}
	for at, number := range r.Path {
		if _, had := seen[number]; had || at == p.Cap || number != int(uint16(number)) || number == 0 {
			return false
		}
		seen[number] = at
	}
	return true
}

func slowOwn(p api.Plan, dest, node int) api.Route {
	for d := range p.Dests {
		for _, at := range p.Dests[d].Origins {
			if d == dest && at == node {
				return []api.Route{vector(0), path()}[p.Proto-1]
			}
		}
	}
	return none
}

// slowOver goes through all links and both their ends; a vector grows one by one, a path from behind.
func slowOver(p api.Plan, link, node int, r api.Route) api.Route {
	for at, l := range p.Links {
		for from, to := range map[int]int{l.A: l.B, l.B: l.A} {
			if at != link || to != node || r.Kind == 0 || !slowFits(p, from, r) {
				continue
			}
			if p.Proto == api.ProtoVector {
				return slowFarther(r.Cost, l.Cost)
			}
			return slowLonger(p, from, to, r.Path)
		}
	}
	return none
}

func slowFarther(cost, by int) api.Route {
	for range by {
		cost++
		if cost == 16 {
			return none
		}
	}
	return vector(cost)
}

func slowLonger(p api.Plan, from, to int, numbers []int) api.Route {
	var longer []int
	for i := range numbers {
		longer = append(longer, numbers[len(numbers)-1-i])
	}
	longer = append(longer, p.Nodes[from].AS)
	slices.Reverse(longer)
	if len(longer) == p.Cap+1 || holds(longer, p.Nodes[to].AS) {
		return none
	}
	return path(longer...)
}

// plain is a route without the difference between a list that is nil and one without elements.
func plain(r api.Route) api.Route {
	r.Path = append([]int{}, r.Path...)
	return r
}

// same holds every field of two routes.
func same(a, b api.Route) bool { return reflect.DeepEqual(plain(a), plain(b)) }

// checkOver holds what becomes of a route, at a link and a node of a network that may be, against the slow reckoning.
func checkOver(t *testing.T, p api.Plan, link, node int, r api.Route) {
	t.Helper()
	if got, want := carry.Over(p, link, node, r), slowOver(p, link, node, r); !same(got, want) {
		t.Fatalf("Over(%+v, %d, %d, %+v) = %+v, not %+v", p, link, node, r, got, want)
	}
}

func checkFits(t *testing.T, p api.Plan, node int, r api.Route) {
	t.Helper()
	if got := carry.Fits(p, node, r); got != slowFits(p, node, r) {
		t.Fatalf("Fits(%+v, %d, %+v) = %v", p, node, r, got)
	}
}

func checkOwn(t *testing.T, p api.Plan, dest, node int) {
	t.Helper()
	if got, want := carry.Own(p, dest, node), slowOwn(p, dest, node); !same(got, want) {
		t.Fatalf("Own(%+v, %d, %d) = %+v, not %+v", p.Dests, dest, node, got, want)
	}
}

// checkRoute holds all that is told of a network and a route against the slow reckoning.
func checkRoute(t *testing.T, p api.Plan, r api.Route) {
	t.Helper()
	for node := -1; node <= len(p.Nodes); node++ {
		checkFits(t, p, node, r)
		for link := -1; link <= len(p.Links); link++ {
			checkOver(t, p, link, node, r)
		}
	}
}

// checkNothing holds that of a network that may not be nothing is told.
func checkNothing(t *testing.T, p api.Plan, link, dest, node int, r api.Route) {
	t.Helper()
	if carry.Fits(p, node, r) || !same(carry.Own(p, dest, node), none) || !same(carry.Over(p, link, node, r), none) {
		t.Fatalf("of %+v, the link %d, the destination %d, the node %d and %+v something is told", p, link, dest, node, r)
	}
}

func TestNetsMayBe(t *testing.T) {
	for _, p := range nets() {
		if !plan.Right(p) {
			t.Fatalf("%+v may not be", p)
		}
	}
}

func TestC1Fits(t *testing.T) {
	v, two, twelve := town(0), town(2), town(12)
	for _, c := range []struct {
		p    api.Plan
		node int
		r    api.Route
		want bool
	}{
		{v, 0, none, true}, {v, 4, none, true}, {v, 0, api.Route{Path: []int{}}, true}, {v, 0, vector(0), true}, {v, 4, vector(15), true}, {v, 2, api.Route{Kind: 1, Cost: 3, Path: []int{}}, true},
		{v, 0, vector(16), false}, {v, 0, vector(-1), false}, {v, 0, path(), false}, {v, 0, path(100), false}, {v, 5, vector(0), false}, {v, -1, vector(0), false}, {v, 5, none, false}, {v, -1, none, false},
		{v, 0, api.Route{Cost: 1}, false}, {v, 0, api.Route{Path: []int{100}}, false}, {v, 0, api.Route{Kind: 1, Path: []int{100}}, false}, {v, 0, api.Route{Kind: 3}, false},
		{two, 0, none, true}, {two, 0, path(), true}, {two, 0, path(100), true}, {two, 0, path(100, 8), true}, {two, 0, path(8, 100), true}, {two, 4, path(7, 8), true}, {two, 1, path(7), true},
		{two, 0, path(100, 8, 9), false}, {two, 0, path(7), false}, {two, 0, path(7, 100), false}, {two, 0, path(100, 7), false}, {two, 3, path(7), false}, {two, 1, path(8), false}, {two, 4, path(65535, 1), false},
		{two, 0, vector(0), false}, {two, 0, vector(15), false}, {two, 0, path(100, 100), false}, {two, 0, path(0), false}, {two, 0, path(65536), false}, {two, 0, api.Route{Kind: 2, Cost: 1}, false},
		{two, 5, path(), false}, {two, -1, path(), false}, {two, 5, none, false}, {two, math.MaxInt, none, false}, {two, math.MinInt, none, false},
		{twelve, 1, path(counted(100, 1, 12)...), true}, {twelve, 1, path(counted(100, 1, 13)...), false}, {twelve, 1, path(append(counted(100, 1, 11), 8)...), false}, {twelve, 0, path(append(counted(100, 1, 11), 8)...), true},
		{town(11), 1, path(counted(100, 1, 11)...), true}, {town(11), 1, path(counted(100, 1, 12)...), false}, {town(1), 1, path(100), true}, {town(1), 1, path(100, 101), false}, {town(1), 1, path(8), false},
	} {
		if got := carry.Fits(c.p, c.node, c.r); got != c.want {
			t.Errorf("cap %d: Fits(%d, %+v) = %v", c.p.Cap, c.node, c.r, got)
		}
	}
}

func TestC2Own(t *testing.T) {
	for _, most := range []int{0, 1, 12} {
		p, own := town(most), vector(0)
		if most > 0 {
			own = path()
		}
		origins := map[int][]int{0: {1}, 1: {0, 2, 4}, 2: {0, 1, 2, 3, 4}, 3: {3}}
		for dest := -1; dest <= 4; dest++ {
			for node := -1; node <= 5; node++ {
				want := none
				if slices.Contains(origins[dest], node) {
					want = own
				}
				if got := carry.Own(p, dest, node); !same(got, want) {
					t.Errorf("cap %d: Own(%d, %d) = %+v, not %+v", most, dest, node, got, want)
				}
			}
		}
	}
}

func TestC2OwnAgainstSlow(t *testing.T) {
	for _, p := range nets() {
		for dest := -2; dest <= 5; dest++ {
			for node := -2; node <= 13; node++ {
				checkOwn(t, p, dest, node)
			}
		}
		for _, n := range far {
			for at := -1; at <= 12; at++ {
				checkOwn(t, p, n, at)
				checkOwn(t, p, at, n)
			}
			checkOwn(t, p, n, n)
		}
	}
}

func TestC3OverByVectors(t *testing.T) {
	p := town(0)
	for _, c := range []struct {
		link, node int
		r, want    api.Route
	}{
		// The link 0 is a's and b's, of the cost 3.
		{0, 0, vector(0), vector(3)}, {0, 1, vector(0), vector(3)}, {0, 1, vector(11), vector(14)}, {0, 0, vector(12), vector(15)}, {0, 0, vector(13), none}, {0, 1, vector(13), none}, {0, 0, vector(15), none},
		{1, 1, vector(0), vector(15)}, {1, 2, vector(0), vector(15)}, {1, 1, vector(1), none}, {1, 2, vector(15), none},
		{2, 3, vector(14), vector(15)}, {2, 2, vector(14), vector(15)}, {2, 2, vector(15), none}, {3, 0, vector(4), vector(6)}, {3, 3, vector(4), vector(6)}, {4, 2, vector(1), vector(15)}, {4, 0, vector(2), none},
		// Nodes that are none of the link's ends, and that there are not.
		{0, 2, vector(0), none}, {0, 3, vector(0), none}, {0, 4, vector(0), none}, {4, 1, vector(0), none}, {0, -1, vector(0), none}, {0, 5, vector(0), none},
		{-1, 0, vector(0), none}, {5, 0, vector(0), none}, {5, 2, vector(0), none}, {16, 0, vector(0), none}, {math.MinInt, 0, vector(0), none}, {math.MaxInt, 0, vector(0), none},
		{0, 0, none, none}, {0, 1, api.Route{Path: []int{}}, none}, {0, 0, path(), none}, {0, 0, path(100), none}, {0, 0, vector(16), none}, {0, 0, vector(-1), none}, {0, 0, vector(-3), none},
		{0, 0, api.Route{Kind: 1, Cost: 2, Path: []int{}}, vector(5)}, {0, 0, api.Route{Kind: 1, Cost: 2, Path: []int{100}}, none}, {0, 0, api.Route{Cost: 2}, none}, {0, 0, api.Route{Kind: 3, Cost: 2}, none},
	} {
		if got := carry.Over(p, c.link, c.node, c.r); !same(got, c.want) {
			t.Errorf("Over(%d, %d, %+v) = %+v, not %+v", c.link, c.node, c.r, got, c.want)
		}
	}
}

func TestC3OverByPaths(t *testing.T) {
	one, two, twelve := town(1), town(2), town(12)
	for _, c := range []struct {
		p          api.Plan
		link, node int
		r, want    api.Route
	}{
		// The link 0 is between the AS 7 and 8.
		{two, 0, 0, path(), path(8)}, {two, 0, 1, path(), path(7)}, {two, 0, 1, path(9), path(7, 9)}, {two, 0, 0, path(9), path(8, 9)}, {two, 0, 0, path(65535), path(8, 65535)}, {two, 0, 0, path(1), path(8, 1)},
		{two, 0, 1, path(9, 10), none}, {two, 0, 1, path(9, 10, 11), none}, {one, 0, 1, path(), path(7)}, {one, 0, 1, path(9), none}, {one, 0, 1, path(9, 10), none},
		// The AS of the node, at each place; and of the other end, which does not fit there.
		{twelve, 0, 1, path(8), none}, {twelve, 0, 1, path(8, 9, 10), none}, {twelve, 0, 1, path(9, 8, 10), none}, {twelve, 0, 1, path(9, 10, 8), none},
		{twelve, 0, 1, path(7), none}, {twelve, 0, 1, path(7, 9, 10), none}, {twelve, 0, 1, path(9, 7, 10), none}, {twelve, 0, 1, path(9, 10, 7), none}, {twelve, 0, 1, path(9, 10, 11), path(7, 9, 10, 11)},
		// The link 3 is between two nodes of the AS 7.
		{twelve, 3, 0, path(), none}, {twelve, 3, 3, path(), none}, {twelve, 3, 0, path(9), none}, {twelve, 3, 3, path(7), none},
		// The way around by the AS 9 comes to no node of the AS 7 with 7 in it.
		{twelve, 2, 3, path(7), none}, {twelve, 2, 3, path(8), path(9, 8)}, {twelve, 2, 3, path(8, 7), none}, {twelve, 2, 2, path(8), path(7, 8)}, {twelve, 1, 2, path(7), path(8, 7)},
		{twelve, 0, 1, path(counted(100, 1, 11)...), path(append([]int{7}, counted(100, 1, 11)...)...)}, {twelve, 0, 1, path(counted(100, 1, 12)...), none}, {twelve, 0, 1, path(counted(100, 1, 13)...), none},
		{two, 0, 2, path(), none}, {two, 0, 3, path(), none}, {two, 0, 4, path(), none}, {two, 0, -1, path(), none}, {two, 0, 5, path(), none}, {two, -1, 0, path(), none}, {two, 5, 0, path(), none}, {two, 16, 0, path(), none},
		{two, 0, 1, none, none}, {two, 0, 1, vector(0), none}, {two, 0, 1, vector(7), none}, {two, 0, 1, path(0), none}, {two, 0, 1, path(65536), none}, {twelve, 0, 1, path(9, 9), none}, {twelve, 0, 1, path(9, 10, 9), none},
		{two, 0, 1, api.Route{Kind: 2, Cost: 1}, none}, {two, 0, 1, api.Route{Path: []int{9}}, none}, {two, 0, 1, api.Route{Kind: 3, Path: []int{9}}, none}, {two, 0, 1, api.Route{Kind: 2, Path: []int{}}, path(7)},
	} {
		if got := carry.Over(c.p, c.link, c.node, c.r); !same(got, c.want) {
			t.Errorf("cap %d: Over(%d, %d, %+v) = %+v, not %+v", c.p.Cap, c.link, c.node, c.r, got, c.want)
		}
	}
}

// TestC3EveryVectorAndCost has all vectors over links of all costs, from both ends.
func TestC3EveryVectorAndCost(t *testing.T) {
	for cost := 1; cost <= 15; cost++ {
		p := joined(net(0, 1, 2, 1), [3]int{1, 2, cost}, [3]int{0, 2, 16 - cost})
		for have := range 16 {
			want := none
			if have+cost <= 15 {
				want = vector(have + cost)
			}
			for _, node := range []int{1, 2} {
				if got := carry.Over(p, 0, node, vector(have)); !same(got, want) {
					t.Errorf("%d over a link of %d = %+v, not %+v", have, cost, got, want)
				}
			}
			checkRoute(t, p, vector(have))
		}
	}
}

// TestC3EveryPlaceAndCap has the AS of either end, or of none, at each place of paths of all lengths, at all caps.
func TestC3EveryPlaceAndCap(t *testing.T) {
	for most := 1; most <= 12; most++ {
		p := joined(net(most, 7, 8, 9), [3]int{0, 1, 3}, [3]int{1, 2, 3})
		for count := range 13 {
			numbers := counted(100, -3, count)
			want := none
			if count < most {
				want = path(append([]int{7}, numbers...)...)
			}
			if got := carry.Over(p, 0, 1, path(numbers...)); !same(got, want) {
				t.Errorf("cap %d: %v becomes %+v, not %+v", most, numbers, got, want)
			}
			for at := 0; at <= count && count < 12; at++ {
				if got := carry.Over(p, 0, 1, path(withAt(numbers, at, 8)...)); !same(got, none) {
					t.Errorf("cap %d: with the node's own AS at %d: %+v", most, at, got)
				}
				if got := carry.Over(p, 0, 1, path(withAt(numbers, at, 7)...)); !same(got, none) {
					t.Errorf("cap %d: with the other end's AS at %d: %+v", most, at, got)
				}
				checkRoute(t, p, path(withAt(numbers, at, 9)...))
				checkRoute(t, p, path(withAt(numbers, at, 8)...))
			}
		}
	}
}

// TestC3NumbersLikeOthers has AS numbers that are like others in their digits or their bits.
func TestC3NumbersLikeOthers(t *testing.T) {
	for _, as := range [][]int{{1, 11}, {11, 1}, {1, 257}, {256, 512}, {32768, 32767}, {65535, 255}, {12, 21}} {
		p := joined(net(12, as...), [3]int{0, 1, 1})
		for _, number := range []int{1, 2, 10, 11, 12, 21, 110, 111, 112, 121, 255, 256, 257, 511, 512, 513, 32767, 32768, 65279, 65535} {
			checkRoute(t, p, path(number))
			checkRoute(t, p, path(3, number, 4))
		}
	}
}

func TestC1ToC3AgainstSlow(t *testing.T) {
	for _, p := range nets() {
		if len(p.Nodes) > 5 && p.Cap%6 > 0 {
			continue
		}
		for _, r := range routesFor(p) {
			checkRoute(t, p, r)
		}
		for _, r := range wrongRoutes() {
			if len(r.Path) < 100 {
				checkRoute(t, p, r)
			}
		}
	}
}

// TestC1ToC3ByChance has networks and routes of few AS, so that they meet.
func TestC1ToC3ByChance(t *testing.T) {
	chance := rand.New(rand.NewSource(7))
	for range 2000 {
		p := netByChance(chance)
		if !plan.Right(p) {
			t.Fatalf("%+v may not be", p)
		}
		for range 4 {
			numbers := chance.Perm(14)[:chance.Intn(13)]
			for i := range numbers {
				numbers[i]++
			}
			checkRoute(t, p, path(numbers...))
		}
		checkRoute(t, p, vector(chance.Intn(16)))
		for dest := range 4 {
			checkOwn(t, p, dest, chance.Intn(13))
		}
	}
}

func netByChance(chance *rand.Rand) api.Plan {
	var as []int
	for range 2 + chance.Intn(5) {
		as = append(as, 1+chance.Intn(14))
	}
	p := net(chance.Intn(13), as...)
	for b := range as {
		for a := range b {
			if chance.Intn(3) > 0 {
				p = joined(p, [3]int{a, b, 1 + chance.Intn(15)})
			}
		}
	}
	for range chance.Intn(5) {
		origins := chance.Perm(len(as))[:1+chance.Intn(len(as))]
		slices.Sort(origins)
		p = serving(p, origins)
	}
	return p
}

func TestC1NoSuchNode(t *testing.T) {
	for _, p := range nets() {
		own := []api.Route{vector(0), path()}[p.Proto-1]
		for _, node := range append(far, len(p.Nodes), len(p.Nodes)+1, 12, 13) {
			if node >= 0 && node < len(p.Nodes) {
				continue
			}
			if carry.Fits(p, node, own) || carry.Fits(p, node, none) {
				t.Errorf("of %d nodes something fits the node %d", len(p.Nodes), node)
			}
			for link := range p.Links {
				if got := carry.Over(p, link, node, own); !same(got, none) {
					t.Errorf("at the node %d: %+v", node, got)
				}
			}
		}
	}
}

func TestC3NoSuchLink(t *testing.T) {
	for _, p := range nets() {
		own := []api.Route{vector(0), path()}[p.Proto-1]
		for _, link := range append(far, len(p.Links), len(p.Links)+1, 16) {
			if link >= 0 && link < len(p.Links) {
				continue
			}
			for _, node := range append(far, counted(0, 1, 13)...) {
				if got := carry.Over(p, link, node, own); !same(got, none) {
					t.Errorf("over the link %d of %d, at %d: %+v", link, len(p.Links), node, got)
				}
			}
		}
	}
}

func TestC1AndC3WrongRoutes(t *testing.T) {
	for _, p := range []api.Plan{town(0), town(1), town(12), greatest(0), greatest(12)} {
		for _, r := range wrongRoutes() {
			for node := range p.Nodes {
				if carry.Fits(p, node, r) {
					t.Errorf("cap %d: a route of the kind %d and the cost %d fits %d", p.Cap, r.Kind, r.Cost, node)
				}
			}
			for link, l := range p.Links {
				if a, b := carry.Over(p, link, l.A, r), carry.Over(p, link, l.B, r); !same(a, none) || !same(b, none) {
					t.Errorf("cap %d: a route of the kind %d and the cost %d comes over %d: %+v, %+v", p.Cap, r.Kind, r.Cost, link, a, b)
				}
			}
		}
	}
}

func TestWrongNetworksTellNothing(t *testing.T) {
	routes := []api.Route{none, vector(0), vector(1), vector(15), path(), path(100), path(8), vector(16), path(0), {Kind: 3}}
	for name, p := range wrongNets() {
		t.Run(name, func(t *testing.T) {
			if plan.Right(p) {
				t.Fatal("it may be")
			}
			for _, r := range routes {
				for _, node := range append(far, 0, 1, 2, 3, 4, 5, 6) {
					for n := -1; n <= 5; n++ {
						checkNothing(t, p, n, n, node, r)
					}
					checkNothing(t, p, node, node, 0, r)
				}
			}
		})
	}
}

// TestC4FitsAndLonger holds on answers alone that what comes over a link fits, and is longer than what went.
func TestC4FitsAndLonger(t *testing.T) {
	for _, p := range nets() {
		for _, r := range routesFor(p) {
			for link, l := range p.Links {
				for _, node := range []int{l.A, l.B} {
					got := carry.Over(p, link, node, r)
					if !carry.Fits(p, node, got) {
						t.Fatalf("%+v over %d does not fit %d: %+v", r, link, node, got)
					}
					if got.Kind != api.RouteNone && attr.Length(got) <= attr.Length(r) {
						t.Fatalf("%+v over %d at %d is no longer: %+v", r, link, node, got)
					}
				}
			}
		}
		for dest := range p.Dests {
			for node := range p.Nodes {
				if !carry.Fits(p, node, carry.Own(p, dest, node)) {
					t.Fatalf("what %d has of its own does not fit it", node)
				}
			}
		}
	}
}

// TestC4BetterStaysBetter holds on answers alone that of two routes which come over the better one stays better.
func TestC4BetterStaysBetter(t *testing.T) {
	for _, p := range nets() {
		if len(p.Nodes) > 5 && p.Cap != 0 && p.Cap != 4 {
			continue
		}
		for link, l := range p.Links {
			for _, node := range []int{l.A, l.B} {
				checkOrder(t, p, link, node)
			}
		}
	}
}

func checkOrder(t *testing.T, p api.Plan, link, node int) {
	t.Helper()
	var went, came []api.Route
	for _, r := range append(routesFor(p), path(1, 2), path(2, 1), path(1), path(2), path(10), path(9, 10), path(10, 9)) {
		if got := carry.Over(p, link, node, r); got.Kind != api.RouteNone {
			went, came = append(went, r), append(came, got)
		}
	}
	for i := range went {
		for j := range went {
			if attr.Better(went[i], went[j]) != attr.Better(came[i], came[j]) {
				t.Fatalf("over %d at %d %+v and %+v become %+v and %+v", link, node, went[i], went[j], came[i], came[j])
			}
		}
	}
}

// callAll calls all that there is.
func callAll(p api.Plan, link, dest, node int, r api.Route) {
	carry.Fits(p, node, r)
	carry.Own(p, dest, node)
	carry.Over(p, link, node, r)
}

func TestR1WrongOnesEnd(t *testing.T) {
	all := append(nets(), api.Plan{})
	for _, p := range wrongNets() {
		all = append(all, p)
	}
	routes := append(wrongRoutes(), none, vector(3), path(), path(9))
	for i, p := range all {
		for j, r := range routes {
			n := far[(i+j)%len(far)]
			callAll(p, 0, 0, n, r)
			callAll(p, n, n, 0, r)
			callAll(p, n, n, n, r)
			callAll(p, 0, 0, 1, r)
			callAll(p, 4, 3, 2, r)
		}
	}
}

// withSpare puts marks behind the length of each list of a network.
func withSpare(p api.Plan) api.Plan {
	p.Nodes = append(slices.Clone(p.Nodes), api.Node{Name: "spare", AS: -7})[:len(p.Nodes)]
	p.Links = append(slices.Clone(p.Links), api.Link{A: 0, B: 1, Cost: -7})[:len(p.Links)]
	p.Dests = append(slices.Clone(p.Dests), api.Dest{Name: "spare"})[:len(p.Dests)]
	for i, d := range p.Dests {
		p.Dests[i].Origins = append(slices.Clone(d.Origins), -7)[:len(d.Origins)]
	}
	p.Checks = append(slices.Clone(p.Checks), api.Check{Kind: -7})[:len(p.Checks)]
	return p
}

// whole is a copy of a network with all that stands behind its lists' lengths.
func whole(p api.Plan) api.Plan {
	p.Nodes, p.Links, p.Checks = slices.Clone(p.Nodes[:cap(p.Nodes)]), slices.Clone(p.Links[:cap(p.Links)]), slices.Clone(p.Checks[:cap(p.Checks)])
	p.Dests = slices.Clone(p.Dests[:cap(p.Dests)])
	for i, d := range p.Dests {
		p.Dests[i].Origins = slices.Clone(d.Origins[:cap(d.Origins)])
	}
	return p
}

// spareRoute is a route with marks behind its path's length.
func spareRoute(r api.Route) api.Route {
	r.Path = append(append(make([]int, 0, len(r.Path)+3), r.Path...), -7, -8, -9)[:len(r.Path)]
	return r
}

// wholeRoute is a copy of a route with all that stands behind its path's length.
func wholeRoute(r api.Route) api.Route {
	r.Path = slices.Clone(r.Path[:cap(r.Path)])
	return r
}

func TestR3LeavesWhatIsHandedIn(t *testing.T) {
	all := nets()
	for _, p := range wrongNets() {
		all = append(all, p)
	}
	routes := []api.Route{none, vector(0), vector(14), path(), path(100), path(100, 101), path(counted(100, 1, 11)...), path(counted(100, 1, 12)...), path(7), path(8, 9), vector(16), path(0), {Kind: 3, Path: []int{1}}, {Path: []int{1}}}
	for _, p := range all {
		p = withSpare(p)
		before := whole(p)
		for _, r := range routes {
			r = spareRoute(r)
			was := wholeRoute(r)
			for node := -1; node < 6; node++ {
				for n := -1; n < 6; n++ {
					callAll(p, n, n, node, r)
				}
			}
			if !reflect.DeepEqual(wholeRoute(r), was) {
				t.Fatalf("%+v was %+v", wholeRoute(r), was)
			}
		}
		if !reflect.DeepEqual(whole(p), before) {
			t.Fatalf("%+v was %+v", whole(p), before)
		}
	}
}

// fill writes into all room that an answer has, and grows it.
func fill(r api.Route) {
	room := r.Path[:cap(r.Path)]
	for i := range room {
		room[i] = -99
	}
	_ = append(r.Path, -98)
}

func TestR3AnswersAreNewMemory(t *testing.T) {
	for _, p := range []api.Plan{town(0), town(12), greatest(12)} {
		p = withSpare(p)
		before := whole(p)
		for _, r := range []api.Route{none, vector(0), path(), path(100), path(100, 101), path(100, 101, 102), path(counted(100, 1, 7)...), path(counted(100, 1, 11)...), path(counted(100, 1, 12)...)} {
			r := spareRoute(r)
			was := wholeRoute(r)
			answers := func() []api.Route {
				return []api.Route{carry.Own(p, 2, 0), carry.Own(p, 2, 1), carry.Own(p, 0, 3), carry.Over(p, 0, 0, r), carry.Over(p, 0, 1, r), carry.Over(p, 1, 2, r), carry.Over(p, 1, 4, r)}
			}
			want, first, second := plainAll(answers()), answers(), answers()
			for i := range first {
				fill(first[i])
				if !reflect.DeepEqual(plainAll(first[i+1:]), want[i+1:]) || !reflect.DeepEqual(plainAll(second), want) {
					t.Fatalf("%+v: answer %d changed others", r, i)
				}
			}
			if !reflect.DeepEqual(wholeRoute(r), was) || !reflect.DeepEqual(whole(p), before) {
				t.Fatalf("what was written into answers changed %+v, or the network", was)
			}
			if !reflect.DeepEqual(plainAll(answers()), want) {
				t.Fatalf("%+v: what was written into answers changed later ones", r)
			}
		}
	}
}

func plainAll(l []api.Route) []api.Route {
	all := []api.Route{}
	for _, r := range l {
		all = append(all, plain(r))
	}
	return all
}

func TestR3KeepsNothing(t *testing.T) {
	p, r := town(12), path(10, 11)
	over, own := carry.Over(p, 0, 1, r), carry.Own(p, 0, 1)
	r.Path[0], p.Nodes[0].AS, p.Dests[0].Origins[0] = 12, 13, 2
	if !same(over, path(7, 10, 11)) || !same(own, path()) {
		t.Error("answers changed with what was handed in:", over, own)
	}
	if got := carry.Over(p, 0, 1, r); !same(got, path(13, 12, 11)) {
		t.Error("the changes are not seen:", got)
	}
	if a, b := carry.Own(p, 0, 1), carry.Own(p, 0, 2); !same(a, none) || !same(b, path()) {
		t.Error("the change of the origins is not seen:", a, b)
	}
}

func TestR4TheSameAgain(t *testing.T) {
	all := nets()
	for range 2 {
		for _, p := range all {
			for _, r := range []api.Route{none, vector(0), vector(9), path(), path(100, 8), path(9)} {
				checkRoute(t, p, r)
				callAll(api.Plan{}, 0, 0, 0, r)
			}
		}
		slices.Reverse(all)
	}
	// What does not speak of routes makes no difference.
	for _, p := range nets() {
		q := p
		q.K, q.Checks = 0, nil
		for _, r := range []api.Route{vector(1), path(100), path()} {
			for node := range p.Nodes {
				for link := range p.Links {
					if !same(carry.Over(p, link, node, r), carry.Over(q, link, node, r)) || carry.Fits(p, node, r) != carry.Fits(q, node, r) {
						t.Fatalf("%+v over %d at %d: unlike by what does not matter", r, link, node)
					}
				}
			}
		}
	}
}

// FuzzR1 takes a network's and a route's numbers from bytes.
func FuzzR1(f *testing.F) {
	f.Add([]byte("\x00\x03\x07\x08\x09\x02\x00\x01\x03\x00\x02\x0f\x01\x01\x00"), 0, 0, 0)
	f.Add([]byte("\x03\x03\x07\x08\x07\x02\x00\x01\x03\x01\x02\x0f\x02\x00\x02\x09\x0a"), 0, 0, 1)
	f.Add([]byte("\x0c\x02\x01\x01\x01\x00\x01\x01\x02\x00\x00"), 0, -1, 1)
	f.Add([]byte{}, math.MinInt, math.MaxInt, -1)
	f.Fuzz(func(t *testing.T, b []byte, link, dest, node int) {
		next := func() int {
			if len(b) == 0 {
				return 0
			}
			n := int(int8(b[0]))
			b = b[1:]
			return n
		}
		p := net(next())
		for range min(max(next(), 0), 13) {
			p.Nodes = append(p.Nodes, api.Node{Name: fmt.Sprint("n", len(p.Nodes)), AS: next()})
		}
		for range min(max(next(), 0), 17) {
			p.Links = append(p.Links, api.Link{A: next(), B: next(), Cost: next()})
		}
		r := api.Route{Kind: next(), Cost: next()}
		for range min(max(next(), 0), 14) {
			r.Path = append(r.Path, next())
		}
		for range min(len(b), 5) {
			p = serving(p, []int{next()})
		}
		if !plan.Right(p) {
			checkNothing(t, p, link, dest, node, r)
			return
		}
		checkRoute(t, p, r)
		checkOver(t, p, link, node, r)
		checkOwn(t, p, dest, node)
	})
}
