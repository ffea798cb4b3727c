package graph_test

import (
	"fmt"
	"math"
	"math/rand"
	"reflect"
	"slices"
	"testing"

	"backstay/api"
	"backstay/graph"
	"backstay/plan"
)

// far are numbers that are neither nodes nor links of any network, among them such as wrap to those that are.
var far = []int{
	math.MinInt, math.MinInt + 1, math.MinInt32, -65536, -17, -16, -13, -12, -2, -1,
	12, 13, 16, 17, 31, 32, 63, 64, 65, 256, 65535, 65536, math.MaxInt32, math.MaxUint32, math.MaxUint32 + 1, math.MaxUint32 + 2, math.MaxInt - 1, math.MaxInt,
}

// net is a network of so many nodes, with links between these.
func net(nodes int, ends ...[2]int) api.Plan {
	p := api.Plan{Proto: api.ProtoVector}
	for i := range nodes {
		p.Nodes = append(p.Nodes, api.Node{Name: fmt.Sprint("n", i), AS: 1 + i%3})
	}
	for i, e := range ends {
		p.Links = append(p.Links, api.Link{A: min(e[0], e[1]), B: max(e[0], e[1]), Cost: 1 + i%15})
	}
	return p
}

func chain(nodes int) api.Plan {
	var ends [][2]int
	for i := 1; i < nodes; i++ {
		ends = append(ends, [2]int{i - 1, i})
	}
	return net(nodes, ends...)
}

func ring(nodes int) api.Plan {
	p := chain(nodes)
	p.Links = append(p.Links, api.Link{A: 0, B: nodes - 1, Cost: 1})
	return p
}

func star(nodes, middle int) api.Plan {
	var ends [][2]int
	for i := range nodes {
		if i != middle {
			ends = append(ends, [2]int{i, middle})
		}
	}
	return net(nodes, ends...)
}

// tree is one in which each node but 0 hangs on a lesser one.
func tree(ups ...int) api.Plan {
	var ends [][2]int
	for i, up := range ups {
		ends = append(ends, [2]int{up, i + 1})
	}
	return net(len(ups)+1, ends...)
}

func full(nodes int) api.Plan {
	var ends [][2]int
	for b := range nodes {
		for a := range b {
			ends = append(ends, [2]int{a, b})
		}
	}
	return net(nodes, ends...)
}

// backwards is a network with its links in the order from behind.
func backwards(p api.Plan) api.Plan {
	p.Links = slices.Clone(p.Links)
	slices.Reverse(p.Links)
	return p
}

// mixed is a network whose nodes and links have other places, by chance.
func mixed(p api.Plan, chance *rand.Rand) api.Plan {
	place := chance.Perm(len(p.Nodes))
	p.Links = slices.Clone(p.Links)
	for i, l := range p.Links {
		p.Links[i].A, p.Links[i].B = min(place[l.A], place[l.B]), max(place[l.A], place[l.B])
	}
	chance.Shuffle(len(p.Links), func(i, j int) { p.Links[i], p.Links[j] = p.Links[j], p.Links[i] })
	return p
}

// small are networks so small that every set of failed links can be met.
func small() []api.Plan {
	nets := []api.Plan{
		net(1), net(2), net(5), net(12),
		net(3, [2]int{0, 2}), net(4, [2]int{1, 2}),
		// Nodes that no link reaches, at the beginning, within, and at the end.
		net(6, [2]int{1, 2}, [2]int{2, 4}, [2]int{1, 4}),
		// Two rings apart, and two that share a node, or a link, or are joined by one.
		net(7, [2]int{0, 2}, [2]int{2, 4}, [2]int{0, 4}, [2]int{1, 3}, [2]int{3, 5}, [2]int{1, 5}),
		net(5, [2]int{0, 1}, [2]int{1, 2}, [2]int{0, 2}, [2]int{2, 3}, [2]int{3, 4}, [2]int{2, 4}),
		net(6, [2]int{0, 1}, [2]int{1, 2}, [2]int{2, 3}, [2]int{0, 3}, [2]int{2, 4}, [2]int{4, 5}, [2]int{3, 5}),
		net(6, [2]int{0, 1}, [2]int{1, 2}, [2]int{0, 2}, [2]int{2, 3}, [2]int{3, 4}, [2]int{4, 5}, [2]int{3, 5}),
		// A ring with a short cut: the way about is longer.
		net(7, [2]int{0, 1}, [2]int{1, 2}, [2]int{2, 3}, [2]int{3, 4}, [2]int{4, 5}, [2]int{5, 6}, [2]int{0, 6}, [2]int{0, 4}),
		// Each of two with each of three.
		net(5, [2]int{0, 2}, [2]int{0, 3}, [2]int{0, 4}, [2]int{1, 2}, [2]int{1, 3}, [2]int{1, 4}),
		tree(0, 0, 1, 1, 2, 2), tree(0, 0, 1, 0, 4, 5, 4), tree(0, 1, 1, 1, 4, 4), full(4), full(5),
	}
	for n := 2; n <= 9; n++ {
		nets = append(nets, chain(n), star(n, 0), star(n, n-1), star(n, n/2))
		if n > 2 {
			nets = append(nets, ring(n))
		}
	}
	chance := rand.New(rand.NewSource(5))
	for _, p := range slices.Clone(nets) {
		nets = append(nets, backwards(p), mixed(p, chance))
	}
	return nets
}

// great are the greatest networks that may be, by nodes, by links, or by both.
func great() []api.Plan {
	// A ring of twelve, with four links across.
	wheel := ring(12)
	for i := range 4 {
		wheel.Links = append(wheel.Links, api.Link{A: i, B: i + 6, Cost: 15})
	}
	dense := full(6)
	dense.Nodes = append(dense.Nodes, api.Node{Name: "last", AS: 65535})
	dense.Links = append(dense.Links, api.Link{A: 5, B: 6, Cost: 15})
	fields := chain(12)
	for i := range 5 {
		fields.Links = append(fields.Links, api.Link{A: 2 * i, B: 2*i + 2, Cost: 1})
	}
	all := ring(12)
	all.Proto, all.Cap, all.K = api.ProtoPath, 12, 4
	all.Dests = []api.Dest{{Name: "x", Origins: []int{0, 11}}, {Name: "y", Origins: []int{3}}}
	all.Checks = []api.Check{{Kind: 1, Node: 5}, {Kind: 2, Node: 1, Limit: 65535}, {Kind: 3, Node: 2, Dest: 1, Other: 11}, {Kind: 4, Node: 2, Other: 3}}
	return []api.Plan{wheel, dense, fields, all, chain(12), star(12, 5), full(6)}
}

// slow is what is so of a network and a set, by reckonings that go through all nodes again and again.
type slow struct {
	p      api.Plan
	fails  []bool
	hops   [][]int
	around [][]int
	cuts   []int
}

// failsIn reads a set as sixteen digits of two.
func failsIn(f int, links int) []bool {
	digits := fmt.Sprintf("%016b", uint16(f))
	fails := make([]bool, links)
	for link := range fails {
		fails[link] = digits[15-link] == '1'
	}
	return fails
}

// slowHops takes every node in turn as one by which all others may go.
func slowHops(p api.Plan, fails []bool) [][]int {
	const none = 1000
	hops := make([][]int, len(p.Nodes))
	for i := range hops {
		hops[i] = slices.Repeat([]int{none}, len(p.Nodes))
		hops[i][i] = 0
	}
	for link, l := range p.Links {
		if !fails[link] {
			hops[l.A][l.B], hops[l.B][l.A] = 1, 1
		}
	}
	for by := range hops {
		for from := range hops {
			for to := range hops {
				hops[from][to] = min(hops[from][to], hops[from][by]+hops[by][to])
			}
		}
	}
	for from := range hops {
		for to := range hops {
			if hops[from][to] >= none {
				hops[from][to] = -1
			}
		}
	}
	return hops
}

func slowly(p api.Plan, f int) slow {
	s := slow{p: p, fails: failsIn(f, len(p.Links)), around: make([][]int, len(p.Nodes))}
	s.hops = slowHops(p, s.fails)
	for link, l := range p.Links {
		if s.fails[link] {
			continue
		}
		s.around[l.A], s.around[l.B] = append(s.around[l.A], link), append(s.around[l.B], link)
		without := slices.Clone(s.fails)
		without[link] = true
		if slowHops(p, without)[l.A][l.B] < 0 {
			s.cuts = append(s.cuts, link)
		}
	}
	return s
}

// reach are the nodes that have hops from one.
func (s slow) reach(node int) []int {
	var nodes []int
	for to, hops := range s.hops[node] {
		if hops >= 0 {
			nodes = append(nodes, to)
		}
	}
	return nodes
}

// slowOther is the other end of a link that the network has.
func slowOther(p api.Plan, link, node int) int {
	ends := []int{p.Links[link].A, p.Links[link].B}
	at := slices.Index(ends, node)
	if at < 0 {
		return -1
	}
	return ends[1-at]
}

// checkOne holds all calls on a network that may be, and a set, against the slow reckoning.
func checkOne(t *testing.T, p api.Plan, f int) {
	t.Helper()
	s := slowly(p, f)
	for node := range p.Nodes {
		if got := graph.Around(p, f, node); !slices.Equal(got, s.around[node]) {
			t.Fatalf("Around(%v, %d, %d) = %v, not %v", p.Links, f, node, got, s.around[node])
		}
		if got := graph.Reach(p, f, node); !slices.Equal(got, s.reach(node)) {
			t.Fatalf("Reach(%v, %d, %d) = %v, not %v", p.Links, f, node, got, s.reach(node))
		}
		for to := range p.Nodes {
			if got := graph.Hops(p, f, node, to); got != s.hops[node][to] {
				t.Fatalf("Hops(%v, %d, %d, %d) = %d, not %d", p.Links, f, node, to, got, s.hops[node][to])
			}
		}
	}
	if got := graph.Cuts(p, f); !slices.Equal(got, s.cuts) {
		t.Fatalf("Cuts(%v, %d) = %v, not %v", p.Links, f, got, s.cuts)
	}
}

// checkOthers holds the other ends of all links at all nodes against the slow reckoning.
func checkOthers(t *testing.T, p api.Plan) {
	t.Helper()
	for link := range p.Links {
		for node := range p.Nodes {
			if got, want := graph.Other(p, link, node), slowOther(p, link, node); got != want {
				t.Fatalf("Other(%v, %d, %d) = %d, not %d", p.Links, link, node, got, want)
			}
		}
	}
}

// checkNothing holds that of a network that may not be nothing is told.
func checkNothing(t *testing.T, p api.Plan, f, node, other int) {
	t.Helper()
	if a, r, c := graph.Around(p, f, node), graph.Reach(p, f, node), graph.Cuts(p, f); len(a)+len(r)+len(c) > 0 {
		t.Fatalf("of %+v, %d, %d there is told %v, %v, %v", p, f, node, a, r, c)
	}
	if o, h := graph.Other(p, other, node), graph.Hops(p, f, node, other); o != -1 || h != -1 {
		t.Fatalf("of %+v, %d, %d, %d there is told %d, %d", p, f, node, other, o, h)
	}
}

// house is a ring of four with a node on top of one side, one that hangs on that, and one alone: the links are told here in order.
func house() api.Plan {
	return net(7, [2]int{0, 1}, [2]int{1, 2}, [2]int{2, 3}, [2]int{0, 3}, [2]int{2, 4}, [2]int{3, 4}, [2]int{4, 5})
}

func TestG1Around(t *testing.T) {
	p := house()
	for _, c := range []struct {
		f, node int
		want    []int
	}{
		{0, 0, []int{0, 3}}, {0, 1, []int{0, 1}}, {0, 2, []int{1, 2, 4}}, {0, 3, []int{2, 3, 5}},
		{0, 4, []int{4, 5, 6}}, {0, 5, []int{6}}, {0, 6, nil},
		{1, 0, []int{3}}, {8, 0, []int{0}}, {9, 0, nil}, {1 << 5, 3, []int{2, 3}}, {1<<2 | 1<<3, 3, []int{5}},
		{1 << 6, 5, nil}, {1 << 6, 4, []int{4, 5}}, {0x7f, 2, nil}, {-1, 2, nil}, {-1 << 16, 2, []int{1, 2, 4}}, {1 << 7, 4, []int{4, 5, 6}},
	} {
		if got := graph.Around(p, c.f, c.node); !slices.Equal(got, c.want) {
			t.Errorf("Around(%d, %d) = %v, not %v", c.f, c.node, got, c.want)
		}
	}
}

func TestG1Other(t *testing.T) {
	p := house()
	ends := [][2]int{{0, 1}, {1, 2}, {2, 3}, {0, 3}, {2, 4}, {3, 4}, {4, 5}}
	for link, e := range ends {
		for node := range 7 {
			want := -1
			if node == e[0] {
				want = e[1]
			} else if node == e[1] {
				want = e[0]
			}
			if got := graph.Other(p, link, node); got != want {
				t.Errorf("Other(%d, %d) = %d, not %d", link, node, got, want)
			}
		}
	}
}

func TestG2Reach(t *testing.T) {
	p := house()
	for _, c := range []struct {
		f, node int
		want    []int
	}{
		{0, 0, []int{0, 1, 2, 3, 4, 5}}, {0, 5, []int{0, 1, 2, 3, 4, 5}}, {0, 6, []int{6}},
		{1 << 6, 5, []int{5}}, {1 << 6, 2, []int{0, 1, 2, 3, 4}},
		{1 | 1<<1, 1, []int{1}}, {1<<1 | 1<<3, 0, []int{0, 1}}, {1<<1 | 1<<3, 5, []int{2, 3, 4, 5}},
		{1 | 1<<2 | 1<<4, 2, []int{1, 2}}, {1 | 1<<2 | 1<<4, 4, []int{0, 3, 4, 5}}, {-1, 4, []int{4}}, {-1 << 7, 1, []int{0, 1, 2, 3, 4, 5}},
	} {
		if got := graph.Reach(p, c.f, c.node); !slices.Equal(got, c.want) {
			t.Errorf("Reach(%d, %d) = %v, not %v", c.f, c.node, got, c.want)
		}
	}
}

func TestG2Hops(t *testing.T) {
	p := house()
	for _, c := range []struct{ f, from, to, want int }{
		{0, 0, 0, 0}, {0, 6, 6, 0}, {-1, 6, 6, 0}, {-1, 3, 3, 0}, {0, 0, 1, 1}, {0, 1, 0, 1}, {0, 0, 2, 2}, {0, 0, 5, 3}, {0, 5, 1, 3},
		{0, 0, 6, -1}, {0, 6, 0, -1}, {1 << 3, 0, 3, 3}, {1 << 3, 0, 5, 4}, {1<<3 | 1<<4, 0, 5, 5}, {1<<3 | 1<<4, 5, 0, 5},
		{1 << 6, 4, 5, -1}, {1<<1 | 1<<3, 0, 3, -1}, {1 << 16, 0, 3, 1}, {1 << 15, 0, 3, 1}, {-1, 0, 1, -1},
	} {
		if got := graph.Hops(p, c.f, c.from, c.to); got != c.want {
			t.Errorf("Hops(%d, %d, %d) = %d, not %d", c.f, c.from, c.to, got, c.want)
		}
	}
	// Costs do not matter: a way of one dear link is shorter than one of two cheap ones.
	dear := net(3, [2]int{0, 1}, [2]int{1, 2}, [2]int{0, 2})
	dear.Links[2].Cost = 15
	if got := graph.Hops(dear, 0, 0, 2); got != 1 {
		t.Error("a dear link:", got)
	}
	// The longest way that there may be.
	if got := graph.Hops(chain(12), 0, 0, 11); got != 11 {
		t.Error("a chain of twelve:", got)
	}
	if a, b := graph.Hops(ring(12), 0, 0, 11), graph.Hops(ring(12), 1<<11, 0, 11); a != 1 || b != 11 {
		t.Error("a ring of twelve:", a, b)
	}
}

func TestG3Cuts(t *testing.T) {
	p := house()
	for _, c := range []struct {
		f    int
		want []int
	}{
		{0, []int{6}}, {1, []int{1, 3, 6}}, {1 << 2, []int{6}}, {1 << 4, []int{5, 6}}, {1 << 6, nil}, {1 | 1<<4, []int{1, 2, 3, 5, 6}},
		{1<<1 | 1<<3, []int{0, 6}}, {-1, nil}, {0x7f, nil}, {0x7e, []int{0}}, {0x3f, []int{6}}, {1 << 16, []int{6}}, {-1 << 16, []int{6}}, {1 << 7, []int{6}},
	} {
		if got := graph.Cuts(p, c.f); !slices.Equal(got, c.want) {
			t.Errorf("Cuts(%d) = %v, not %v", c.f, got, c.want)
		}
	}
	// Each link of a chain, of a star and of a tree is one; none of a ring, or of what is full.
	all := []int{0, 1, 2, 3, 4, 5}
	for _, p := range []api.Plan{chain(7), star(7, 3), tree(0, 0, 1, 1, 2, 2)} {
		if got := graph.Cuts(p, 0); !slices.Equal(got, all) {
			t.Errorf("Cuts of %v: %v", p.Links, got)
		}
	}
	for _, p := range []api.Plan{ring(3), ring(12), full(4), full(6), net(5)} {
		if got := graph.Cuts(p, 0); len(got) > 0 {
			t.Errorf("Cuts of %v: %v", p.Links, got)
		}
	}
}

func TestG1ToG3EverySet(t *testing.T) {
	for _, p := range small() {
		if !plan.Right(p) {
			t.Fatalf("%+v may not be", p)
		}
		checkOthers(t, p)
		for f := range 1 << len(p.Links) {
			checkOne(t, p, f)
		}
	}
}

func TestG1ToG3GreatNetworks(t *testing.T) {
	chance := rand.New(rand.NewSource(6))
	for _, p := range great() {
		if !plan.Right(p) {
			t.Fatalf("%+v may not be", p)
		}
		for range 8 {
			checkOthers(t, p)
			checkOne(t, p, 0)
			for range 150 {
				checkOne(t, p, chance.Intn(1<<16)&chance.Intn(1<<16))
			}
			for link := range p.Links {
				checkOne(t, p, 1<<link)
				checkOne(t, p, 0xffff&^(1<<link))
			}
			p = mixed(p, chance)
		}
	}
}

// TestG1ToG3OtherBits has sets with links that the network has not, and with bits beyond the lowest sixteen.
func TestG1ToG3OtherBits(t *testing.T) {
	for _, p := range []api.Plan{house(), net(1), chain(2), ring(4), full(4)} {
		has := 1<<len(p.Links) - 1
		for f := range has + 1 {
			if f > 40 && f%3 > 0 {
				continue
			}
			for _, more := range []int{
				0xffff &^ has, 1 << len(p.Links), 1 << 15, 1 << 16, 1 << 17, 1 << 31, 1 << 32, 1<<32 + 1<<16, 1 << 62, math.MinInt, -1 << 16, -1 << 17, ^has, math.MaxInt &^ has,
			} {
				checkOne(t, p, f|more)
			}
		}
	}
	// Sixteen links are all that there may be: bit 15 counts, and bit 16 does not.
	p := great()[0]
	for _, f := range []int{1 << 15, 1 << 16, 1<<15 | 1<<16, 1<<16 | 1, -1 << 15, -1 << 16, -1, -2, math.MinInt, math.MaxInt, math.MinInt | 1<<15} {
		checkOne(t, p, f)
	}
}

// numbersBeyond are what is no place in a list that is so long.
func numbersBeyond(count int) []int {
	var beyond []int
	for _, n := range append([]int{count, count + 1, -count}, far...) {
		if n < 0 || n >= count {
			beyond = append(beyond, n)
		}
	}
	return beyond
}

func TestG1NoSuchNodeOrLink(t *testing.T) {
	for _, p := range append(great(), house(), net(1), chain(3), full(4)) {
		for _, node := range numbersBeyond(len(p.Nodes)) {
			for _, f := range []int{0, 1, -1, 1 << 16, math.MinInt} {
				if got := graph.Around(p, f, node); len(got) > 0 {
					t.Errorf("Around(%v, %d, %d) = %v", p.Links, f, node, got)
				}
			}
			for link := range p.Links {
				if got := graph.Other(p, link, node); got != -1 {
					t.Errorf("Other(%v, %d, %d) = %d", p.Links, link, node, got)
				}
			}
		}
		for _, link := range numbersBeyond(len(p.Links)) {
			for _, node := range append(far, 0, 1, 2, 3, len(p.Nodes)-1, len(p.Nodes)) {
				if got := graph.Other(p, link, node); got != -1 {
					t.Errorf("Other(%v, %d, %d) = %d", p.Links, link, node, got)
				}
			}
		}
	}
}

func TestG2NoSuchNode(t *testing.T) {
	for _, p := range append(great(), house(), net(1), chain(3), full(4)) {
		for _, node := range numbersBeyond(len(p.Nodes)) {
			for _, f := range []int{0, 1, -1, 1 << 16, math.MinInt} {
				if got := graph.Reach(p, f, node); len(got) > 0 {
					t.Errorf("Reach(%v, %d, %d) = %v", p.Links, f, node, got)
				}
				// No number is joined with itself, if it is no node.
				for _, other := range []int{node, 0, len(p.Nodes) - 1, len(p.Nodes), -1, 12} {
					if a, b := graph.Hops(p, f, node, other), graph.Hops(p, f, other, node); a != -1 || b != -1 {
						t.Errorf("Hops(%v, %d) between %d and %d: %d, %d", p.Links, f, node, other, a, b)
					}
				}
			}
		}
	}
}

// wrongNets are networks that may not be, most of them for one reason alone.
func wrongNets() map[string]api.Plan {
	wrongs := map[string]func(p *api.Plan){
		"no protocol":             func(p *api.Plan) { p.Proto = 0 },
		"a third protocol":        func(p *api.Plan) { p.Proto = 3 },
		"a cap":                   func(p *api.Plan) { p.Cap = 1 },
		"no cap":                  func(p *api.Plan) { p.Proto = 2 },
		"a cap too great":         func(p *api.Plan) { p.Proto, p.Cap = 2, 13 },
		"failures below 0":        func(p *api.Plan) { p.K = -1 },
		"too many failures":       func(p *api.Plan) { p.K = 5 },
		"more failures than so":   func(p *api.Plan) { p.Links, p.K = p.Links[:2], 3 },
		"no nodes":                func(p *api.Plan) { p.Nodes, p.Links, p.Dests, p.Checks = nil, nil, nil, nil },
		"no nodes, but links":     func(p *api.Plan) { p.Nodes = nil },
		"fewer nodes than links":  func(p *api.Plan) { p.Nodes = p.Nodes[:2] },
		"too many nodes":          func(p *api.Plan) { p.Nodes = net(13).Nodes },
		"far too many nodes":      func(p *api.Plan) { p.Nodes = net(100000).Nodes },
		"no name":                 func(p *api.Plan) { p.Nodes[3].Name = "" },
		"a keyword":               func(p *api.Plan) { p.Nodes[3].Name = "link" },
		"a name twice":            func(p *api.Plan) { p.Nodes[3].Name = "n0" },
		"no AS":                   func(p *api.Plan) { p.Nodes[6].AS = 0 },
		"an AS too great":         func(p *api.Plan) { p.Nodes[6].AS = 65536 },
		"a link to itself":        func(p *api.Plan) { p.Links[2].A = p.Links[2].B },
		"ends the wrong way":      func(p *api.Plan) { p.Links[2] = api.Link{A: 3, B: 2, Cost: 1} },
		"an end below 0":          func(p *api.Plan) { p.Links[2].A = -1 },
		"an end too great":        func(p *api.Plan) { p.Links[6].B = 7 },
		"an end far too great":    func(p *api.Plan) { p.Links[6].B = math.MaxInt },
		"an end that is not kept": func(p *api.Plan) { p.Links[6].B = 12 },
		"a link twice":            func(p *api.Plan) { p.Links[5].A, p.Links[5].B = p.Links[0].A, p.Links[0].B },
		"no cost":                 func(p *api.Plan) { p.Links[0].Cost = 0 },
		"a cost too great":        func(p *api.Plan) { p.Links[0].Cost = 16 },
		"too many links":          func(p *api.Plan) { *p = full(7); p.Links = p.Links[:17] },
		"far too many links":      func(p *api.Plan) { *p = full(12) },
		"a node as a destination": func(p *api.Plan) { p.Dests[0].Name = "n1" },
		"no origins":              func(p *api.Plan) { p.Dests[0].Origins = nil },
		"an origin too great":     func(p *api.Plan) { p.Dests[0].Origins[1] = 7 },
		"origins that fall":       func(p *api.Plan) { p.Dests[0].Origins = []int{1, 0} },
		"too many destinations":   func(p *api.Plan) { p.Dests = make([]api.Dest, 5) },
		"a check of no kind":      func(p *api.Plan) { p.Checks[0].Kind = 0 },
		"a check of no node":      func(p *api.Plan) { p.Checks[0].Node = 7 },
		"a check of no dest":      func(p *api.Plan) { p.Checks[0].Dest = 1 },
		"too many checks":         func(p *api.Plan) { p.Checks = slices.Repeat(p.Checks, 17) },
	}
	nets := map[string]api.Plan{"nothing": {}}
	for name, wrong := range wrongs {
		p := checkedHouse()
		wrong(&p)
		nets[name] = p
	}
	return nets
}

// checkedHouse is the house with a destination and a check.
func checkedHouse() api.Plan {
	p := house()
	p.K = 2
	p.Dests = []api.Dest{{Name: "x", Origins: []int{0, 2}}}
	p.Checks = []api.Check{{Kind: api.CheckReach, Node: 5}}
	return p
}

func TestWrongNetworksTellNothing(t *testing.T) {
	checkOne(t, checkedHouse(), 0)
	for name, p := range wrongNets() {
		t.Run(name, func(t *testing.T) {
			if plan.Right(p) {
				t.Fatal("it may be")
			}
			for _, f := range []int{0, 1, 0x7f, 1 << 16, -1} {
				for _, node := range append(far, 0, 1, 2, 3, 4, 5, 6, 7) {
					for _, other := range []int{-1, 0, 1, 2, 5, 6, 7, 16, node} {
						checkNothing(t, p, f, node, other)
					}
				}
			}
		})
	}
}

// TestG4Theorem holds what follows of the promises, on answers alone, without a reckoning beside them.
func TestG4Theorem(t *testing.T) {
	for _, p := range small() {
		if len(p.Links) > 8 {
			continue
		}
		var hops [][][]int
		for f := range 1 << len(p.Links) {
			hops = append(hops, allHops(p, f))
			checkDistances(t, p, f, hops[f])
			checkCuts(t, p, f, hops[f])
		}
		// With one link more failed, and so with any more.
		for f := range hops {
			for link := range p.Links {
				checkNoNearer(t, hops[f], hops[f|1<<link])
			}
		}
	}
}

func allHops(p api.Plan, f int) [][]int {
	hops := make([][]int, len(p.Nodes))
	for a := range p.Nodes {
		for b := range p.Nodes {
			hops[a] = append(hops[a], graph.Hops(p, f, a, b))
		}
	}
	return hops
}

func checkDistances(t *testing.T, p api.Plan, f int, hops [][]int) {
	t.Helper()
	for a := range hops {
		reach := graph.Reach(p, f, a)
		if !slices.IsSorted(reach) || !slices.Contains(reach, a) || hops[a][a] != 0 {
			t.Fatalf("%v, %d: from %d on %v", p.Links, f, a, reach)
		}
		for b := range hops {
			joined := hops[a][b] >= 0
			if joined != slices.Contains(reach, b) || hops[a][b] != hops[b][a] || (hops[a][b] == 0) != (a == b) {
				t.Fatalf("%v, %d: from %d to %d and back", p.Links, f, a, b)
			}
			if joined && !slices.Equal(reach, graph.Reach(p, f, b)) {
				t.Fatalf("%v, %d: %d and %d are joined, and not with the same", p.Links, f, a, b)
			}
			for c := range hops {
				if joined && hops[b][c] >= 0 && (hops[a][c] < 0 || hops[a][c] > hops[a][b]+hops[b][c]) {
					t.Fatalf("%v, %d: from %d by %d to %d", p.Links, f, a, b, c)
				}
			}
		}
		for _, link := range graph.Around(p, f, a) {
			if hops[a][graph.Other(p, link, a)] != 1 {
				t.Fatalf("%v, %d: %d is not beside %d's other end", p.Links, f, a, link)
			}
		}
	}
}

func checkCuts(t *testing.T, p api.Plan, f int, hops [][]int) {
	t.Helper()
	cuts := graph.Cuts(p, f)
	if !slices.IsSorted(cuts) {
		t.Fatalf("%v, %d: cuts %v", p.Links, f, cuts)
	}
	for link, l := range p.Links {
		stands := f>>link&1 == 0
		alone := stands && hops[l.A][l.B] >= 0 && graph.Hops(p, f|1<<link, l.A, l.B) < 0
		if alone != slices.Contains(cuts, link) {
			t.Fatalf("%v, %d: cuts %v, and link %d", p.Links, f, cuts, link)
		}
	}
}

func checkNoNearer(t *testing.T, fewer, more [][]int) {
	t.Helper()
	for a := range fewer {
		for b := range fewer {
			if more[a][b] >= 0 && (fewer[a][b] < 0 || fewer[a][b] > more[a][b]) {
				t.Fatalf("with more failed from %d to %d: %d, ahead %d", a, b, more[a][b], fewer[a][b])
			}
		}
	}
}

// withSpare puts marks behind the length of each list.
func withSpare(p api.Plan) api.Plan {
	p.Nodes = append(slices.Clone(p.Nodes), api.Node{Name: "spare", AS: -7})[:len(p.Nodes)]
	p.Links = append(slices.Clone(p.Links), api.Link{A: 0, B: 1, Cost: -7})[:len(p.Links)]
	p.Dests = append(slices.Clone(p.Dests), api.Dest{Name: "spare"})[:len(p.Dests)]
	for i, d := range p.Dests {
		p.Dests[i].Origins = append(slices.Clone(d.Origins), -7)[:len(d.Origins)]
	}
	p.Checks = append(slices.Clone(p.Checks), api.Check{Kind: -7})[:len(p.Checks)]
	return p
}

// whole is a copy of a network with all that stands behind its lists' lengths.
func whole(p api.Plan) api.Plan {
	p.Nodes, p.Links, p.Checks = slices.Clone(p.Nodes[:cap(p.Nodes)]), slices.Clone(p.Links[:cap(p.Links)]), slices.Clone(p.Checks[:cap(p.Checks)])
	p.Dests = slices.Clone(p.Dests[:cap(p.Dests)])
	for i, d := range p.Dests {
		p.Dests[i].Origins = slices.Clone(d.Origins[:cap(d.Origins)])
	}
	return p
}

func callAll(p api.Plan, f, node, link int) {
	graph.Around(p, f, node)
	graph.Other(p, link, node)
	graph.Reach(p, f, node)
	graph.Hops(p, f, node, link)
	graph.Cuts(p, f)
}

func TestR3LeavesNetworksAsTheyWere(t *testing.T) {
	nets := append(great(), checkedHouse(), net(1), chain(3))
	for _, p := range wrongNets() {
		nets = append(nets, p)
	}
	for _, p := range nets {
		p = withSpare(p)
		before := whole(p)
		for _, f := range []int{0, 1, 5, -1} {
			for _, n := range []int{-1, 0, 1, 2, 5, 11, 16} {
				callAll(p, f, n, n)
				callAll(p, f, n, 1)
			}
		}
		if !reflect.DeepEqual(whole(p), before) {
			t.Fatalf("%+v was %+v", whole(p), before)
		}
	}
}

// lists are what the calls answer that tell lists.
func lists(p api.Plan, f int) [][]int {
	var all [][]int
	for node := range p.Nodes {
		all = append(all, graph.Around(p, f, node), graph.Reach(p, f, node))
	}
	return append(all, graph.Cuts(p, f))
}

func TestR3AnswersAreNewMemory(t *testing.T) {
	for _, p := range []api.Plan{house(), chain(12), net(1), great()[0]} {
		before := whole(p)
		first, second := lists(p, 1), lists(p, 1)
		want := lists(p, 1)
		// Whoever owns one answer fills all its room and grows it.
		for i := range first {
			all := first[i][:cap(first[i])]
			for j := range all {
				all[j] = -99
			}
			first[i] = append(first[i], -98)
			if !reflect.DeepEqual(second, want) || !reflect.DeepEqual(first[i+1:], want[i+1:]) {
				t.Fatalf("%v: answer %d changed others", p.Links, i)
			}
		}
		if !reflect.DeepEqual(whole(p), before) || !reflect.DeepEqual(lists(p, 1), want) {
			t.Fatalf("%v: what was written into answers changed the network, or later answers", p.Links)
		}
	}
}

func TestR3KeepsNothing(t *testing.T) {
	p := house()
	reach, cuts := graph.Reach(p, 0, 0), graph.Cuts(p, 0)
	p.Links[6] = api.Link{A: 0, B: 6, Cost: 1}
	if !slices.Equal(reach, []int{0, 1, 2, 3, 4, 5}) || !slices.Equal(cuts, []int{6}) {
		t.Error("answers changed with the network:", reach, cuts)
	}
	if got := graph.Reach(p, 0, 0); !slices.Equal(got, []int{0, 1, 2, 3, 4, 6}) {
		t.Error("the network's change is not seen:", got)
	}
	checkOne(t, p, 0)
}

func TestR4TheSameAgain(t *testing.T) {
	nets := []api.Plan{house(), ring(4), net(2), great()[0]}
	for range 3 {
		for _, f := range []int{0, 3, -1, 1 << 16} {
			for _, p := range nets {
				checkOne(t, p, f)
				callAll(api.Plan{}, f, 0, 0)
			}
		}
	}
	// What does not speak of links makes no difference.
	for _, p := range nets {
		q := p
		q.Proto, q.Cap, q.K = api.ProtoPath, 3, min(1, len(p.Links))
		q.Dests, q.Checks = []api.Dest{{Name: "x", Origins: []int{1}}}, []api.Check{{Kind: 1}}
		for f := range 40 {
			if !reflect.DeepEqual(lists(p, f), lists(q, f)) || !reflect.DeepEqual(allHops(p, f), allHops(q, f)) {
				t.Fatalf("%v, %d: unlike by what does not matter", p.Links, f)
			}
		}
	}
}

// FuzzR1 takes a network's numbers, a set, and nodes and links from bytes.
func FuzzR1(f *testing.F) {
	f.Add([]byte("\x04\x00\x00\x00\x01\x01\x02\x02\x03\x00\x03"), 1, 0, 3)
	f.Add([]byte("\x0c\x01\x00\x01\x01\x02\x02\x03\x03\x04\x04\x05\x05\x06"), -1, 2, 6)
	f.Add([]byte{}, 0, 0, 0)
	f.Add([]byte("\x03\x04\x02\x01"), math.MinInt, -1, math.MaxInt)
	f.Fuzz(func(t *testing.T, b []byte, set, node, other int) {
		next := func() int {
			if len(b) == 0 {
				return 0
			}
			n := int(int8(b[0]))
			b = b[1:]
			return n
		}
		p := net(min(max(next(), 0), 20))
		p.K = next()
		for len(b) > 0 && len(p.Links) < 20 {
			p.Links = append(p.Links, api.Link{A: next(), B: next(), Cost: 1 + len(b)%15})
		}
		if !plan.Right(p) {
			checkNothing(t, p, set, node, other)
			return
		}
		checkOne(t, p, set)
		checkOthers(t, p)
		callAll(p, set, node, other)
	})
}
