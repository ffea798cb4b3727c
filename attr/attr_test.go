package attr_test

import (
	"fmt"
	"math"
	"math/rand"
	"reflect"
	"slices"
	"strings"
	"testing"

	"backstay/api"
	"backstay/attr"
)

// far are numbers that are no cost and no AS number, among them such as wrap to those that are.
var far = []int{
	math.MinInt, math.MinInt + 1, math.MinInt + 7, math.MinInt32, -1 << 32, 1 - 1<<32, -65537, -65536, -65535, -16, -15, -2, -1,
	65536, 65537, 65543, 1 << 17, math.MaxInt32, 1 << 31, math.MaxUint32, 1 << 32, 1<<32 + 1, 1<<32 + 7, math.MaxInt - 1, math.MaxInt,
}

// none is the route that is none.
var none = api.Route{}

func vector(cost int) api.Route { return api.Route{Kind: api.RouteVector, Cost: cost} }

func path(numbers ...int) api.Route { return api.Route{Kind: api.RoutePath, Path: numbers} }

// vectors are all that there are.
func vectors() []api.Route {
	var all []api.Route
	for cost := range 16 {
		all = append(all, vector(cost))
	}
	return all
}

// pathsOf are all paths of some numbers, none of them twice, that have at most so many.
func pathsOf(numbers []int, most int) []api.Route {
	all := []api.Route{path()}
	for at := 0; at < len(all); at++ {
		for _, n := range numbers {
			if begin := all[at].Path; len(begin) < most && !slices.Contains(begin, n) {
				all = append(all, path(append(slices.Clone(begin), n)...))
			}
		}
	}
	return all
}

// counted are the numbers from one on, each so far from the one ahead.
func counted(from, step, count int) []int {
	var numbers []int
	for i := range count {
		numbers = append(numbers, from+i*step)
	}
	return numbers
}

// alike are long paths that are unlike in few things: in the first number, in the last one, or in between.
func alike() []api.Route {
	var all []api.Route
	twelve := []int{7, 9, 10, 99, 100, 999, 1000, 9999, 10000, 65534, 65535, 1}
	for count := range 13 {
		all = append(all, path(slices.Clone(twelve[:count])...))
		for at := range count {
			for _, n := range []int{2, 8, 11, 65533} {
				one := slices.Clone(twelve[:count])
				one[at] = n
				all = append(all, path(one...))
			}
		}
	}
	for _, from := range []int{1, 9, 10, 100, 65524} {
		for _, count := range []int{1, 2, 11, 12} {
			all = append(all, path(counted(from, 1, count)...), path(counted(from+count-1, -1, count)...))
		}
	}
	return all
}

// byChance is a route that may be.
func byChance(chance *rand.Rand) api.Route {
	switch chance.Intn(6) {
	case 0:
		return none
	case 1:
		return vector(chance.Intn(16))
	}
	most := []int{12, 13, 101, 65535}[chance.Intn(4)]
	var numbers []int
	for range chance.Intn(13) {
		if n := 1 + chance.Intn(most); !slices.Contains(numbers, n) {
			numbers = append(numbers, n)
		}
	}
	return path(numbers...)
}

// unlike are the routes of a list, each once.
func unlike(l []api.Route) []api.Route {
	seen := map[string]bool{}
	var each []api.Route
	for _, r := range l {
		if key := slowKey(r); !seen[key] {
			seen[key] = true
			each = append(each, r)
		}
	}
	return each
}

// many are all vectors, none, and paths of each kind that matters, unlike each other.
func many() []api.Route {
	all := append(vectors(), none)
	all = append(all, pathsOf([]int{1, 2, 9, 10, 65535}, 3)...)
	all = append(all, alike()...)
	chance := rand.New(rand.NewSource(6))
	for range 200 {
		all = append(all, byChance(chance))
	}
	return unlike(all)
}

// slowKey is a text of a route that may be: the texts' own order is the routes' order.
func slowKey(r api.Route) string {
	switch r.Kind {
	case 0:
		return "C"
	case 1:
		return fmt.Sprintf("A%02d", r.Cost)
	}
	key := fmt.Sprintf("B%02d", len(r.Path))
	for _, n := range r.Path {
		key += fmt.Sprintf(" %05d", n)
	}
	return key
}

// slowRight holds a route's numbers against all that may be.
func slowRight(r api.Route) bool {
	costs, longest, kinds := 1, 0, []int{0, 1, 2}
	if !slices.Contains(kinds, r.Kind) {
		return false
	}
	if r.Kind == 1 {
		costs = 16
	}
	if r.Kind == 2 {
		longest = 12
	}
	if len(r.Path) > longest || !slices.Contains(counted(0, 1, costs), r.Cost) {
		return false
	}
	times := map[int]int{}
	for _, n := range r.Path {
		times[n]++
		if times[n] > 1 || n != int(uint16(n)) || n == 0 {
			return false
		}
	}
	return true
}

// slowPrint is a route's text, as Go's own printing tells lists.
func slowPrint(r api.Route) string {
	return []string{"-", fmt.Sprint(r.Cost), fmt.Sprint(append([]int{}, r.Path...))}[r.Kind]
}

func slowLength(r api.Route) int {
	return []int{-1, r.Cost, len(r.Path)}[r.Kind]
}

// checkOne holds what is told of a route that may be against the slow reckoning.
func checkOne(t *testing.T, r api.Route) {
	t.Helper()
	if !attr.Right(r) || !slowRight(r) {
		t.Fatalf("%+v may not be", r)
	}
	if got := attr.Print(r); got != slowPrint(r) {
		t.Fatalf("Print(%+v) = %q, not %q", r, got, slowPrint(r))
	}
	if got := attr.Length(r); got != slowLength(r) {
		t.Fatalf("Length(%+v) = %d, not %d", r, got, slowLength(r))
	}
	if got := attr.Best(r); !reflect.DeepEqual(plain(got), plain(r)) {
		t.Fatalf("Best(%+v) = %+v", r, got)
	}
}

// checkTwo holds what is told of two routes that may be against the slow reckoning.
func checkTwo(t *testing.T, a, b api.Route) {
	t.Helper()
	before, same := slowKey(a) < slowKey(b), slowKey(a) == slowKey(b)
	if got := attr.Better(a, b); got != before {
		t.Fatalf("Better(%+v, %+v) = %v", a, b, got)
	}
	if got := attr.Same(a, b); got != same {
		t.Fatalf("Same(%+v, %+v) = %v", a, b, got)
	}
	if got := attr.Print(a) == attr.Print(b); got != same {
		t.Fatalf("%+v and %+v: texts %q and %q", a, b, attr.Print(a), attr.Print(b))
	}
}

// checkBest holds the best of some routes that may be against the slow reckoning.
func checkBest(t *testing.T, l []api.Route) {
	t.Helper()
	want := none
	if len(l) > 0 {
		want = slices.MinFunc(l, func(a, b api.Route) int { return strings.Compare(slowKey(a), slowKey(b)) })
	}
	if got := attr.Best(l...); !reflect.DeepEqual(plain(got), plain(want)) {
		t.Fatalf("Best(%+v) = %+v, not %+v", l, got, want)
	}
}

// plain is a route without the difference between a list that is nil and one without elements.
func plain(r api.Route) api.Route {
	r.Path = append([]int{}, r.Path...)
	return r
}

// wrongOnes are routes that may not be, most of them for one reason alone.
func wrongOnes() map[string]api.Route {
	twelve := counted(1, 1, 12)
	wrongs := map[string]api.Route{
		"a third kind":                  {Kind: 3},
		"a third kind with all":         {Kind: 3, Cost: 1, Path: []int{1}},
		"a kind below 0":                {Kind: -1},
		"a kind that wraps to none":     {Kind: 1 << 32},
		"a kind that wraps to a vector": {Kind: 1<<32 + 1},
		"a kind that wraps to a path":   {Kind: 1<<32 + 2, Path: []int{1}},
		"the greatest kind":             {Kind: math.MaxInt},
		"the least kind":                {Kind: math.MinInt},
		"none with a cost":              {Cost: 1},
		"none with a cost below 0":      {Cost: -1},
		"none with the greatest cost":   {Cost: math.MaxInt},
		"none with a path":              {Path: []int{1}},
		"none with a path of nought":    {Path: []int{0}},
		"none with a long path":         {Path: twelve},
		"none with all":                 {Cost: 3, Path: []int{1}},
		"a vector of 16":                vector(16),
		"a vector with a path":          {Kind: 1, Path: []int{1}},
		"a vector with cost and path":   {Kind: 1, Cost: 3, Path: []int{1, 2}},
		"a path with a cost":            {Kind: 2, Cost: 1, Path: []int{1}},
		"a path with a cost below 0":    {Kind: 2, Cost: -1, Path: []int{1}},
		"an empty path with a cost":     {Kind: 2, Cost: 1},
		"a path of nought":              path(0),
		"a path with a nought behind":   path(1, 2, 0),
		"a path with a nought ahead":    path(0, 1, 2),
		"a number twice":                path(1, 1),
		"a number twice, apart":         path(1, 2, 1),
		"the last number twice":         path(3, 1, 2, 2),
		"the greatest number twice":     path(65535, 1, 65535),
		"all the same":                  path(slices.Repeat([]int{4}, 12)...),
		"the twelfth as the first":      path(append(counted(1, 1, 11), 1)...),
		"thirteen":                      path(counted(1, 1, 13)...),
		"thirteen, one twice":           path(append(counted(1, 1, 12), 1)...),
		"twenty":                        path(counted(1, 1, 20)...),
		"very many":                     path(counted(1, 1, 65535)...),
		"far too many, all the same":    path(slices.Repeat([]int{4}, 1<<20)...),
	}
	for _, n := range far {
		wrongs[fmt.Sprint("a vector of ", n)] = vector(n)
		wrongs[fmt.Sprint("a path of ", n)] = path(n)
		wrongs[fmt.Sprint("a path with ", n, " behind")] = path(append(counted(1, 1, 11), n)...)
		wrongs[fmt.Sprint("a path with the cost ", n)] = api.Route{Kind: 2, Cost: n, Path: []int{1}}
		wrongs[fmt.Sprint("none with the cost ", n)] = api.Route{Cost: n}
		wrongs[fmt.Sprint("the kind ", n)] = api.Route{Kind: n}
	}
	return wrongs
}

func TestO1RightOnes(t *testing.T) {
	for _, r := range append(many(), vectors()...) {
		if !attr.Right(r) {
			t.Errorf("%+v may be", r)
		}
	}
	for _, r := range []api.Route{
		none, {Path: []int{}}, {Path: []int{1}[:0]}, {Kind: 1, Path: []int{}}, {Kind: 1, Cost: 15, Path: []int{1}[:0]}, {Kind: 2}, {Kind: 2, Path: []int{}},
		path(1), path(65535), path(65535, 1), path(1, 2), path(2, 1), path(counted(1, 1, 12)...), path(counted(65535, -1, 12)...), path(counted(1, 5957, 12)...),
	} {
		if !attr.Right(r) {
			t.Errorf("%+v may be", r)
		}
	}
	// Every number that there may be.
	for n := 1; n <= 65535; n++ {
		if !attr.Right(path(n)) {
			t.Errorf("a path of %d may be", n)
		}
	}
}

func TestO1WrongOnes(t *testing.T) {
	for name, r := range wrongOnes() {
		if attr.Right(r) || slowRight(r) {
			t.Error("it may be:", name)
		}
	}
	// A number twice, at any two places.
	for second := range 12 {
		for first := range second {
			numbers := counted(20, 1, 12)
			numbers[second] = numbers[first]
			if attr.Right(path(numbers...)) || attr.Right(path(numbers[:second+1]...)) {
				t.Errorf("%v has a number twice", numbers)
			}
		}
	}
	// A number that may not be, at any place.
	for at := range 12 {
		for _, n := range append(far, 0) {
			numbers := counted(1, 1, 12)
			numbers[at] = n
			if attr.Right(path(numbers...)) {
				t.Errorf("%v has %d", numbers, n)
			}
		}
	}
}

// TestO1RightAgainstSlow puts all kinds, costs and paths together.
func TestO1RightAgainstSlow(t *testing.T) {
	paths := [][]int{nil, {}, {1}, {0}, {-1}, {65535}, {65536}, {1, 2}, {2, 2}, {1, 2, 1}, counted(1, 1, 12), counted(1, 1, 13), counted(0, 1, 12), counted(65524, 1, 12), counted(65525, 1, 12)}
	for kind := -3; kind <= 5; kind++ {
		for _, cost := range append(counted(-3, 1, 25), far...) {
			for _, p := range paths {
				r := api.Route{Kind: kind, Cost: cost, Path: p}
				if got := attr.Right(r); got != slowRight(r) {
					t.Errorf("Right(%+v) = %v", r, got)
				}
			}
		}
	}
}

func TestO1Same(t *testing.T) {
	for _, c := range []struct {
		a, b api.Route
		want bool
	}{
		{none, none, true}, {none, api.Route{Path: []int{}}, true}, {vector(3), api.Route{Kind: 1, Cost: 3, Path: []int{}}, true}, {path(), path([]int{}...), true},
		{path(), api.Route{Kind: 2, Path: []int{5, 6}[:0]}, true}, {path(1, 2), path(1, 2), true}, {path(1, 2), api.Route{Kind: 2, Path: []int{1, 2, 3}[:2]}, true},
		{none, vector(0), false}, {none, path(), false}, {vector(0), path(), false}, {vector(0), vector(1), false}, {vector(1), path(1), false}, {vector(2), path(1, 2), false},
		{path(), path(1), false}, {path(1), path(2), false}, {path(1, 2), path(2, 1), false}, {path(1, 2), path(1), false}, {path(1, 2), path(2), false}, {path(1, 2), path(1, 3), false},
		{path(1, 2), path(12), false}, {path(12, 3), path(1, 23), false}, {path(65535), path(1), false},
	} {
		if attr.Same(c.a, c.b) != c.want || attr.Same(c.b, c.a) != c.want {
			t.Errorf("Same(%+v, %+v) is not %v", c.a, c.b, c.want)
		}
	}
}

// rising are routes in their order.
var rising = []api.Route{
	{Kind: 1, Cost: 0}, {Kind: 1, Cost: 1}, {Kind: 1, Cost: 2}, {Kind: 1, Cost: 9}, {Kind: 1, Cost: 10}, {Kind: 1, Cost: 15},
	{Kind: 2}, {Kind: 2, Path: []int{1}}, {Kind: 2, Path: []int{9}}, {Kind: 2, Path: []int{10}}, {Kind: 2, Path: []int{65535}},
	{Kind: 2, Path: []int{1, 65535}}, {Kind: 2, Path: []int{7, 9}}, {Kind: 2, Path: []int{9, 7}}, {Kind: 2, Path: []int{9, 10}}, {Kind: 2, Path: []int{10, 9}}, {Kind: 2, Path: []int{65535, 1}},
	{Kind: 2, Path: []int{1, 2, 3}}, {Kind: 2, Path: []int{1, 2, 4}}, {Kind: 2, Path: []int{1, 3, 2}}, {Kind: 2, Path: []int{2, 1, 3}},
	{Kind: 2, Path: []int{1, 2, 3, 4, 5, 6, 7, 8, 9, 10, 11, 12}}, {Kind: 2, Path: []int{1, 2, 3, 4, 5, 6, 7, 8, 9, 10, 11, 13}}, {Kind: 2, Path: []int{2, 1, 3, 4, 5, 6, 7, 8, 9, 10, 11, 12}},
	{},
}

func TestO2Better(t *testing.T) {
	for i, a := range rising {
		for j, b := range rising {
			if got := attr.Better(a, b); got != (i < j) {
				t.Errorf("Better(%+v, %+v) = %v", a, b, got)
			}
		}
	}
}

func TestO1AndO2AgainstSlow(t *testing.T) {
	all := many()
	for _, a := range all {
		checkOne(t, a)
		for _, b := range all {
			checkTwo(t, a, b)
		}
		// A route that is the same, in memory of its own.
		checkTwo(t, a, plain(a))
	}
}

func TestO3Best(t *testing.T) {
	for _, c := range []struct {
		want api.Route
		of   []api.Route
	}{
		{none, nil}, {none, []api.Route{}}, {none, []api.Route{none}}, {none, []api.Route{none, none, none}},
		{vector(15), []api.Route{vector(15)}}, {path(), []api.Route{path()}}, {path(4, 5), []api.Route{path(4, 5)}},
		{vector(2), []api.Route{path(2), vector(3), path(1), vector(2)}}, {vector(0), []api.Route{none, vector(0), vector(0)}},
		{vector(15), []api.Route{path(), none, vector(15)}}, {path(65535), []api.Route{none, path(1, 2), path(65535)}},
		{path(9), []api.Route{path(7, 9), path(9), path(10), path(9, 7)}}, {path(7, 9), []api.Route{path(9, 7), path(7, 9), path(10, 1), path(7, 10)}},
		{path(1, 2, 3), []api.Route{path(1, 2, 4), path(1, 2, 3), path(1, 2, 3), path(1, 3, 2), none}},
		{path(2), []api.Route{none, path(2), none}}, {path(), []api.Route{path(1), path(), none}},
	} {
		if got := attr.Best(c.of...); !reflect.DeepEqual(plain(got), plain(c.want)) {
			t.Errorf("Best(%+v) = %+v, not %+v", c.of, got, c.want)
		}
	}
	// Of each end of the order the first one, forwards and backwards.
	for at := range rising {
		checkBest(t, rising[at:])
		backwards := slices.Clone(rising[at:])
		slices.Reverse(backwards)
		checkBest(t, backwards)
		checkBest(t, append(backwards, rising[at:]...))
		checkBest(t, slices.Repeat(rising[at:at+1], 5))
	}
}

func TestO3BestAgainstSlow(t *testing.T) {
	all := many()
	checkBest(t, all)
	chance := rand.New(rand.NewSource(7))
	for range 3000 {
		var l []api.Route
		for range chance.Intn(8) {
			l = append(l, all[chance.Intn(len(all))])
		}
		checkBest(t, l)
	}
	// Very many, of which the best one stands anywhere.
	for _, at := range []int{0, 1, 5000, 99999} {
		l := slices.Repeat([]api.Route{path(2, 1)}, 100000)
		l[at] = path(1, 2)
		checkBest(t, l)
	}
}

func TestO3Length(t *testing.T) {
	for _, c := range []struct {
		r    api.Route
		want int
	}{
		{none, -1}, {api.Route{Path: []int{}}, -1}, {vector(0), 0}, {vector(1), 1}, {vector(9), 9}, {vector(10), 10}, {vector(15), 15},
		{path(), 0}, {path(7), 1}, {path(65535), 1}, {path(65535, 1), 2}, {path(counted(5, 1, 11)...), 11}, {path(counted(5, 1, 12)...), 12},
	} {
		if got := attr.Length(c.r); got != c.want {
			t.Errorf("Length(%+v) = %d, not %d", c.r, got, c.want)
		}
	}
}

func TestO4Print(t *testing.T) {
	for _, c := range []struct {
		r    api.Route
		want string
	}{
		{none, "-"}, {api.Route{Path: []int{}}, "-"}, {vector(0), "0"}, {vector(7), "7"}, {vector(10), "10"}, {vector(15), "15"},
		{path(), "[]"}, {path([]int{}...), "[]"}, {path(7), "[7]"}, {path(7, 9), "[7 9]"}, {path(9, 7), "[9 7]"}, {path(10), "[10]"}, {path(1, 10, 100), "[1 10 100]"},
		{path(65535, 1), "[65535 1]"}, {path(65524, 65535), "[65524 65535]"}, {path(counted(1, 1, 12)...), "[1 2 3 4 5 6 7 8 9 10 11 12]"},
		{path(counted(65535, -1, 12)...), "[65535 65534 65533 65532 65531 65530 65529 65528 65527 65526 65525 65524]"},
	} {
		if got := attr.Print(c.r); got != c.want {
			t.Errorf("Print(%+v) = %q, not %q", c.r, got, c.want)
		}
	}
	for n := 1; n <= 65535; n++ {
		if got, want := attr.Print(path(n, 65536-n)), fmt.Sprintf("[%d %d]", n, 65536-n); n != 32768 && got != want {
			t.Errorf("%q, not %q", got, want)
		}
	}
}

// TestO5JustOneIsBetter holds the order's laws on answers alone, without a reckoning beside them.
func TestO5JustOneIsBetter(t *testing.T) {
	all := unlike(append(append(vectors(), none, path(65535), path(65535, 9), path(9, 65535)), pathsOf([]int{1, 9, 10}, 3)...))
	for i, a := range all {
		if attr.Better(a, a) || !attr.Same(a, a) {
			t.Errorf("%+v and itself", a)
		}
		for j, b := range all {
			if i != j && (attr.Better(a, b) == attr.Better(b, a) || attr.Same(a, b)) {
				t.Errorf("of %+v and %+v not one is better", a, b)
			}
			for _, c := range all {
				if attr.Better(a, b) && attr.Better(b, c) && !attr.Better(a, c) {
					t.Errorf("%+v, %+v, %+v", a, b, c)
				}
			}
		}
	}
}

// orders are all orders in which some routes may stand.
func orders(l []api.Route) [][]api.Route {
	if len(l) == 0 {
		return [][]api.Route{nil}
	}
	var all [][]api.Route
	for i := range l {
		rest := slices.Delete(slices.Clone(l), i, i+1)
		for _, o := range orders(rest) {
			all = append(all, append(slices.Clone(o), l[i]))
		}
	}
	return all
}

func TestO5BestInAnyOrder(t *testing.T) {
	for _, l := range [][]api.Route{
		{none, vector(3), vector(2), path(1), path()}, {path(1, 2), path(2, 1), path(3), none}, {path(1, 2, 3), path(1, 3, 2), path(2, 1, 3), path(1, 2, 4), path(9, 8, 7)},
		{none, path(10), path(9)}, {path(10, 9), path(9, 10), path(7, 9), path(65535, 1)}, {vector(10), vector(9), none, path(), path(1), path(1)},
	} {
		want := attr.Best(l...)
		for _, r := range l {
			if attr.Better(r, want) {
				t.Errorf("%+v comes ahead of %+v", r, want)
			}
		}
		for _, o := range orders(l) {
			for _, again := range [][]api.Route{o, append(slices.Clone(o), o...), append(slices.Clone(o), o[len(o)-1], o[0], o[0])} {
				if got := attr.Best(again...); !attr.Same(got, want) {
					t.Errorf("Best(%+v) = %+v, not %+v", again, got, want)
				}
			}
		}
		// The best of the bests of parts is the best of all.
		for cut := range l {
			if got := attr.Best(attr.Best(l[:cut]...), attr.Best(l[cut:]...)); !attr.Same(got, want) {
				t.Errorf("Best(%+v) cut at %d: %+v, not %+v", l, cut, got, want)
			}
		}
	}
}

func TestO5UnlikeTexts(t *testing.T) {
	all := append(many(), pathsOf([]int{1, 2, 11, 12, 21, 111, 112, 121}, 4)...)
	texts := map[string]api.Route{}
	for _, r := range all {
		text := attr.Print(r)
		if other, had := texts[text]; had && !attr.Same(r, other) {
			t.Errorf("%+v and %+v have the text %q", r, other, text)
		}
		texts[text] = r
	}
}

// callAll calls all that there is, at two routes whatever they are.
func callAll(a, b api.Route) {
	attr.Right(a)
	attr.Same(a, b)
	attr.Better(a, b)
	attr.Best(a)
	attr.Best(a, b)
	attr.Best(b, a, b)
	attr.Length(a)
	attr.Print(a)
}

func TestR1WrongOnesEnd(t *testing.T) {
	wrongs := wrongOnes()
	for _, a := range wrongs {
		for _, b := range []api.Route{none, {Path: []int{1}}, vector(-1), vector(3), {Kind: 1, Path: []int{1}}, path(), path(0), path(1, 1), path(counted(1, 1, 13)...), {Kind: 3}, {Kind: math.MinInt, Cost: math.MinInt}} {
			callAll(a, b)
			callAll(b, a)
		}
	}
	var all []api.Route
	for _, r := range wrongs {
		all = append(all, r)
	}
	attr.Best(all...)
}

// withSpare is a route with marks behind its path's length.
func withSpare(r api.Route) api.Route {
	r.Path = append(append(make([]int, 0, len(r.Path)+3), r.Path...), -7, -8, -9)[:len(r.Path)]
	return r
}

// whole is a copy of a route with all that stands behind its path's length.
func whole(r api.Route) api.Route {
	r.Path = slices.Clone(r.Path[:cap(r.Path)])
	return r
}

func TestR3LeavesRoutesAsTheyWere(t *testing.T) {
	all := append(many(), none)
	for _, r := range wrongOnes() {
		if len(r.Path) < 30 {
			all = append(all, r)
		}
	}
	for _, a := range all {
		a, b := withSpare(a), withSpare(path(7, 9))
		list := append(make([]api.Route, 0, 4), b, a, b, api.Route{Kind: -7})[:3]
		beforeA, beforeB := whole(a), whole(b)
		callAll(a, b)
		callAll(b, a)
		attr.Best(list...)
		attr.Best(list[1:2]...)
		if !reflect.DeepEqual(whole(a), beforeA) || !reflect.DeepEqual(whole(b), beforeB) {
			t.Fatalf("%+v was %+v, %+v was %+v", whole(a), beforeA, whole(b), beforeB)
		}
		if !reflect.DeepEqual(list[:4], []api.Route{b, a, b, {Kind: -7}}) {
			t.Fatalf("the list is %+v", list[:4])
		}
	}
}

func TestR3AnswersAreNewMemory(t *testing.T) {
	for _, r := range []api.Route{path(), path(4), path(4, 5), path(counted(1, 1, 12)...), vector(3), none, {Path: []int{1, 2}}, path(1, 1)} {
		r := withSpare(r)
		before := whole(r)
		for _, list := range [][]api.Route{{r}, {r, r}, {none, r}, {r, path(1, 2, 3, 4, 5, 6, 7, 8, 9, 10, 11, 65535)}} {
			first, second := attr.Best(list...), attr.Best(list...)
			want := plain(second)
			// Whoever owns one answer fills all its room and grows it.
			room := first.Path[:cap(first.Path)]
			for i := range room {
				room[i] = -99
			}
			first.Path = append(first.Path, -98)
			if !reflect.DeepEqual(whole(r), before) {
				t.Fatalf("what was written into the answer changed %+v to %+v", before, whole(r))
			}
			if !reflect.DeepEqual(plain(second), want) || !reflect.DeepEqual(plain(attr.Best(list...)), want) {
				t.Fatalf("what was written into one answer changed others: %+v, not %+v", second, want)
			}
		}
	}
}

func TestR3KeepsNothing(t *testing.T) {
	p := path(4, 5)
	best, text := attr.Best(p, path(6, 7)), attr.Print(p)
	p.Path[0] = 9
	if !reflect.DeepEqual(best, path(4, 5)) || text != "[4 5]" {
		t.Error("answers changed with the route:", best, text)
	}
	if got := attr.Best(p, path(6, 7)); !attr.Same(got, path(6, 7)) {
		t.Error("the route's change is not seen:", got)
	}
}

func TestR4TheSameAgain(t *testing.T) {
	all := append(many()[:60], path(9, 10), path(10, 9), none)
	for range 3 {
		for _, a := range all {
			checkOne(t, a)
			for _, b := range all {
				checkTwo(t, a, b)
			}
		}
		checkBest(t, all)
		slices.Reverse(all)
		callAll(path(1, 1), api.Route{Kind: 3})
	}
}

// routesOf reads bytes as routes, many of which may not be.
func routesOf(data []byte) []api.Route {
	var l []api.Route
	for len(data) > 2 && len(l) < 6 {
		r := api.Route{Kind: int(data[0]%5) - 1, Cost: int(data[1]%19) - 1}
		if r.Kind != 1 && data[1] < 200 {
			r.Cost = 0
		}
		count := min(int(data[2]%15), (len(data)-3)/2)
		if r.Kind == 1 && data[1] < 200 {
			count = 0
		}
		data = data[3:]
		for range count {
			r.Path = append(r.Path, int(data[0])<<8+int(data[1]))
			data = data[2:]
		}
		l = append(l, r)
	}
	return l
}

func FuzzR1(f *testing.F) {
	f.Add([]byte{})
	f.Add([]byte{1, 0, 0, 2, 3, 0, 3, 0, 2, 0, 7, 0, 9, 3, 0, 2, 0, 9, 0, 7})
	f.Add([]byte{3, 0, 3, 0, 1, 0, 2, 0, 1, 2, 201, 1, 0, 0, 4, 4, 4})
	f.Fuzz(func(t *testing.T, data []byte) {
		l := routesOf(data)
		var right []api.Route
		for _, a := range l {
			for _, b := range l {
				callAll(a, b)
			}
			if got := attr.Right(a); got != slowRight(a) {
				t.Fatalf("Right(%+v) = %v", a, got)
			} else if got {
				right = append(right, a)
			}
		}
		attr.Best(l...)
		for _, a := range right {
			checkOne(t, a)
			for _, b := range right {
				checkTwo(t, a, b)
			}
		}
		checkBest(t, right)
	})
}
