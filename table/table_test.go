package table_test

import (
	"fmt"
	"math"
	"math/rand"
	"reflect"
	"slices"
	"testing"

	"backstay/api"
	"backstay/attr"
	"backstay/table"
)

// far are numbers of no route, and no costs or AS numbers, among them such as wrap to those that are.
var far = []int{
	math.MinInt, math.MinInt + 1, math.MinInt32, -1 << 32, 1 - 1<<32, -65537, -65536, -65535, -16, -2, -1,
	65536, 65537, 1 << 17, 1 << 30, 1<<30 + 1, math.MaxInt32, 1 << 31, math.MaxUint32, 1 << 32, 1<<32 + 1, 1<<32 + 2, math.MaxInt - 1, math.MaxInt,
}

// none is the route that is none.
var none = api.Route{}

func vector(cost int) api.Route { return api.Route{Kind: api.RouteVector, Cost: cost} }

func path(numbers ...int) api.Route { return api.Route{Kind: api.RoutePath, Path: numbers} }

// vectors are all that there are.
func vectors() []api.Route {
	var all []api.Route
	for cost := range 16 {
		all = append(all, vector(cost))
	}
	return all
}

// counted are the numbers from one on, each so far from the one ahead.
func counted(from, step, count int) []int {
	var numbers []int
	for i := range count {
		numbers = append(numbers, from+i*step)
	}
	return numbers
}

// few are unlike routes of each kind; their paths are like one another in their digits, or their beginnings.
func few() []api.Route {
	return append([]api.Route{
		none, path(), path(1), path(2), path(12), path(1, 2), path(2, 1), path(11), path(1, 11), path(11, 1), path(111), path(1, 12), path(11, 2), path(112), path(1, 1+1<<8), path(1, 2, 3), path(1, 23), path(12, 3), path(123),
		path(9), path(10), path(15), path(65535), path(65535, 1), path(1, 65535), path(65534), path(counted(1, 1, 11)...), path(counted(1, 1, 12)...), path(counted(2, 1, 11)...), path(counted(12, -1, 12)...), path(counted(65535, -1, 12)...),
	}, vectors()...)
}

// wrongs are routes that are not right, most of them for one reason alone.
func wrongs() []api.Route {
	all := []api.Route{
		{Kind: 3}, {Kind: 7}, {Kind: -1}, {Kind: 1 << 32}, {Kind: 1<<32 + 1, Cost: 1}, {Kind: 1<<32 + 2, Path: []int{1}}, {Kind: math.MaxInt}, {Kind: math.MinInt}, {Kind: 3, Cost: 1, Path: []int{1}},
		{Cost: 1}, {Cost: -1}, {Cost: 15}, {Path: []int{1}}, {Path: []int{0}}, {Cost: 2, Path: []int{3}}, {Path: counted(1, 1, 12)},
		vector(16), vector(17), vector(-1), vector(-15), {Kind: 1, Path: []int{1}}, {Kind: 1, Path: []int{0}}, {Kind: 1, Cost: 3, Path: []int{1, 2}},
		{Kind: 2, Cost: 1}, {Kind: 2, Cost: 1, Path: []int{1}}, {Kind: 2, Cost: -1, Path: []int{1}}, {Kind: 2, Cost: 16, Path: []int{1, 2}},
		path(0), path(-1), path(65536), path(1, 0), path(0, 1), path(1, 2, 65536), path(1, 1), path(1, 2, 1), path(1, 2, 2), path(12, 1, 12), path(65535, 1, 65535),
		path(counted(1, 1, 13)...), path(counted(0, 1, 12)...), path(append(counted(1, 1, 11), 1)...), path(append(counted(1, 1, 12), 1)...), path(slices.Repeat([]int{4}, 12)...), path(counted(1, 1, 65535)...), path(make([]int, 1<<18)...),
	}
	for _, n := range far {
		all = append(all, vector(n), path(n), path(1, n), path(n, 1), api.Route{Kind: 2, Cost: n, Path: []int{1}}, api.Route{Cost: n}, api.Route{Kind: n})
	}
	return all
}

// plain is a route without the difference between a list that is nil and one without elements.
func plain(r api.Route) api.Route {
	r.Path = append([]int{}, r.Path...)
	return r
}

// same holds every field of two routes.
func same(a, b api.Route) bool { return reflect.DeepEqual(plain(a), plain(b)) }

// slow is a table's routes in their order, each once, and how many there may be.
type slow struct {
	most   int
	routes []api.Route
}

func slowNew(most int) *slow { return &slow{most: most, routes: []api.Route{none}} }

func (s *slow) find(r api.Route) int {
	return slices.IndexFunc(s.routes, func(have api.Route) bool { return same(have, r) })
}

func (s *slow) add(r api.Route) (int, api.Errno) {
	if !attr.Right(r) {
		return 0, api.ErrArg
	}
	if id := s.find(r); id >= 0 {
		return id, api.OK
	}
	if len(s.routes) == s.most {
		return 0, api.ErrFull
	}
	s.routes = append(s.routes, plain(r))
	return len(s.routes) - 1, api.OK
}

// checkAll holds a table's size, its routes by their numbers, and their numbers, against a slow one.
func checkAll(t *testing.T, have *table.Table, want *slow) {
	t.Helper()
	if got := have.Size(); got != len(want.routes) {
		t.Fatalf("Size() = %d, not %d", got, len(want.routes))
	}
	for id := -2; id <= len(want.routes)+2; id++ {
		r := none
		if id >= 0 && id < len(want.routes) {
			r = want.routes[id]
			if got := have.Find(r); got != id {
				t.Fatalf("Find(%+v) = %d, not %d", r, got, id)
			}
		}
		if got := have.Get(id); !same(got, r) {
			t.Fatalf("Get(%d) = %+v, not %+v", id, got, r)
		}
	}
}

// checkAdd adds a route to a table and to a slow one, and holds what both tell.
func checkAdd(t *testing.T, have *table.Table, want *slow, r api.Route) {
	t.Helper()
	found := have.Find(r)
	if found != want.find(r) {
		t.Fatalf("Find(%+v) = %d, not %d", r, found, want.find(r))
	}
	id, e := have.Add(r)
	if wantID, wantE := want.add(r); id != wantID || e != wantE || have.Size() != len(want.routes) {
		t.Fatalf("Add(%+v) = %d, %d, not %d, %d; then there are %d, not %d", r, id, e, wantID, wantE, have.Size(), len(want.routes))
	}
	if found >= 0 && id != found {
		t.Fatalf("Add(%+v) = %d, but it was found at %d", r, id, found)
	}
}

// filled is a table with routes behind none, and room for some more.
func filled(t *testing.T, more int, l ...api.Route) (*table.Table, *slow) {
	t.Helper()
	have, want := table.New(len(l)+1+more), slowNew(len(l)+1+more)
	for at, r := range l {
		if id, e := have.Add(r); id != at+1 || e != api.OK {
			t.Fatalf("Add(%+v) = %d, %d, not %d", r, id, e, at+1)
		}
		want.add(r)
	}
	return have, want
}

func TestT1New(t *testing.T) {
	for _, most := range []int{1, 2, 3, 16, 65536, 1<<30 - 1, 1 << 30} {
		made := table.New(most)
		if made == nil {
			t.Fatalf("there is none with room for %d", most)
		}
		checkAll(t, made, slowNew(most))
		if id, e := made.Add(none); id != 0 || e != api.OK || made.Size() != 1 {
			t.Errorf("room for %d: none is %d, %d", most, id, e)
		}
		if got := made.Find(path()); got != -1 {
			t.Errorf("room for %d: a path without numbers is %d", most, got)
		}
		id, e := made.Add(vector(0))
		if most == 1 && (id != 0 || e != api.ErrFull) || most > 1 && (id != 1 || e != api.OK) {
			t.Errorf("room for %d: a second route is %d, %d", most, id, e)
		}
	}
}

func TestT1NoSuchRoom(t *testing.T) {
	for _, most := range []int{0, -1, -2, -1 << 30, 1<<30 + 1, 1<<30 + 2, 1 << 31, 1 << 32, 1<<32 + 1, 1<<32 + 5, -1 << 32, 5 - 1<<32, math.MaxInt, math.MinInt, math.MinInt + 1} {
		if table.New(most) != nil {
			t.Errorf("there is one with room for %d", most)
		}
	}
}

func TestNilTable(t *testing.T) {
	for _, nothing := range []*table.Table{nil, table.New(0), table.New(1<<30 + 1)} {
		for _, r := range few() {
			if id, e := nothing.Add(r); id != 0 || e != api.ErrFull {
				t.Errorf("Add(%+v) = %d, %d", r, id, e)
			}
			if got := nothing.Find(r); got != -1 {
				t.Errorf("Find(%+v) = %d", r, got)
			}
		}
		for _, r := range wrongs() {
			if id, e := nothing.Add(r); id != 0 || e != api.ErrArg {
				t.Errorf("Add of the kind %d and the cost %d = %d, %d", r.Kind, r.Cost, id, e)
			}
			if got := nothing.Find(r); got != -1 {
				t.Errorf("Find of the kind %d and the cost %d = %d", r.Kind, r.Cost, got)
			}
		}
		for _, id := range append(far, 0, 1, 2) {
			if got := nothing.Get(id); !same(got, none) {
				t.Errorf("Get(%d) = %+v", id, got)
			}
		}
		if got := nothing.Size(); got != 0 {
			t.Errorf("Size() = %d", got)
		}
	}
}

// TestT2Steps goes through steps that are told one by one, with room for five.
func TestT2Steps(t *testing.T) {
	made := table.New(5)
	for at, c := range []struct {
		r    api.Route
		id   int
		e    api.Errno
		size int
	}{
		{none, 0, api.OK, 1}, {api.Route{Path: []int{}}, 0, api.OK, 1},
		{vector(3), 1, api.OK, 2}, {vector(3), 1, api.OK, 2}, {vector(16), 0, api.ErrArg, 2}, {none, 0, api.OK, 2},
		{path(), 2, api.OK, 3}, {path(3), 3, api.OK, 4}, {path(3, 3), 0, api.ErrArg, 4}, {api.Route{Kind: 3}, 0, api.ErrArg, 4},
		{none, 0, api.OK, 4}, {path(), 2, api.OK, 4}, {path(3), 3, api.OK, 4}, {api.Route{Kind: 2, Path: []int{}}, 2, api.OK, 4},
		{path(counted(65535, -1, 12)...), 4, api.OK, 5},
		{vector(4), 0, api.ErrFull, 5}, {path(4), 0, api.ErrFull, 5}, {path(0), 0, api.ErrArg, 5}, {api.Route{Cost: 3}, 0, api.ErrArg, 5},
		{path(counted(65535, -1, 12)...), 4, api.OK, 5}, {vector(3), 1, api.OK, 5}, {path(3), 3, api.OK, 5}, {none, 0, api.OK, 5}, {vector(4), 0, api.ErrFull, 5},
	} {
		if id, e := made.Add(c.r); id != c.id || e != c.e || made.Size() != c.size {
			t.Errorf("step %d: Add(%+v) = %d, %d; then there are %d", at, c.r, id, e, made.Size())
		}
	}
	checkAll(t, made, &slow{routes: []api.Route{none, vector(3), path(), path(3), path(counted(65535, -1, 12)...)}})
}

// TestT2Example is the chapter's own.
func TestT2Example(t *testing.T) {
	made := table.New(2)
	first, e := made.Add(vector(3))
	again, f := made.Add(vector(3))
	beyond, g := made.Add(vector(4))
	if first != 1 || e != api.OK || again != 1 || f != api.OK || beyond != 0 || g != api.ErrFull {
		t.Error(first, e, again, f, beyond, g)
	}
}

// TestT2InAnyOrder has the numbers hang on the order of adding, and on that alone.
func TestT2InAnyOrder(t *testing.T) {
	chance := rand.New(rand.NewSource(8))
	for range 50 {
		l := few()
		chance.Shuffle(len(l), func(i, j int) { l[i], l[j] = l[j], l[i] })
		have, want := table.New(len(l)), slowNew(len(l))
		for _, r := range l {
			checkAdd(t, have, want, r)
			checkAdd(t, have, want, r)
		}
		checkAll(t, have, want)
		for _, r := range append(l, path(77), vector(16)) {
			checkAdd(t, have, want, r)
		}
		checkAll(t, have, want)
	}
}

func TestT2TheTableIsFull(t *testing.T) {
	all := few()[1:]
	for count := range len(all) {
		have, want := filled(t, 0, all[:count]...)
		for _, r := range append(few(), wrongs()...) {
			checkAdd(t, have, want, r)
		}
		if id, e := have.Add(all[count]); id != 0 || e != api.ErrFull || have.Find(all[count]) != -1 {
			t.Fatalf("beyond %d: Add(%+v) = %d, %d", count, all[count], id, e)
		}
		checkAll(t, have, want)
	}
}

// TestT2TheLastOne has room for one route more than there are.
func TestT2TheLastOne(t *testing.T) {
	all := few()[1:]
	for count := range len(all) - 1 {
		have, want := filled(t, 1, all[:count]...)
		checkAdd(t, have, want, path(0))
		if id, e := have.Add(all[count]); id != count+1 || e != api.OK {
			t.Fatalf("the last one, Add(%+v) = %d, %d, not %d", all[count], id, e, count+1)
		}
		want.add(all[count])
		checkAdd(t, have, want, all[count+1])
		checkAdd(t, have, want, all[count])
		checkAll(t, have, want)
	}
}

// TestT2WrongRoutes has wrong routes at tables that have those whose texts are the same, with room and without.
func TestT2WrongRoutes(t *testing.T) {
	for _, more := range []int{0, 1, 1000} {
		have, want := filled(t, more, few()[1:]...)
		for _, r := range wrongs() {
			id, e := have.Add(r)
			if id != 0 || e != api.ErrArg {
				t.Errorf("Add of the kind %d, the cost %d and %d numbers = %d, %d", r.Kind, r.Cost, len(r.Path), id, e)
			}
			if got := have.Find(r); got != -1 {
				t.Errorf("Find of the kind %d, the cost %d and %d numbers = %d", r.Kind, r.Cost, len(r.Path), got)
			}
			if have.Size() != len(want.routes) {
				t.Fatalf("there are %d, not %d", have.Size(), len(want.routes))
			}
		}
		checkAll(t, have, want)
	}
}

func TestT3Find(t *testing.T) {
	have, _ := filled(t, 3, path(1, 2), vector(12), path(12), path(), vector(0))
	for _, c := range []struct {
		r    api.Route
		want int
	}{
		{none, 0}, {api.Route{Path: []int{}}, 0}, {path(1, 2), 1}, {vector(12), 2}, {path(12), 3}, {path(), 4}, {api.Route{Kind: 2, Path: []int{}}, 4}, {vector(0), 5}, {api.Route{Kind: 1, Path: []int{}}, 5},
		{path(2, 1), -1}, {path(1), -1}, {path(2), -1}, {path(1, 2, 3), -1}, {vector(1), -1}, {vector(11), -1}, {path(0), -1}, {path(1, 2, 1), -1}, {vector(16), -1}, {vector(-1), -1},
		{api.Route{Kind: 7}, -1}, {api.Route{Kind: -1}, -1}, {api.Route{Cost: 12}, -1}, {api.Route{Path: []int{1, 2}}, -1}, {api.Route{Kind: 1, Cost: 12, Path: []int{12}}, -1}, {api.Route{Kind: 2, Cost: 1, Path: []int{12}}, -1},
	} {
		if got := have.Find(c.r); got != c.want {
			t.Errorf("Find(%+v) = %d, not %d", c.r, got, c.want)
		}
		if have.Size() != 6 {
			t.Fatalf("Find(%+v) made %d of 6", c.r, have.Size())
		}
	}
}

func TestT3Get(t *testing.T) {
	all := few()
	have, _ := filled(t, 9, all[1:]...)
	for id, r := range all {
		if got := have.Get(id); !same(got, r) {
			t.Errorf("Get(%d) = %+v, not %+v", id, got, r)
		}
	}
	for _, id := range append(far, len(all), len(all)+1, len(all)+8, len(all)+9, len(all)+10) {
		if got := have.Get(id); !same(got, none) {
			t.Errorf("Get(%d) = %+v", id, got)
		}
	}
	for _, id := range append(far, 1, 2) {
		if got := table.New(2).Get(id); !same(got, none) {
			t.Errorf("in a new table Get(%d) = %+v", id, got)
		}
	}
}

// byChance is a route, some of which are not right, of so few numbers that many come again.
func byChance(chance *rand.Rand) api.Route {
	switch chance.Intn(8) {
	case 0:
		return none
	case 1, 2:
		return vector(chance.Intn(18) - 1)
	case 3:
		return api.Route{Kind: chance.Intn(5) - 1, Cost: chance.Intn(3) - 1, Path: counted(chance.Intn(3), 1, chance.Intn(3))}
	}
	numbers := chance.Perm(14)[:chance.Intn(5)]
	for i := range numbers {
		numbers[i] += min(numbers[i], chance.Intn(40)) / 13 * 100
	}
	return path(numbers...)
}

func TestT2AndT3AgainstSlow(t *testing.T) {
	for seed := range int64(40) {
		chance := rand.New(rand.NewSource(seed))
		most := 1 + chance.Intn(60)*chance.Intn(20)
		have, want := table.New(most), slowNew(most)
		for step := range 600 {
			r := byChance(chance)
			checkAdd(t, have, want, r)
			if step%50 == 0 {
				checkAll(t, have, want)
			}
			if id := chance.Intn(most+4) - 2; id < 0 || id >= len(want.routes) {
				if got := have.Get(id); !same(got, none) {
					t.Fatalf("Get(%d) = %+v", id, got)
				}
			} else if got := have.Get(id); !same(got, want.routes[id]) {
				t.Fatalf("Get(%d) = %+v, not %+v", id, got, want.routes[id])
			}
		}
		checkAll(t, have, want)
	}
}

// TestT2VeryMany has as many routes as there are single numbers, and pairs beside them.
func TestT2VeryMany(t *testing.T) {
	const count = 65535
	made := table.New(2*count + 1)
	for round := range 2 {
		for n := 1; n <= count; n++ {
			one, e := made.Add(path(n))
			two, f := made.Add(path(n, n%count+1))
			if one != 2*n-1 || two != 2*n || e != api.OK || f != api.OK {
				t.Fatalf("time %d: the paths from %d on are %d and %d, %d, %d", round, n, one, two, e, f)
			}
		}
		if got := made.Size(); got != 2*count+1 {
			t.Fatalf("there are %d", got)
		}
		if id, e := made.Add(vector(0)); id != 0 || e != api.ErrFull {
			t.Fatalf("one beyond is %d, %d", id, e)
		}
	}
	for n := 1; n <= count; n++ {
		if !same(made.Get(2*n-1), path(n)) || !same(made.Get(2*n), path(n, n%count+1)) || made.Find(path(n)) != 2*n-1 {
			t.Fatalf("at %d: %+v, %+v", n, made.Get(2*n-1), made.Get(2*n))
		}
	}
}

// TestT4NumbersStay holds on answers alone that each route keeps its number, and has one of its own.
func TestT4NumbersStay(t *testing.T) {
	all := few()
	made := table.New(len(all))
	var numbers []int
	for at, r := range all {
		id, e := made.Add(r)
		if e != api.OK || slices.Contains(numbers, id) {
			t.Fatalf("Add(%+v) = %d, %d; there are %v", r, id, e, numbers)
		}
		numbers = append(numbers, id)
		for i, had := range all[:at+1] {
			size := made.Size()
			again, e := made.Add(had)
			if again != numbers[i] || e != api.OK || made.Find(had) != numbers[i] || !same(made.Get(numbers[i]), had) || made.Size() != size {
				t.Fatalf("behind %d steps %+v, which was %d, is %d, %d", at+1, had, numbers[i], again, e)
			}
		}
		for _, other := range all[at+1:] {
			if got := made.Find(other); got != -1 {
				t.Fatalf("Find(%+v) = %d ahead of its Add", other, got)
			}
		}
	}
}

// TestT4MoreRoom goes the same steps with unlike rooms: what was told with less is told with more.
func TestT4MoreRoom(t *testing.T) {
	chance := rand.New(rand.NewSource(9))
	rooms := []int{1, 2, 3, 7, 20, 21, 100, 1000, 1 << 30}
	made := make([]*table.Table, len(rooms))
	for i, most := range rooms {
		made[i] = table.New(most)
	}
	for step := range 400 {
		checkRooms(t, rooms, made, byChance(chance), step)
	}
	last := made[len(made)-1]
	for i, one := range made {
		if want := min(rooms[i], last.Size()); one.Size() != want {
			t.Errorf("with room %d there are %d, not %d", rooms[i], one.Size(), want)
		}
		for id := range one.Size() {
			if !same(one.Get(id), last.Get(id)) {
				t.Errorf("with room %d the number %d is %+v, not %+v", rooms[i], id, one.Get(id), last.Get(id))
			}
		}
	}
}

// checkRooms adds a route to tables whose rooms rise, and holds what each two neighbours tell.
func checkRooms(t *testing.T, rooms []int, made []*table.Table, r api.Route, step int) {
	t.Helper()
	var found, numbers []int
	var errors []api.Errno
	for _, one := range made {
		found = append(found, one.Find(r))
		id, e := one.Add(r)
		numbers, errors = append(numbers, id), append(errors, e)
	}
	for i := range len(made) - 1 {
		if found[i] >= 0 && found[i+1] != found[i] {
			t.Fatalf("step %d: %+v is found at %d with room %d, at %d with %d", step, r, found[i], rooms[i], found[i+1], rooms[i+1])
		}
		if errors[i] != api.ErrFull && (numbers[i] != numbers[i+1] || errors[i] != errors[i+1]) {
			t.Fatalf("step %d: %+v is %d, %d with room %d, and %d, %d with %d", step, r, numbers[i], errors[i], rooms[i], numbers[i+1], errors[i+1], rooms[i+1])
		}
	}
}

func TestR1NothingPanics(t *testing.T) {
	var nothing *table.Table
	full, _ := filled(t, 0, few()[1:]...)
	part, _ := filled(t, 2, path(1, 2), vector(3))
	for _, made := range []*table.Table{nothing, table.New(1), table.New(2), table.New(1 << 30), full, part} {
		for _, r := range append(wrongs(), few()...) {
			made.Find(r)
			made.Add(r)
			made.Find(r)
			made.Size()
		}
		for _, id := range append(far, counted(-3, 1, 60)...) {
			made.Get(id)
		}
	}
}

// withSpare is a route with marks behind its path's length.
func withSpare(r api.Route) api.Route {
	r.Path = append(append(make([]int, 0, len(r.Path)+3), r.Path...), -7, -8, -9)[:len(r.Path)]
	return r
}

// whole is a copy of a route with all that stands behind its path's length.
func whole(r api.Route) api.Route {
	r.Path = slices.Clone(r.Path[:cap(r.Path)])
	return r
}

// fill writes into all room that an answer has, and grows it.
func fill(r api.Route) {
	room := r.Path[:cap(r.Path)]
	for i := range room {
		room[i] = -99
	}
	_ = append(r.Path, -98)
	_ = append(r.Path[:0], -97, -96, -95)
}

func TestR3LeavesWhatIsHandedIn(t *testing.T) {
	have := table.New(30)
	for range 2 {
		for _, r := range append(few(), wrongs()...) {
			if len(r.Path) > 30 {
				continue
			}
			r := withSpare(r)
			before := whole(r)
			have.Find(r)
			have.Add(r)
			have.Add(r)
			have.Find(r)
			id := have.Find(r)
			fill(have.Get(id))
			if !reflect.DeepEqual(whole(r), before) {
				t.Fatalf("%+v was %+v", whole(r), before)
			}
		}
	}
}

// TestR3KeepsNothing turns what was handed in: to numbers that may not be, and to those of another route.
func TestR3KeepsNothing(t *testing.T) {
	have, want := table.New(100), slowNew(100)
	for _, r := range few() {
		handed := withSpare(r)
		checkAdd(t, have, want, handed)
		fill(handed)
		checkAll(t, have, want)
		again := withSpare(r)
		have.Add(again)
		have.Find(again)
		fill(again)
		checkAll(t, have, want)
	}
	turned := path(500, 501)
	have.Add(turned)
	want.add(turned)
	turned.Path[0], turned.Path[1] = 501, 500
	if got := have.Find(turned); got != -1 {
		t.Errorf("the turned path is found at %d", got)
	}
	checkAdd(t, have, want, turned)
	checkAll(t, have, want)
}

// TestR3AnswersAreNewMemory writes into all that comes out, and holds the table, and other answers, behind it.
func TestR3AnswersAreNewMemory(t *testing.T) {
	have, want := filled(t, 0, few()[1:]...)
	var others []api.Route
	for id := range have.Size() {
		others = append(others, have.Get(id))
	}
	for id := -1; id <= have.Size(); id++ {
		for range 2 {
			fill(have.Get(id))
			checkAll(t, have, want)
		}
		first, second := have.Get(id), have.Get(id)
		kept := plain(second)
		fill(first)
		if !same(second, kept) {
			t.Fatalf("Get(%d): what was written into one answer changed another to %+v", id, second)
		}
	}
	for id, r := range others {
		if !same(r, want.routes[id]) {
			t.Fatalf("an older answer of %d became %+v", id, r)
		}
	}
}

// TestR3AnswersOutliveTheTable grows a table, full as it becomes, under answers that are kept.
func TestR3AnswersOutliveTheTable(t *testing.T) {
	have, want := table.New(40), slowNew(40)
	var kept []api.Route
	for n := 1; n <= 60; n++ {
		checkAdd(t, have, want, path(n, n+1, n+2))
		kept = append(kept, have.Get(min(n, 39)))
	}
	for at, r := range kept {
		n := min(at+1, 39)
		if !same(r, path(n, n+1, n+2)) {
			t.Fatalf("the answer %d became %+v", at, r)
		}
	}
}

// TestR4TwoTablesKnowNothing goes steps on several tables by turns, and the same again on new ones.
func TestR4TwoTablesKnowNothing(t *testing.T) {
	for range 2 {
		forward, backward := few(), few()
		slices.Reverse(backward)
		a, slowA := table.New(20), slowNew(20)
		b, slowB := table.New(20), slowNew(20)
		c, slowC := table.New(2), slowNew(2)
		for i := range forward {
			checkAdd(t, a, slowA, forward[i])
			checkAdd(t, b, slowB, backward[i])
			checkAdd(t, c, slowC, forward[i])
			checkAll(t, table.New(20), slowNew(20))
		}
		checkAll(t, a, slowA)
		checkAll(t, b, slowB)
		checkAll(t, c, slowC)
	}
}

// TestR4FindTellsNothingNew has calls that only look change nothing of what comes behind them.
func TestR4FindTellsNothingNew(t *testing.T) {
	looked, plainly := table.New(30), table.New(30)
	for _, r := range few() {
		for _, other := range append(few(), path(0), vector(16), path(77)) {
			looked.Find(other)
			looked.Get(looked.Size())
		}
		id, e := looked.Add(r)
		if want, f := plainly.Add(r); id != want || e != f || looked.Size() != plainly.Size() {
			t.Fatalf("Add(%+v) = %d, %d, not %d, %d", r, id, e, want, f)
		}
	}
}

// routesOf reads bytes as routes, many of which may not be.
func routesOf(data []byte) []api.Route {
	var l []api.Route
	for len(data) > 2 && len(l) < 200 {
		r := api.Route{Kind: int(data[0]%5) - 1, Cost: int(data[1]%19) - 1}
		if r.Kind != 1 && data[1] < 200 {
			r.Cost = 0
		}
		count := min(int(data[2]%15), len(data)-3)
		if r.Kind != 2 && data[1] < 200 {
			count = 0
		}
		data = data[3:]
		for _, n := range data[:count] {
			r.Path = append(r.Path, int(n))
		}
		data = data[count:]
		l = append(l, r)
	}
	return l
}

// FuzzR1 takes a table's room and the routes that are added to it from numbers and bytes.
func FuzzR1(f *testing.F) {
	f.Add(3, []byte{})
	f.Add(4, []byte{2, 4, 0, 3, 0, 2, 7, 9, 3, 0, 1, 9, 2, 4, 0, 3, 0, 0, 1, 0, 0})
	f.Add(1<<30, []byte(fmt.Sprint(few())))
	f.Add(0, []byte{1, 0, 0})
	f.Add(math.MinInt, []byte{4, 4, 4, 4, 4, 4, 4, 4})
	f.Fuzz(func(t *testing.T, most int, data []byte) {
		have, l := table.New(most), routesOf(data)
		if (have == nil) != (most < 1 || most > 1<<30) {
			t.Fatalf("New(%d) is %v", most, have)
		}
		want := slowNew(most)
		if have == nil {
			want = &slow{}
		}
		for _, r := range append(l, l...) {
			checkAdd(t, have, want, r)
		}
		checkAll(t, have, want)
	})
}
