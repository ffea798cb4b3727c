package bits_test

import (
	"math"
	"slices"
	"testing"

	"backstay/bits"
)

// wild holds numbers at, and far beyond, the edges that the chapter names.
var wild = []int{
	math.MinInt, math.MinInt + 1, -1 << 32, -65537, -65536, -65535, -17, -16, -2, -1,
	0, 1, 2, 3, 4, 15, 16, 17, 63, 64, 65, 2516, 2517, 65534, 65535, 65536, 65537,
	1<<20 + 4, 1 << 32, math.MaxInt - 1, math.MaxInt,
}

// slowList reckons a set's links by remainders alone.
func slowList(f int) []int {
	var l []int
	rest := ((f % 65536) + 65536) % 65536
	for link := 0; rest > 0; link++ {
		if rest%2 == 1 {
			l = append(l, link)
		}
		rest /= 2
	}
	return l
}

// slowOrder is the chapter's order, by the lists.
func slowOrder(a, b []int) int {
	if len(a) != len(b) {
		return len(a) - len(b)
	}
	return slices.Compare(a, b)
}

// slowSets are all sets of so many links, in order; those of at most so many links are its beginning.
func slowSets(links int) []int {
	lists := make([][]int, 0, 1<<links)
	for f := range 1 << links {
		lists = append(lists, slowList(f))
	}
	slices.SortFunc(lists, slowOrder)
	sets := make([]int, len(lists))
	for i, l := range lists {
		for _, link := range l {
			sets[i] += 1 << link
		}
	}
	return sets
}

// slowCount counts the sets of so many links one by one.
func slowCount(links, most int) int {
	if links < 0 || links > 16 {
		return 0
	}
	count := 0
	for f := range 1 << links {
		if len(slowList(f)) <= most {
			count++
		}
	}
	return count
}

func checkLinks(t *testing.T, f int) {
	t.Helper()
	want := slowList(f)
	if got := bits.List(f); !slices.Equal(got, want) {
		t.Errorf("List(%d) = %v, want %v", f, got, want)
	}
	if got := bits.Size(f); got != len(want) {
		t.Errorf("Size(%d) = %d, want %d", f, got, len(want))
	}
	for link := -2; link < 80; link++ {
		if got := bits.Has(f, link); got != slices.Contains(want, link) {
			t.Errorf("Has(%d, %d) = %v", f, link, got)
		}
	}
	if got := bits.Of(want); got != ((f%65536)+65536)%65536 {
		t.Errorf("Of(%v) = %d", want, got)
	}
}

func TestB1EverySet(t *testing.T) {
	for f := range 65536 {
		checkLinks(t, f)
	}
}

func TestB1NumbersThatAreNoSets(t *testing.T) {
	for _, f := range wild {
		checkLinks(t, f)
	}
	for f := -70000; f < 0; f += 7 {
		checkLinks(t, f)
	}
	for f := 65536; f < 140000; f += 7 {
		checkLinks(t, f)
	}
}

func TestB1Examples(t *testing.T) {
	if got := bits.Of([]int{3, 1}); got != 10 {
		t.Error("Of(3, 1) =", got)
	}
	if got := bits.List(-1); len(got) != 16 || got[0] != 0 || got[15] != 15 {
		t.Error("List(-1) =", got)
	}
	if got := bits.List(1 << 16); len(got) != 0 {
		t.Error("List(65536) =", got)
	}
}

func TestB1LinksThatAreNone(t *testing.T) {
	for _, link := range []int{math.MinInt, -64, -1, 16, 17, 63, 64, 1 << 32, math.MaxInt} {
		for _, f := range wild {
			if bits.Has(f, link) {
				t.Errorf("Has(%d, %d) is true", f, link)
			}
		}
		if got := bits.Of([]int{link}); got != 0 {
			t.Errorf("Of(%d) = %d, want 0", link, got)
		}
		if got := bits.Of([]int{2, link, 0}); got != 5 {
			t.Errorf("Of(2, %d, 0) = %d, want 5", link, got)
		}
	}
}

func TestB1OfAnyList(t *testing.T) {
	for _, x := range []struct {
		l    []int
		want int
	}{
		{nil, 0}, {[]int{}, 0}, {[]int{0}, 1}, {[]int{15}, 32768}, {[]int{5, 5, 5}, 32},
		{[]int{15, 0, 15, 16, -1}, 32769}, {[]int{4, 2, 3}, 28}, {[]int{-1, 16}, 0},
	} {
		if got := bits.Of(x.l); got != x.want {
			t.Errorf("Of(%v) = %d, want %d", x.l, got, x.want)
		}
	}
}

func checkBefore(t *testing.T, a, b int) {
	t.Helper()
	want := slowOrder(slowList(a), slowList(b)) < 0
	if got := bits.Before(a, b); got != want {
		t.Errorf("Before(%d, %d) = %v, want %v", a, b, got, want)
	}
}

func TestB2EveryPairOfFewLinks(t *testing.T) {
	for a := range 128 {
		for b := range 128 {
			checkBefore(t, a, b)
			checkBefore(t, a<<9, b<<9)
		}
	}
}

func TestB2PairsOfAllLinks(t *testing.T) {
	for a := 0; a < 65536; a += 331 {
		for b := 5; b < 65536; b += 257 {
			checkBefore(t, a, b)
		}
	}
}

func TestB2SameSetAndNumbersThatAreNoSets(t *testing.T) {
	for _, a := range wild {
		if bits.Before(a, a) {
			t.Errorf("Before(%d, %d) is true", a, a)
		}
		for _, b := range wild {
			checkBefore(t, a, b)
		}
	}
	for _, x := range [][2]int{{0, 65536}, {65536, 0}, {-1, 65535}, {65535, -1}, {1 << 40, 1 << 16}} {
		if bits.Before(x[0], x[1]) {
			t.Errorf("Before(%d, %d) is true of the same set", x[0], x[1])
		}
	}
}

func TestB3Counts(t *testing.T) {
	for links := -2; links <= 18; links++ {
		for most := -2; most <= 18; most++ {
			if got, want := bits.Count(links, most), slowCount(links, most); got != want {
				t.Errorf("Count(%d, %d) = %d, want %d", links, most, got, want)
			}
		}
	}
}

func TestB3CountsThatAreNone(t *testing.T) {
	for _, links := range []int{math.MinInt, -1, 17, 64, math.MaxInt} {
		for _, most := range wild {
			if got := bits.Count(links, most); got != 0 {
				t.Errorf("Count(%d, %d) = %d, want 0", links, most, got)
			}
		}
	}
	for links := range 17 {
		if got := bits.Count(links, math.MaxInt); got != 1<<links {
			t.Errorf("Count(%d, all) = %d", links, got)
		}
		for _, most := range []int{math.MinInt, -65536, -1} {
			if got := bits.Count(links, most); got != 0 {
				t.Errorf("Count(%d, %d) = %d, want 0", links, most, got)
			}
		}
	}
}

// placesOf are the places of sets, those that are not there at -1.
func placesOf(sets []int) []int {
	places := make([]int, 65536)
	for f := range places {
		places[f] = -1
	}
	for place, f := range sets {
		places[f] = place
	}
	return places
}

func checkPlaces(t *testing.T, links, most int, sets []int) {
	t.Helper()
	for place, want := range sets {
		if got := bits.At(links, most, place); got != want {
			t.Fatalf("At(%d, %d, %d) = %d, want %d", links, most, place, got, want)
		}
	}
	for _, place := range []int{math.MinInt, -65536, -1, len(sets), len(sets) + 1, 65536, math.MaxInt} {
		if got := bits.At(links, most, place); got != -1 {
			t.Errorf("At(%d, %d, %d) = %d, want -1", links, most, place, got)
		}
	}
	for f, want := range placesOf(sets) {
		if f >= 4<<links && f%61 != 0 {
			continue
		}
		if got := bits.Rank(links, most, f); got != want {
			t.Fatalf("Rank(%d, %d, %d) = %d, want %d", links, most, f, got, want)
		}
	}
	for _, f := range []int{math.MinInt, -65536, -65535, -1, 65536, 65537, 1 << 32, math.MaxInt} {
		if got := bits.Rank(links, most, f); got != -1 {
			t.Errorf("Rank(%d, %d, %d) = %d, want -1", links, most, f, got)
		}
	}
}

func TestB4EveryPlace(t *testing.T) {
	for links := range 17 {
		sets := slowSets(links)
		for _, most := range []int{0, 1, 2, 3, 4, 5, 8, 11, 15, 16, 17, 100, math.MaxInt} {
			if most > links && most < 16 {
				continue
			}
			checkPlaces(t, links, most, sets[:slowCount(links, most)])
		}
	}
}

func TestB4PlacesThatAreNone(t *testing.T) {
	for _, x := range []struct{ links, most int }{
		{-1, 2}, {17, 2}, {math.MinInt, 2}, {math.MaxInt, 2}, {64, 64}, {-1, -1}, {17, 0},
		{4, -1}, {0, -1}, {16, -1}, {16, math.MinInt},
	} {
		for _, n := range wild {
			if got := bits.At(x.links, x.most, n); got != -1 {
				t.Errorf("At(%d, %d, %d) = %d, want -1", x.links, x.most, n, got)
			}
			if got := bits.Rank(x.links, x.most, n); got != -1 {
				t.Errorf("Rank(%d, %d, %d) = %d, want -1", x.links, x.most, n, got)
			}
		}
	}
}

func TestB4Examples(t *testing.T) {
	want := []int{0, 1, 2, 4, 3, 5, 6}
	for place, f := range want {
		if got := bits.At(3, 2, place); got != f {
			t.Errorf("At(3, 2, %d) = %d, want %d", place, got, f)
		}
		if got := bits.Rank(3, 2, f); got != place {
			t.Errorf("Rank(3, 2, %d) = %d, want %d", f, got, place)
		}
	}
	if bits.At(3, 2, 7) != -1 || bits.Rank(3, 2, 7) != -1 || bits.Rank(3, 2, 8) != -1 {
		t.Error("what is none of the sets has a place")
	}
	if bits.At(0, 0, 0) != 0 || bits.Rank(0, 0, 0) != 0 || bits.At(0, 0, 1) != -1 {
		t.Error("of no links there is just the set without links")
	}
}

func TestB5RankAndAtUndoEachOther(t *testing.T) {
	for links := range 17 {
		for most := range 17 {
			before := -1
			for place := range bits.Count(links, most) {
				f := bits.At(links, most, place)
				if got := bits.Rank(links, most, f); got != place {
					t.Fatalf("Rank(%d, %d, At(%d)) = %d", links, most, place, got)
				}
				if before >= 0 && !bits.Before(before, f) {
					t.Fatalf("links %d, most %d: %d is not ahead of %d", links, most, before, f)
				}
				before = f
			}
			if got := bits.At(links, most, bits.Count(links, most)); got != -1 {
				t.Fatalf("links %d, most %d: one too many, %d", links, most, got)
			}
		}
	}
}

// callAll makes every call of the package at three numbers and tells all answers.
func callAll(a, b, c int) []int {
	answers := []int{
		bits.Size(a), bits.Count(a, b), bits.At(a, b, c), bits.Rank(a, b, c), bits.Of([]int{a, b, c}),
	}
	for _, yes := range []bool{bits.Has(a, b), bits.Before(a, b)} {
		if yes {
			answers = append(answers, 1)
		} else {
			answers = append(answers, 0)
		}
	}
	return append(answers, bits.List(a)...)
}

func TestR1R4AnyNumbersEndAndTellTheSameAgain(t *testing.T) {
	for _, a := range wild {
		for _, b := range wild {
			for _, c := range wild {
				first := callAll(a, b, c)
				callAll(c, a, b)
				if again := callAll(a, b, c); !slices.Equal(first, again) {
					t.Fatalf("%d, %d, %d: %v, then %v", a, b, c, first, again)
				}
			}
		}
	}
}

func TestR3ListIsNewMemory(t *testing.T) {
	for _, f := range []int{0, 1, 10, 31, 65535} {
		want := slowList(f)
		first, second := bits.List(f), bits.List(f)
		full := first[:cap(first)]
		for i := range full {
			full[i] = 99
		}
		_ = append(first, 98)
		if !slices.Equal(second, want) || !slices.Equal(bits.List(f), want) {
			t.Errorf("List(%d) shares memory with another answer", f)
		}
	}
}

func TestR3OfWritesNothing(t *testing.T) {
	back := []int{15, -1, 3, 3, 16, 7, 8}
	want := slices.Clone(back)
	if got := bits.Of(back[:4]); got != 1<<15|1<<3 {
		t.Error("Of read wrong links:", got)
	}
	if !slices.Equal(back, want) {
		t.Error("Of wrote into its list, or behind it:", back)
	}
}
