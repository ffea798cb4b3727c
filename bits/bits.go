// Package bits is layer 1: sets of links, as numbers.
package bits

import (
	"iter"
	"slices"

	"backstay/api"
)

// all is the set of every link there may be; bits above it never count.
const all = 1<<api.MaxLinks - 1

// each tells the links of f, rising.
func each(f int) iter.Seq[int] {
	return func(yield func(int) bool) {
		for link := range api.MaxLinks {
			if Has(f, link) && !yield(link) {
				return
			}
		}
	}
}

// Size tells how many links are in f.
func Size(f int) int {
	size := 0
	for range each(f) {
		size++
	}
	return size
}

// Has tells whether link is in f; false, if there is no such link.
func Has(f, link int) bool {
	return isLink(link) && f>>link&1 == 1
}

// List tells the links of f, rising.
func List(f int) []int {
	return slices.Collect(each(f))
}

// Of tells the set of those numbers of l that are links.
func Of(l []int) int {
	f := 0
	for _, link := range l {
		if isLink(link) {
			f |= 1 << link
		}
	}
	return f
}

// Before tells whether a is ahead of b: by size, then by the rising lists of links.
func Before(a, b int) bool {
	if Size(a) != Size(b) {
		return Size(a) < Size(b)
	}
	// Below the lowest link that but one of both has, the lists are the same; so
	// that link stands at the first unlike place, and the other list has a greater one there.
	unlike := (a ^ b) & all
	lowest := unlike & -unlike
	return a&lowest != 0
}

// Count tells how many sets of the links 0 to below links have at most most links.
func Count(links, most int) int {
	if links < 0 || links > api.MaxLinks || most < 0 {
		return 0
	}
	count := 0
	for size := range min(most, links) + 1 {
		count += choose(links, size)
	}
	return count
}

// At tells the set at a place among those that Count counts; -1, if there is none.
func At(links, most, place int) int {
	if place < 0 || place >= Count(links, most) {
		return -1
	}
	size := 0
	for place >= choose(links, size) {
		place -= choose(links, size)
		size++
	}
	return ofSize(links, size, place)
}

// Rank tells the place of f among the sets that Count counts; -1, if it is none of them.
func Rank(links, most, f int) int {
	// What each passes over, bits above the links there may be, makes f none of the sets here.
	if links < 0 || links > api.MaxLinks || f < 0 || f >= 1<<links || Size(f) > most {
		return -1
	}
	left, next := Size(f), 0
	place := Count(links, left-1)
	for link := range each(f) {
		for passed := next; passed < link; passed++ {
			place += choose(links-passed-1, left-1)
		}
		left, next = left-1, link+1
	}
	return place
}

// ofSize tells the set at a place among those of just size links; there must be one.
func ofSize(links, size, place int) int {
	f := 0
	for link := 0; size > 0; link++ {
		with := choose(links-link-1, size-1)
		if place < with {
			f |= 1 << link
			size--
		} else {
			place -= with
		}
	}
	return f
}

// choose tells how many sets of just k of n links there are; n and k are not below 0.
func choose(n, k int) int {
	ways := 1
	for i := range k {
		ways = ways * (n - i) / (i + 1)
	}
	return ways
}

func isLink(link int) bool {
	return link >= 0 && link < api.MaxLinks
}
