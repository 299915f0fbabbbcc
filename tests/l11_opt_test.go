package tests

import (
	"fmt"
	"math"
	"math/rand"
	"slices"
	"testing"

	"loop.example/g00256/impl"
)

func wrongChoices() [][]int {
	return [][]int{{-1}, {0, -1}, {-1, 0}, {1, 2, -3, 4}, {math.MinInt}, {math.MinInt + 1}, {-1 << 32}, append(make([]int, 199), -1), make([]int, 201), make([]int, 202), rounds(3, 100000)}
}

func wantUse(t *testing.T, l []int, at int, page int, want int) {
	t.Helper()
	if next, ok := impl.NextUse(l, at, page); next != want || !ok {
		t.Errorf("NextUse(%v, %d, %d) = %d, %v, not %d", l, at, page, next, ok, want)
	}
}

// wantUses names the next use from each place on, the end being one.
func wantUses(t *testing.T, l []int, page int, want ...int) {
	t.Helper()
	if len(want) != len(l)+1 {
		t.Fatalf("%v has %d places, not %d", l, len(l)+1, len(want))
	}
	for at, next := range want {
		wantUse(t, l, at, page, next)
	}
}

func wantNoUse(t *testing.T, l []int, at int, page int) {
	t.Helper()
	if next, ok := impl.NextUse(l, at, page); next != 0 || ok {
		t.Errorf("NextUse(%v, %d, %d) = %d, %v", l, at, page, next, ok)
	}
}

func wantOpt(t *testing.T, l []int, size int, hits int, want ...int) {
	t.Helper()
	if pages, many, ok := impl.PlayOpt(l, size); !slices.Equal(pages, want) || many != hits || !ok {
		t.Errorf("PlayOpt(%v, %d) = %v, %d, %v, not %v, %d", l, size, pages, many, ok, want, hits)
	}
}

func wantNoOpt(t *testing.T, l []int, size int) {
	t.Helper()
	if pages, hits, ok := impl.PlayOpt(l, size); len(pages) != 0 || hits != 0 || ok {
		t.Errorf("PlayOpt(%v, %d) = %v, %d, %v", l, size, pages, hits, ok)
	}
}

func wantChoices(t *testing.T, l []int, size int, choices []int, hits int, want ...int) {
	t.Helper()
	if pages, many, ok := impl.PlayChoices(l, size, choices); !slices.Equal(pages, want) || many != hits || !ok {
		t.Errorf("PlayChoices(%v, %d, %v) = %v, %d, %v, not %v, %d", l, size, choices, pages, many, ok, want, hits)
	}
}

func wantNoChoices(t *testing.T, l []int, size int, choices []int) {
	t.Helper()
	if pages, hits, ok := impl.PlayChoices(l, size, choices); len(pages) != 0 || hits != 0 || ok {
		t.Errorf("PlayChoices(%v, %d, %v) = %v, %d, %v", l, size, choices, pages, hits, ok)
	}
}

// wantOptAndChoices is of references at which no choice tells anything else.
func wantOptAndChoices(t *testing.T, l []int, size int, hits int, want ...int) {
	t.Helper()
	wantOpt(t, l, size, hits, want...)
	for _, choices := range [][]int{nil, {}, {0}, {1}, {3, 5, 7}, rounds(41, 200), falling(199, 0)} {
		wantChoices(t, l, size, choices, hits, want...)
	}
}

func wantMisses(t *testing.T, l []int, size int, hits int, want int) {
	t.Helper()
	if misses, ok := impl.MissesOf(l, size, hits); misses != want || !ok {
		t.Errorf("MissesOf(%v, %d, %d) = %d, %v, not %d", l, size, hits, misses, ok, want)
	}
}

func wantNoMisses(t *testing.T, l []int, size int, hits int) {
	t.Helper()
	if misses, ok := impl.MissesOf(l, size, hits); misses != 0 || ok {
		t.Errorf("MissesOf(%v, %d, %d) = %d, %v", l, size, hits, misses, ok)
	}
}

func wantCold(t *testing.T, l []int, want int) {
	t.Helper()
	if cold, ok := impl.ColdOf(l); cold != want || !ok {
		t.Errorf("ColdOf(%v) = %d, %v, not %d", l, cold, ok, want)
	}
}

func TestNextUse(t *testing.T) {
	l := []int{1, 2, 3, 1, 4, 2}
	wantUses(t, l, 1, 0, 3, 3, 3, 6, 6, 6)
	wantUses(t, l, 2, 1, 1, 5, 5, 5, 5, 6)
	wantUses(t, l, 3, 2, 2, 2, 6, 6, 6, 6)
	wantUses(t, l, 4, 4, 4, 4, 4, 4, 6, 6)
	for _, never := range []int{0, 5, 6, 50, 99} {
		wantUses(t, l, never, 6, 6, 6, 6, 6, 6, 6)
	}
	wantUses(t, []int{0, 99, 99, 0}, 0, 0, 3, 3, 3, 4)
	wantUses(t, []int{0, 99, 99, 0}, 99, 1, 1, 2, 4, 4)
	wantUses(t, []int{7, 7, 7}, 7, 0, 1, 2, 3)
	for _, page := range []int{0, 1, 99} {
		wantUses(t, nil, page, 0)
		wantUses(t, []int{}, page, 0)
		wantUses(t, []int{page}, page, 0, 1)
		wantUses(t, []int{50}, page, 1, 1)
	}
}

func TestNextUseOfManyReferences(t *testing.T) {
	for _, pages := range []int{1, 2, 39, 40, 99, 100} {
		l := rounds(pages, 200)
		for at := range 201 {
			for page := range 100 {
				want := 200
				for i := 199; i >= at; i-- {
					if l[i] == page {
						want = i
					}
				}
				wantUse(t, l, at, page, want)
			}
		}
	}
}

func TestNextUseRefuses(t *testing.T) {
	for _, l := range [][]int{nil, {}, {0}, {1, 2, 3, 1}, rounds(7, 199), rounds(100, 200)} {
		n := len(l)
		for _, at := range []int{-1, -2, -n - 1, n + 1, n + 2, 2*n + 1, 201, 1 << 32, -1 << 32, math.MaxInt, math.MinInt, math.MinInt + 1} {
			for _, page := range []int{0, 1, 99, -1, 100} {
				wantNoUse(t, l, at, page)
			}
		}
		for _, page := range wrongPages() {
			for _, at := range []int{0, n / 2, n} {
				wantNoUse(t, l, at, page)
			}
		}
	}
	for _, l := range wrongRefs() {
		for _, at := range []int{0, 1, len(l) - 1, len(l)} {
			for _, page := range []int{0, 1, 99, l[0]} {
				wantNoUse(t, l, at, page)
			}
		}
	}
}

func TestOptAndChoicesOfNothing(t *testing.T) {
	for size := range 41 {
		wantOptAndChoices(t, nil, size, 0)
		wantOptAndChoices(t, []int{}, size, 0)
		wantOptAndChoices(t, []int{5}, size, 0, []int{5}[:min(size, 1)]...)
	}
}

func TestOptAndChoicesOfOnePage(t *testing.T) {
	for _, page := range []int{0, 1, 99} {
		for _, n := range []int{1, 2, 3, 199, 200} {
			l := slices.Repeat([]int{page}, n)
			wantOptAndChoices(t, l, 0, 0)
			for size := 1; size <= 40; size++ {
				wantOptAndChoices(t, l, size, n-1, page)
			}
		}
	}
}

func TestOptAndChoicesWithNoRoom(t *testing.T) {
	for _, l := range [][]int{{0}, {0, 0}, {1, 2, 1, 2}, rounds(1, 200), rounds(40, 200), rounds(100, 200)} {
		wantOptAndChoices(t, l, 0, 0)
		wantChoices(t, l, 0, []int{math.MaxInt}, 0)
		wantChoices(t, l, 0, make([]int, 200), 0)
	}
}

func TestOptAndChoicesWithRoomForOne(t *testing.T) {
	wantOptAndChoices(t, []int{1, 2}, 1, 0, 2)
	wantOptAndChoices(t, []int{1, 1, 2, 2, 2, 1}, 1, 3, 1)
	wantOptAndChoices(t, []int{1, 2, 1, 2, 1}, 1, 0, 1)
	wantOptAndChoices(t, []int{0, 0, 99, 99, 0}, 1, 2, 0)
	wantOptAndChoices(t, rounds(100, 200), 1, 0, 99)
}

func TestOptAndChoicesWithRoomForAll(t *testing.T) {
	l := []int{7, 3, 99, 3, 0, 7}
	for size := 4; size <= 40; size++ {
		wantOptAndChoices(t, l, size, 2, 0, 3, 7, 99)
	}
	for pages := 1; pages <= 40; pages++ {
		wantOptAndChoices(t, rounds(pages, 200), pages, 200-pages, rounds(pages, pages)...)
		wantOptAndChoices(t, falling(99, 100-pages), 40, 0, rounds(100, 100)[100-pages:]...)
	}
}

func TestOpt(t *testing.T) {
	l := []int{1, 2, 3, 1, 4, 2, 1}
	wantOpt(t, l, 1, 0, 1)
	wantOpt(t, l, 2, 2, 1, 2)
	wantOpt(t, l, 3, 3, 1, 2, 4)
	wantOpt(t, l, 4, 3, 1, 2, 3, 4)
	wantOpt(t, l, 40, 3, 1, 2, 3, 4)
	// What is wanted last is the first, the middle or the last of those there.
	wantOpt(t, []int{1, 2, 3, 4, 3, 2, 1}, 3, 2, 1, 3, 4)
	wantOpt(t, []int{1, 2, 3, 4, 3, 2}, 3, 2, 2, 3, 4)
	wantOpt(t, []int{2, 1, 3, 4, 1, 3, 2}, 3, 2, 2, 3, 4)
	wantOpt(t, []int{2, 1, 3, 4, 1, 3}, 3, 2, 1, 3, 4)
	wantOpt(t, []int{1, 2, 3, 4, 1, 2}, 3, 2, 1, 2, 4)
	wantOpt(t, []int{3, 2, 1, 4, 3, 2}, 3, 2, 2, 3, 4)
	// One that was hit is wanted again later than before.
	wantOpt(t, []int{1, 2, 1, 3, 2, 1}, 2, 2, 1, 3)
	wantOpt(t, []int{1, 2, 2, 3, 1, 2}, 2, 2, 2, 3)
	wantOpt(t, []int{1, 2, 1, 3, 2, 3}, 2, 3, 2, 3)
}

// The new one comes also where it is wanted later than all that are there, or
// no more; to pass it over would have one hit more each time.
func TestTheNewOneAlwaysComes(t *testing.T) {
	wantOpt(t, []int{1, 2, 3, 1, 2}, 2, 1, 2, 3)
	wantOpt(t, []int{1, 2, 3, 1, 2, 3}, 2, 2, 2, 3)
	wantOpt(t, []int{1, 9, 1}, 1, 0, 1)
	wantOpt(t, []int{1, 2, 3}, 2, 0, 2, 3)
	wantOpt(t, []int{3, 2, 1}, 2, 0, 1, 3)
}

func TestOptWhereSeveralAreWantedNoMore(t *testing.T) {
	wantOpt(t, []int{3, 1, 2, 4}, 3, 0, 2, 3, 4)
	wantOpt(t, []int{1, 2, 3, 4}, 3, 0, 2, 3, 4)
	wantOpt(t, []int{3, 2, 1, 4}, 3, 0, 2, 3, 4)
	wantOpt(t, []int{9, 0, 5, 99, 7}, 3, 0, 7, 9, 99)
	wantOpt(t, []int{9, 0, 5, 99, 7, 5}, 3, 1, 5, 7, 99)
	// Some are wanted again: the least goes of those that are not.
	wantOpt(t, []int{1, 2, 3, 4, 1}, 3, 1, 1, 3, 4)
	wantOpt(t, []int{1, 2, 3, 4, 2}, 3, 1, 2, 3, 4)
	wantOpt(t, []int{1, 2, 3, 4, 3}, 3, 1, 2, 3, 4)
	wantOpt(t, []int{3, 2, 1, 4, 1}, 3, 1, 1, 3, 4)
	// The last one of them has come just now.
	wantOpt(t, []int{9, 8, 7, 6, 5, 9}, 2, 1, 5, 9)
	for size := 1; size <= 40; size++ {
		wantOpt(t, rounds(100, 100), size, 0, rounds(100, 100)[100-size:]...)
		// Of falling pages the one that came last is the least, and goes.
		wantOpt(t, falling(99, 0), size, 0, append([]int{0}, rounds(100, 100)[101-size:]...)...)
	}
}

func TestOptOfRounds(t *testing.T) {
	// Where a round is greater than the cache by one a page is wanted last just
	// behind its turn, so that one in so many turns is none.
	for size := 1; size <= 40; size++ {
		pages, hits, ok := impl.PlayOpt(rounds(size+1, 200), size)
		if hits != 200-size-199/size || len(pages) != size || !slices.IsSorted(pages) || !ok {
			t.Errorf("PlayOpt of rounds of %d, %d: %v, %d, %v", size+1, size, pages, hits, ok)
		}
		if _, lru, ok := impl.PlayLru(rounds(size+1, 200), size); lru != 0 || !ok {
			t.Errorf("PlayLru of rounds of %d, %d: %d, %v", size+1, size, lru, ok)
		}
	}
	for size := 2; size <= 40; size++ {
		// Of the first round the last page stays, and all ahead of those that
		// went; what comes in the second one is wanted no more, and goes.
		_, hits, ok := impl.PlayOpt(rounds(100, 200), size)
		if hits != size || !ok {
			t.Errorf("PlayOpt of two rounds, %d: %d, %v", size, hits, ok)
		}
	}
}

// Belady's example has more hits with more room, if he chooses.
func TestOptOfBeladysReferences(t *testing.T) {
	l := []int{1, 2, 3, 4, 1, 2, 5, 1, 2, 3, 4, 5}
	for size, hits := range []int{0, 0, 3, 5, 6, 7, 7} {
		if _, many, ok := impl.PlayOpt(l, size); many != hits || !ok {
			t.Errorf("PlayOpt(%v, %d): %d, %v, not %d", l, size, many, ok, hits)
		}
	}
}

func TestChoices(t *testing.T) {
	l := []int{3, 1, 2, 4, 1}
	// The least goes where there is no choice (left), and for 0.
	for _, least := range [][]int{nil, {}, {0}, {0, 0}, make([]int, 200), {3}, {3, 6}, {300, 0, 7}, {math.MaxInt / 3 * 3}} {
		wantChoices(t, l, 3, least, 0, 1, 3, 4)
	}
	wantChoices(t, l, 3, []int{0, 1}, 0, 1, 2, 4)
	wantChoices(t, l, 3, []int{0, 2}, 0, 1, 2, 3)
	wantChoices(t, l, 3, []int{0, 5, 9}, 0, 1, 2, 3)
	wantChoices(t, l, 3, []int{1}, 1, 1, 3, 4)
	wantChoices(t, l, 3, []int{1, 2}, 1, 1, 3, 4)
	wantChoices(t, l, 3, []int{2}, 1, 1, 2, 4)
	wantChoices(t, l, 3, []int{4}, 1, 1, 3, 4)
	wantChoices(t, l, 3, []int{5}, 1, 1, 2, 4)
	wantChoices(t, l, 3, []int{301}, 1, 1, 3, 4)
	wantChoices(t, l, 3, []int{302}, 1, 1, 2, 4)
	wantChoices(t, l, 3, []int{math.MaxInt/3*3 - 1}, 1, 1, 2, 4)
	wantChoices(t, l, 3, []int{math.MaxInt/3*3 - 2}, 1, 1, 3, 4)
	wantChoices(t, l, 2, []int{math.MaxInt, math.MaxInt - 1, math.MaxInt}, 0, 1, 2)
}

// A choice is taken where a page goes, not at a hit, and not where there is
// room.
func TestChoicesAreTakenInTurn(t *testing.T) {
	l := []int{1, 2, 3, 3, 4, 5, 5}
	wantChoices(t, l, 2, nil, 2, 4, 5)
	wantChoices(t, l, 2, []int{1}, 2, 4, 5)
	wantChoices(t, l, 2, []int{1, 1}, 2, 4, 5)
	wantChoices(t, l, 2, []int{1, 1, 1}, 2, 1, 5)
	wantChoices(t, l, 2, []int{1, 0, 1}, 2, 3, 5)
	wantChoices(t, l, 2, []int{0, 1, 1}, 2, 2, 5)
	wantChoices(t, l, 2, []int{1, 1, 1, 1}, 2, 1, 5)
	wantChoices(t, l, 2, []int{1, 1, 1, 0, 0, 0, 0, 0}, 2, 1, 5)
	wantChoices(t, l, 2, []int{0, 0, 1}, 2, 3, 5)
}

func TestChoicesOfManyPages(t *testing.T) {
	all := rounds(100, 200)
	for size := 1; size <= 40; size++ {
		wantChoices(t, rounds(100, 100), size, nil, 0, rounds(100, 100)[100-size:]...)
		// The greatest goes, which came just now: all others stay.
		greatest := slices.Repeat([]int{size - 1}, 200)
		wantChoices(t, rounds(100, 100), size, greatest, 0, append(rounds(100, size-1), 99)...)
		if size > 1 {
			wantChoices(t, all, size, greatest, size-1, append(rounds(100, size-1), 99)...)
		}
	}
	// There are never more than 200 choices wanted.
	wantChoices(t, all, 1, make([]int, 199), 0, 99)
	wantChoices(t, all, 1, make([]int, 200), 0, 99)
	wantChoices(t, all, 1, slices.Repeat([]int{math.MaxInt}, 200), 0, 99)
}

func TestChoicesRefused(t *testing.T) {
	for _, l := range [][]int{nil, {}, {0}, {1, 2, 1, 3}, rounds(7, 200), {-1}, rounds(7, 201)} {
		for _, choices := range wrongChoices() {
			for _, size := range []int{0, 1, 2, 40, -1, 41} {
				wantNoChoices(t, l, size, choices)
			}
		}
	}
	l := []int{1, 2, 3, 1}
	for _, n := range []int{1, 2, 199, 200} {
		for at := range n {
			choices := make([]int, n)
			choices[at] = 1
			if _, _, ok := impl.PlayChoices(l, 2, choices); !ok {
				t.Errorf("PlayChoices refuses %v", choices)
			}
			choices[at] = -1
			wantNoChoices(t, l, 2, choices)
			wantNoChoices(t, nil, 0, choices)
		}
	}
}

func TestMisses(t *testing.T) {
	for _, l := range [][]int{nil, {}, {0}, {99}, {1, 2}, {1, 1, 1}, {1, 2, 3, 1, 4, 2, 1}, rounds(1, 199), rounds(100, 200)} {
		for size := range 41 {
			for hits := range len(l) + 1 {
				wantMisses(t, l, size, hits, len(l)-hits)
			}
			for _, hits := range []int{-1, -2, -len(l) - 1, len(l) + 1, len(l) + 2, 201, 1 << 32, -1 << 32, math.MaxInt, math.MinInt, math.MinInt + 1} {
				wantNoMisses(t, l, size, hits)
			}
		}
	}
}

func TestCold(t *testing.T) {
	wantCold(t, nil, 0)
	wantCold(t, []int{}, 0)
	wantCold(t, []int{1, 2, 3, 1, 4, 2, 1}, 4)
	wantCold(t, []int{0, 99, 0, 99}, 2)
	wantCold(t, []int{5, 5, 6, 5}, 2)
	for _, n := range []int{1, 2, 199, 200} {
		wantCold(t, rounds(1, n), 1)
		wantCold(t, slices.Repeat([]int{99}, n), 1)
	}
	for pages := 1; pages <= 100; pages++ {
		wantCold(t, rounds(pages, 200), pages)
		wantCold(t, rounds(pages, pages), pages)
		wantCold(t, falling(pages-1, 0), pages)
	}
}

func wantOptRefsRefused(t *testing.T, l []int) {
	t.Helper()
	for _, size := range []int{0, 1, 40} {
		wantOptSizeRefused(t, l, size)
	}
	for _, at := range []int{0, 1, len(l)} {
		wantNoUse(t, l, at, 1)
	}
	if cold, ok := impl.ColdOf(l); cold != 0 || ok {
		t.Errorf("ColdOf(%v) = %d, %v", l, cold, ok)
	}
}

func wantOptSizeRefused(t *testing.T, l []int, size int) {
	t.Helper()
	wantNoOpt(t, l, size)
	for _, choices := range [][]int{nil, {}, {0}, {1, 2, 3}, make([]int, 200)} {
		wantNoChoices(t, l, size, choices)
	}
	for _, hits := range []int{0, 1, len(l) - 1, len(l)} {
		wantNoMisses(t, l, size, hits)
	}
}

func TestOptRefuses(t *testing.T) {
	for _, l := range wrongRefs() {
		wantOptRefsRefused(t, l)
	}
	for _, l := range [][]int{nil, {}, {0}, {1, 2, 1, 3}, rounds(7, 200), {-1}} {
		for _, size := range wrongSizes() {
			wantOptSizeRefused(t, l, size)
		}
	}
}

func TestOptOfEachPlaceOfReferences(t *testing.T) {
	for _, n := range []int{1, 2, 7, 199, 200, 201} {
		for at := range n {
			for _, page := range []int{-1, 0, 1, 98, 99, 100} {
				l := rounds(100, n)
				l[at] = page
				want := n <= 200 && page >= 0 && page <= 99
				_, _, ok := impl.PlayOpt(l, 3)
				_, _, ok1 := impl.PlayChoices(l, 3, []int{1})
				_, ok2 := impl.NextUse(l, 0, 1)
				_, ok3 := impl.MissesOf(l, 3, 0)
				_, ok4 := impl.ColdOf(l)
				if ok != want || ok1 != want || ok2 != want || ok3 != want || ok4 != want {
					t.Errorf("%d at %d of %d: %v, %v, %v, %v, %v", page, at, n, ok, ok1, ok2, ok3, ok4)
				}
			}
		}
	}
}

// playByHand is a second reading: a list that is sorted each time a page comes,
// and of which goes tells the place of the page that goes.
func playByHand(l []int, size int, goes func(there []int, rest []int) int) ([]int, int) {
	there, hits := []int{}, 0
	for i, page := range l {
		if slices.Contains(there, page) {
			hits++
			continue
		}
		if size == 0 {
			continue
		}
		if len(there) == size {
			at := goes(there, l[i+1:])
			there = slices.Delete(there, at, at+1)
		}
		there = append(there, page)
		slices.Sort(there)
	}
	return there, hits
}

// optByHand tells the places, too, as choices.
func optByHand(l []int, size int) ([]int, int, []int) {
	choices := []int{}
	there, hits := playByHand(l, size, func(there []int, rest []int) int {
		// Pages are struck as they are wanted, nearest first, till one is left;
		// of those that are wanted no more the least stands first.
		left := slices.Clone(there)
		for _, page := range rest {
			if at := slices.Index(left, page); at >= 0 && len(left) > 1 {
				left = slices.Delete(left, at, at+1)
			}
		}
		choices = append(choices, slices.Index(there, left[0]))
		return choices[len(choices)-1]
	})
	return there, hits, choices
}

func choicesByHand(l []int, size int, choices []int) ([]int, int) {
	turn := -1
	return playByHand(l, size, func(there []int, rest []int) int {
		turn++
		if turn < len(choices) {
			return choices[turn] % size
		}
		return 0
	})
}

// mostHits looks through all that could go, each time a page comes.
func mostHits(l []int, size int, there []int) int {
	switch {
	case len(l) == 0 || size == 0:
		return 0
	case slices.Contains(there, l[0]):
		return 1 + mostHits(l[1:], size, there)
	case len(there) < size:
		return mostHits(l[1:], size, append(slices.Clone(there), l[0]))
	}
	most := 0
	for at := range there {
		other := slices.Clone(there)
		other[at] = l[0]
		most = max(most, mostHits(l[1:], size, other))
	}
	return most
}

// checkOpt holds the best against the second reading, and against the caches
// that do not know what is to come.
func checkOpt(t *testing.T, l []int, size int) int {
	t.Helper()
	pages, hits, choices := optByHand(l, size)
	wantOpt(t, l, size, hits, pages...)
	wantChoices(t, l, size, choices, hits, pages...)
	_, lru, ok := impl.PlayLru(l, size)
	_, fifo, ok2 := impl.PlayFifo(l, size)
	if !ok || !ok2 || lru > hits || fifo > hits {
		t.Fatalf("%v, %d: %d hits by the best, %d and %d by others", l, size, hits, lru, fifo)
	}
	misses, ok := impl.MissesOf(l, size, hits)
	cold, ok2 := impl.ColdOf(l)
	if !ok || !ok2 || misses != len(l)-hits || misses < cold || cold != unlikeByHand(l) || size >= cold && misses != cold {
		t.Fatalf("%v, %d: %d misses, %d at least", l, size, misses, cold)
	}
	return hits
}

func checkChoices(t *testing.T, l []int, size int, choices []int, best int) {
	t.Helper()
	pages, hits := choicesByHand(l, size, choices)
	wantChoices(t, l, size, choices, hits, pages...)
	if hits > best {
		t.Fatalf("PlayChoices(%v, %d, %v) has %d hits, the best %d", l, size, choices, hits, best)
	}
}

// checkPromiseOfRoom asks what Sleator and Tarjan tell: with room for k pages,
// what was used least lately misses at most k/(k-h+1) times what the best one
// with room for h does, and h more.
func checkPromiseOfRoom(t *testing.T, l []int) {
	t.Helper()
	lru, ok := impl.HitsOf(l)
	if !ok || len(lru) != 41 {
		t.Fatalf("HitsOf(%v) = %v, %v", l, lru, ok)
	}
	lesser := 0
	for h := 1; h <= 40; h++ {
		_, best, ok := impl.PlayOpt(l, h)
		if !ok || best < lesser {
			t.Fatalf("PlayOpt(%v, %d): %d hits, %v, with less room %d", l, h, best, ok, lesser)
		}
		lesser = best
		most, _ := impl.MissesOf(l, h, best)
		for k := h; k <= 40; k++ {
			misses, ok := impl.MissesOf(l, k, lru[k])
			if !ok || misses*(k-h+1) > k*most+h*(k-h+1) {
				t.Fatalf("%v: %d misses with room for %d, but the best %d with %d", l, misses, k, most, h)
			}
		}
	}
}

// eachChoices goes through all lists of so many choices below size.
func eachChoices(n int, size int, try func(choices []int)) {
	choices := make([]int, n)
	var each func(at int)
	each = func(at int) {
		if at == n {
			try(choices)
			return
		}
		for choices[at] = 0; choices[at] < size; choices[at]++ {
			each(at + 1)
		}
	}
	each(0)
}

func TestOptOfAllShortReferences(t *testing.T) {
	l, better := []int{}, 0
	var each func()
	each = func() {
		for size := range 5 {
			best := checkOpt(t, l, size)
			if want := mostHits(l, size, nil); best != want {
				t.Fatalf("PlayOpt(%v, %d): %d hits, but %d could be", l, size, best, want)
			}
			if _, lru, _ := impl.PlayLru(l, size); lru < best {
				better++
			}
			if size > 0 && len(l) > size && len(l) <= 6 {
				eachChoices(len(l)-size, size, func(choices []int) {
					checkChoices(t, l, size, choices, best)
				})
			}
		}
		if len(l) == 7 {
			return
		}
		for page := range 4 {
			l = append(l, page)
			each()
			l = l[:len(l)-1]
		}
	}
	each()
	if better < 1000 {
		t.Error(better)
	}
}

func anyChoices(r *rand.Rand, size int) []int {
	choices := []int{}
	for range []int{0, r.Intn(12), r.Intn(201), 200}[r.Intn(4)] {
		choices = append(choices, []int{0, r.Intn(size + 1), size, r.Intn(100), r.Int(), math.MaxInt}[r.Intn(6)])
	}
	return choices
}

func TestRandomBestBySecondReading(t *testing.T) {
	r := rand.New(rand.NewSource(111))
	better, worse := 0, 0
	for range 500 {
		l := anyRefs(r)
		for _, size := range []int{r.Intn(41), r.Intn(9), []int{0, 1, 2, 39, 40}[r.Intn(5)]} {
			best := checkOpt(t, l, size)
			for range 5 {
				choices := anyChoices(r, size)
				checkChoices(t, l, size, choices, best)
				if _, hits := choicesByHand(l, size, choices); hits < best {
					worse++
				}
			}
			if _, lru, _ := impl.PlayLru(l, size); lru < best {
				better++
			}
		}
		checkPromiseOfRoom(t, l)
		for range 20 {
			at, page := r.Intn(len(l)+1), r.Intn(100)
			if next := slices.Index(l[at:], page); next >= 0 {
				wantUse(t, l, at, page, at+next)
			} else {
				wantUse(t, l, at, page, len(l))
			}
		}
	}
	if better < 200 || worse < 1000 {
		t.Error(better, worse)
	}
}

// optAnswers are those of all functions.
func optAnswers(l []int, choices []int, at int, page int, size int, hits int) []any {
	next, ok := impl.NextUse(l, at, page)
	pages, many, ok1 := impl.PlayOpt(l, size)
	chosen, few, ok2 := impl.PlayChoices(l, size, choices)
	misses, ok3 := impl.MissesOf(l, size, hits)
	cold, ok4 := impl.ColdOf(l)
	return []any{next, ok, pages, many, ok1, chosen, few, ok2, misses, ok3, cold, ok4}
}

func TestOptFunctionsWriteIntoNothingAndShareNothing(t *testing.T) {
	r := rand.New(rand.NewSource(112))
	for range 3000 {
		l, size := anyRefs(r), r.Intn(41)
		choices := anyChoices(r, size)
		at, page, hits := r.Intn(len(l)+1), r.Intn(100), r.Intn(len(l)+1)
		switch r.Intn(9) {
		case 0:
			l = append(l, -1)
		case 1:
			choices = append(choices, -1)
		}
		plain := fmt.Sprint(optAnswers(slices.Clone(l), slices.Clone(choices), at, page, size, hits)...)
		for _, spare := range []int{page, 100, 0, -1} {
			refs, given := withSpare(l, spare), withSpare(choices, spare)
			before, beforeChoices := slices.Clone(refs[:cap(refs)]), slices.Clone(given[:cap(given)])
			told := optAnswers(refs, given, at, page, size, hits)
			if fmt.Sprint(told...) != plain {
				t.Fatalf("what lies behind the lists counts: %v, %v", l, choices)
			}
			for _, answer := range told {
				if list, is := answer.([]int); is {
					checkNothingBehind(t, list)
					fill(list, 77)
				}
			}
			if !slices.Equal(refs[:cap(refs)], before) || !slices.Equal(given[:cap(given)], beforeChoices) {
				t.Fatalf("%v or %v is written into", l, choices)
			}
			if fmt.Sprint(optAnswers(refs, given, at, page, size, hits)...) != plain {
				t.Fatalf("answers share memory: %v, %v", l, choices)
			}
		}
	}
}

// One list may be handed in as references and as choices.
func TestReferencesAsTheirOwnChoices(t *testing.T) {
	r := rand.New(rand.NewSource(113))
	for range 300 {
		l, size := anyRefs(r), r.Intn(41)
		before := slices.Clone(l)
		pages, hits := choicesByHand(before, size, before)
		wantChoices(t, l, size, l, hits, pages...)
		if !slices.Equal(l, before) {
			t.Fatalf("%v is written into: %v", before, l)
		}
	}
}

// A map is gone through each time in another order: the answers are the same.
func TestOptTellsTheSameEachTime(t *testing.T) {
	for _, l := range [][]int{rounds(100, 200), falling(99, 0), append(falling(99, 0), rounds(100, 100)...)} {
		for _, size := range []int{2, 20, 40} {
			first := fmt.Sprint(optAnswers(l, []int{7, 3, 1}, 0, 50, size, 0)...)
			for range 50 {
				if again := fmt.Sprint(optAnswers(l, []int{7, 3, 1}, 0, 50, size, 0)...); again != first {
					t.Fatalf("%v, %d: %s, then %s", l, size, first, again)
				}
			}
		}
	}
}

// Any numbers, at each function: no panic, and the second reading's answer, or
// nothing.
func TestOptFunctionsAnswerAtAnything(t *testing.T) {
	r := rand.New(rand.NewSource(114))
	number := func(usual int) int {
		if r.Intn(12) == 0 {
			return []int{-1, 0, 1, 40, 41, 99, 100, 200, 201, int(r.Uint64()), math.MaxInt, math.MinInt}[r.Intn(12)]
		}
		return usual
	}
	counts := map[string]int{}
	for range 20000 {
		l := anyRefs(r)
		if r.Intn(5) == 0 {
			l = append(l, number(5), number(6))
		}
		size, page := number(r.Intn(41)), number(r.Intn(100))
		at, hits := number(r.Intn(len(l)+1)), number(r.Intn(len(l)+1))
		choices := anyChoices(r, r.Intn(41))
		if r.Intn(5) == 0 {
			choices = append(choices, number(5), number(6))
		}

		isPage := func(n int) bool { return n >= 0 && n <= 99 }
		goodRefs := len(l) <= 200 && !slices.ContainsFunc(l, func(n int) bool { return !isPage(n) })
		goodSize := goodRefs && size >= 0 && size <= 40
		goodChoices := goodSize && len(choices) <= 200 && !slices.ContainsFunc(choices, func(n int) bool { return n < 0 })
		goodUse := goodRefs && at >= 0 && at <= len(l) && isPage(page)
		goodHits := goodSize && hits >= 0 && hits <= len(l)
		counts[fmt.Sprint("refs ", goodRefs)]++
		counts[fmt.Sprint("size ", goodSize)]++
		counts[fmt.Sprint("choices ", goodChoices)]++
		counts[fmt.Sprint("use ", goodUse)]++
		counts[fmt.Sprint("hits ", goodHits)]++

		if !goodRefs {
			wantOptRefsRefused(t, l)
		} else {
			wantCold(t, l, unlikeByHand(l))
		}
		if !goodSize {
			wantOptSizeRefused(t, l, size)
		} else if r.Intn(9) == 0 {
			checkOpt(t, l, size)
		}
		if !goodChoices {
			wantNoChoices(t, l, size, choices)
		} else if r.Intn(9) == 0 {
			pages, many := choicesByHand(l, size, choices)
			wantChoices(t, l, size, choices, many, pages...)
		}
		if !goodUse {
			wantNoUse(t, l, at, page)
		} else if next := slices.Index(l[at:], page); next >= 0 {
			wantUse(t, l, at, page, at+next)
		} else {
			wantUse(t, l, at, page, len(l))
		}
		if !goodHits {
			wantNoMisses(t, l, size, hits)
		} else {
			wantMisses(t, l, size, hits, len(l)-hits)
		}
	}
	if len(counts) != 10 {
		t.Error(counts)
	}
	for kind, n := range counts {
		if n < 300 {
			t.Error(kind, n)
		}
	}
}
