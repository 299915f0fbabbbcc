package tests

import (
	"fmt"
	"math"
	"math/rand"
	"slices"
	"testing"

	"loop.example/g00256/impl"
)

// rounds are n references that go round pages from 0 on.
func rounds(pages int, n int) []int {
	l := []int{}
	for i := range n {
		l = append(l, i%pages)
	}
	return l
}

// falling are the pages from the first one down to the last one.
func falling(first int, last int) []int {
	l := []int{}
	for page := first; page >= last; page-- {
		l = append(l, page)
	}
	return l
}

func wrongPages() []int {
	return []int{-1, 100, 101, -99, 200, 1 << 32, -1 << 32, math.MaxInt, math.MinInt, math.MinInt + 1}
}

// wrongRefs are such that are not good, each by one thing.
func wrongRefs() [][]int {
	l := [][]int{rounds(3, 201), rounds(100, 201), rounds(1, 100000)}
	for _, wrong := range wrongPages() {
		l = append(l, []int{wrong}, []int{1, wrong}, []int{wrong, 1, 2}, append(rounds(9, 199), wrong), append([]int{wrong}, rounds(9, 199)...))
	}
	return l
}

func wrongSizes() []int {
	return []int{-1, 41, 42, -40, 200, 1 << 32, -1 << 32, math.MaxInt, math.MinInt, math.MinInt + 1}
}

func wrongWindows() []int {
	return []int{0, -1, 201, 202, -200, 1 << 32, -1 << 32, math.MaxInt, math.MaxInt - 1, math.MinInt, math.MinInt + 1}
}

func wantTouch(t *testing.T, stack []int, page int, size int, hit bool, want ...int) {
	t.Helper()
	if touched, was, ok := impl.TouchLru(stack, page, size); !slices.Equal(touched, want) || was != hit || !ok {
		t.Errorf("TouchLru(%v, %d, %d) = %v, %v, %v, not %v, %v", stack, page, size, touched, was, ok, want, hit)
	}
}

func wantNoTouch(t *testing.T, stack []int, page int, size int) {
	t.Helper()
	if touched, hit, ok := impl.TouchLru(stack, page, size); len(touched) != 0 || hit || ok {
		t.Errorf("TouchLru(%v, %d, %d) = %v, %v, %v", stack, page, size, touched, hit, ok)
	}
}

func wantLru(t *testing.T, l []int, size int, hits int, want ...int) {
	t.Helper()
	if stack, many, ok := impl.PlayLru(l, size); !slices.Equal(stack, want) || many != hits || !ok {
		t.Errorf("PlayLru(%v, %d) = %v, %d, %v, not %v, %d", l, size, stack, many, ok, want, hits)
	}
}

func wantFifo(t *testing.T, l []int, size int, hits int, want ...int) {
	t.Helper()
	if stack, many, ok := impl.PlayFifo(l, size); !slices.Equal(stack, want) || many != hits || !ok {
		t.Errorf("PlayFifo(%v, %d) = %v, %d, %v, not %v, %d", l, size, stack, many, ok, want, hits)
	}
}

// wantBoth is of references at which both caches tell the same.
func wantBoth(t *testing.T, l []int, size int, hits int, want ...int) {
	t.Helper()
	wantLru(t, l, size, hits, want...)
	wantFifo(t, l, size, hits, want...)
}

func wantDistances(t *testing.T, l []int, want ...int) {
	t.Helper()
	if distances, ok := impl.DistancesOf(l); !slices.Equal(distances, want) || !ok {
		t.Errorf("DistancesOf(%v) = %v, %v, not %v", l, distances, ok, want)
	}
}

// wantHits names the first hits; those of all greater sizes are as the last.
func wantHits(t *testing.T, l []int, want ...int) {
	t.Helper()
	for len(want) < 41 {
		want = append(want, want[len(want)-1])
	}
	if hits, ok := impl.HitsOf(l); !slices.Equal(hits, want) || !ok {
		t.Errorf("HitsOf(%v) = %v, %v, not %v", l, hits, ok, want)
	}
}

func wantStack(t *testing.T, l []int, want ...int) {
	t.Helper()
	if stack, ok := impl.StackAfter(l); !slices.Equal(stack, want) || !ok {
		t.Errorf("StackAfter(%v) = %v, %v, not %v", l, stack, ok, want)
	}
}

func wantWorking(t *testing.T, l []int, window int, want ...int) {
	t.Helper()
	if sizes, ok := impl.WorkingSet(l, window); !slices.Equal(sizes, want) || !ok {
		t.Errorf("WorkingSet(%v, %d) = %v, %v, not %v", l, window, sizes, ok, want)
	}
}

func wantRefsRefused(t *testing.T, l []int) {
	t.Helper()
	if impl.GoodRefs(l) {
		t.Errorf("%v are good", l)
	}
	for _, size := range []int{0, 1, 40} {
		wantSizeRefused(t, l, size)
	}
	for _, window := range []int{1, 2, 200} {
		wantWindowRefused(t, l, window)
	}
	if distances, ok := impl.DistancesOf(l); len(distances) != 0 || ok {
		t.Errorf("DistancesOf(%v) = %v, %v", l, distances, ok)
	}
	if hits, ok := impl.HitsOf(l); len(hits) != 0 || ok {
		t.Errorf("HitsOf(%v) = %v, %v", l, hits, ok)
	}
	if stack, ok := impl.StackAfter(l); len(stack) != 0 || ok {
		t.Errorf("StackAfter(%v) = %v, %v", l, stack, ok)
	}
}

func wantSizeRefused(t *testing.T, l []int, size int) {
	t.Helper()
	if stack, hits, ok := impl.PlayLru(l, size); len(stack) != 0 || hits != 0 || ok {
		t.Errorf("PlayLru(%v, %d) = %v, %d, %v", l, size, stack, hits, ok)
	}
	if stack, hits, ok := impl.PlayFifo(l, size); len(stack) != 0 || hits != 0 || ok {
		t.Errorf("PlayFifo(%v, %d) = %v, %d, %v", l, size, stack, hits, ok)
	}
}

func wantWindowRefused(t *testing.T, l []int, window int) {
	t.Helper()
	if sizes, ok := impl.WorkingSet(l, window); len(sizes) != 0 || ok {
		t.Errorf("WorkingSet(%v, %d) = %v, %v", l, window, sizes, ok)
	}
}

func TestLruNumbers(t *testing.T) {
	if impl.MaxRefs != 200 || impl.MaxPages != 40 {
		t.Error(impl.MaxRefs, impl.MaxPages)
	}
}

func TestGoodRefs(t *testing.T) {
	for _, l := range [][]int{nil, {}, {0}, {99}, {0, 99}, {99, 0, 99}, {5, 5, 5}, rounds(100, 100), rounds(100, 199), rounds(100, 200), rounds(1, 200), falling(99, 0)} {
		if !impl.GoodRefs(l) {
			t.Errorf("%v are not good", l)
		}
	}
	for _, l := range wrongRefs() {
		wantRefsRefused(t, l)
	}
}

func TestEachPlaceOfReferences(t *testing.T) {
	for _, n := range []int{1, 2, 7, 199, 200, 201} {
		for at := range n {
			for _, page := range []int{-1, 0, 1, 98, 99, 100} {
				l := rounds(100, n)
				l[at] = page
				want := n <= 200 && page >= 0 && page <= 99
				if impl.GoodRefs(l) != want {
					t.Errorf("%d at %d of %d", page, at, n)
				}
				if _, _, ok := impl.PlayLru(l, 3); ok != want {
					t.Errorf("PlayLru: %d at %d of %d", page, at, n)
				}
			}
		}
	}
}

func TestTouchLru(t *testing.T) {
	wantTouch(t, nil, 0, 1, false, 0)
	wantTouch(t, []int{}, 99, 40, false, 99)
	wantTouch(t, []int{7}, 7, 1, true, 7)
	wantTouch(t, []int{7}, 8, 1, false, 8)
	wantTouch(t, []int{7}, 7, 2, true, 7)
	wantTouch(t, []int{7}, 8, 2, false, 8, 7)
	stack := []int{4, 2, 9, 0, 99}
	wantTouch(t, stack, 4, 5, true, 4, 2, 9, 0, 99)
	wantTouch(t, stack, 2, 5, true, 2, 4, 9, 0, 99)
	wantTouch(t, stack, 9, 5, true, 9, 4, 2, 0, 99)
	wantTouch(t, stack, 0, 5, true, 0, 4, 2, 9, 99)
	wantTouch(t, stack, 99, 5, true, 99, 4, 2, 9, 0)
	wantTouch(t, stack, 1, 5, false, 1, 4, 2, 9, 0)
	wantTouch(t, stack, 4, 6, true, 4, 2, 9, 0, 99)
	wantTouch(t, stack, 99, 6, true, 99, 4, 2, 9, 0)
	wantTouch(t, stack, 1, 6, false, 1, 4, 2, 9, 0, 99)
	wantTouch(t, stack, 1, 40, false, 1, 4, 2, 9, 0, 99)
}

func TestTouchLruWithNoRoom(t *testing.T) {
	for _, page := range []int{0, 1, 50, 99} {
		wantTouch(t, nil, page, 0, false)
		wantTouch(t, []int{}, page, 0, false)
		wantNoTouch(t, []int{page}, page, 0)
		wantNoTouch(t, []int{98}, page, 0)
	}
}

func TestTouchLruWithAllRoom(t *testing.T) {
	full := falling(39, 0)
	wantTouch(t, full, 40, 40, false, falling(40, 1)...)
	wantTouch(t, full, 39, 40, true, full...)
	wantTouch(t, full, 0, 40, true, append([]int{0}, falling(39, 1)...)...)
	wantTouch(t, full[:39], 40, 40, false, append([]int{40}, falling(39, 1)...)...)
	wantTouch(t, full[:39], 40, 39, false, append([]int{40}, falling(39, 2)...)...)
	for _, page := range []int{0, 20, 39, 40, 99} {
		wantNoTouch(t, full, page, 39)
		wantNoTouch(t, full, page, 41)
		wantNoTouch(t, falling(40, 0), page, 40)
		wantNoTouch(t, falling(40, 0), page, 41)
		wantNoTouch(t, falling(99, 0), page, 40)
	}
}

// touchByHand tells what stands after a page is touched.
func touchByHand(stack []int, page int, size int) ([]int, bool) {
	touched := append([]int{page}, slices.DeleteFunc(slices.Clone(stack), func(other int) bool { return other == page })...)
	return touched[:min(size, len(touched))], slices.Contains(stack, page)
}

func TestTouchLruOfEachStack(t *testing.T) {
	for n := range 41 {
		stack := []int{}
		for i := range n {
			stack = append(stack, i*37%100)
		}
		for size := n; size <= 40; size++ {
			for page := range 100 {
				want, hit := touchByHand(stack, page, size)
				wantTouch(t, stack, page, size, hit, want...)
			}
		}
		for size := range n {
			wantNoTouch(t, stack, 0, size)
			wantNoTouch(t, stack, 99, size)
		}
	}
}

func TestTouchLruRefuses(t *testing.T) {
	for _, page := range wrongPages() {
		for _, size := range []int{0, 1, 3, 40} {
			wantNoTouch(t, nil, page, size)
			wantNoTouch(t, []int{page}, 1, size)
			wantNoTouch(t, []int{page}, page, size)
		}
		wantNoTouch(t, []int{1, 2}, page, 3)
		for at := range 3 {
			stack := []int{5, 6, 7}
			stack[at] = page
			wantNoTouch(t, stack, 1, 3)
			wantNoTouch(t, stack, 6, 40)
			wantNoTouch(t, stack, page, 4)
		}
	}
	for _, size := range wrongSizes() {
		wantNoTouch(t, nil, 1, size)
		wantNoTouch(t, []int{1}, 1, size)
		wantNoTouch(t, []int{1, 2, 3}, 1, size)
		wantNoTouch(t, falling(40, 0), 1, size)
	}
	for _, stack := range [][]int{{1, 1}, {0, 0}, {99, 99}, {1, 2, 1}, {2, 1, 1}, {1, 1, 2}, {3, 1, 2, 1, 4}, append(falling(38, 0), 38), append(falling(38, 0), 0), rounds(3, 100000)} {
		for _, page := range []int{0, 1, 2, 5, 38, 99} {
			wantNoTouch(t, stack, page, len(stack))
			wantNoTouch(t, stack, page, 40)
		}
	}
}

func TestPlaysOfOnePage(t *testing.T) {
	for _, page := range []int{0, 1, 99} {
		for _, n := range []int{1, 2, 3, 199, 200} {
			l := slices.Repeat([]int{page}, n)
			wantBoth(t, l, 0, 0)
			for size := 1; size <= 40; size++ {
				wantBoth(t, l, size, n-1, page)
			}
		}
	}
}

func TestPlaysOfNothing(t *testing.T) {
	for size := range 41 {
		wantBoth(t, nil, size, 0)
		wantBoth(t, []int{}, size, 0)
		wantBoth(t, []int{5}, size, 0, []int{5}[:min(size, 1)]...)
	}
}

func TestPlaysWithNoRoom(t *testing.T) {
	for _, l := range [][]int{{0}, {0, 0}, {1, 2, 1, 2}, rounds(1, 200), rounds(40, 200), rounds(100, 200)} {
		wantBoth(t, l, 0, 0)
	}
}

func TestPlaysWithRoomForOne(t *testing.T) {
	wantBoth(t, []int{1, 2}, 1, 0, 2)
	wantBoth(t, []int{1, 1, 2, 2, 2, 1}, 1, 3, 1)
	wantBoth(t, []int{1, 2, 1, 2, 1}, 1, 0, 1)
	wantBoth(t, []int{0, 0, 99, 99, 0}, 1, 2, 0)
}

func TestPlaysOfRounds(t *testing.T) {
	// Where a round is greater than the cache by one each page goes just ahead
	// of its turn.
	for size := 1; size <= 40; size++ {
		pages := size + 1
		whole := 200 / pages * pages
		wantBoth(t, rounds(pages, whole), size, 0, falling(size, 1)...)
		if pages <= 40 {
			wantBoth(t, rounds(pages, whole), pages, whole-pages, falling(size, 0)...)
		}
	}
}

func TestPlays(t *testing.T) {
	wantBoth(t, []int{1, 2, 3}, 2, 0, 3, 2)
	wantBoth(t, []int{1, 2, 3}, 3, 0, 3, 2, 1)
	wantBoth(t, []int{1, 2, 3}, 40, 0, 3, 2, 1)
	wantBoth(t, []int{1, 2, 2, 3, 3, 3}, 2, 3, 3, 2)
	// A hit moves its page ahead in the one, not in the other.
	wantLru(t, []int{1, 2, 1}, 2, 1, 1, 2)
	wantFifo(t, []int{1, 2, 1}, 2, 1, 2, 1)
	wantLru(t, []int{1, 2, 1, 3, 1}, 2, 2, 1, 3)
	wantFifo(t, []int{1, 2, 1, 3, 1}, 2, 1, 1, 3)
	l := []int{1, 2, 3, 1, 4, 2}
	wantLru(t, l, 1, 0, 2)
	wantFifo(t, l, 1, 0, 2)
	wantLru(t, l, 2, 0, 2, 4)
	wantFifo(t, l, 2, 0, 2, 4)
	wantLru(t, l, 3, 1, 2, 4, 1)
	wantFifo(t, l, 3, 2, 4, 3, 2)
	wantLru(t, l, 4, 2, 2, 4, 1, 3)
	wantFifo(t, l, 4, 2, 4, 3, 2, 1)
	wantLru(t, l, 40, 2, 2, 4, 1, 3)
	wantFifo(t, l, 40, 2, 4, 3, 2, 1)
}

// Belady's example: more room may have fewer hits where what came first goes,
// never where what was used least lately goes.
func TestMoreRoomMayHaveFewerHits(t *testing.T) {
	l := []int{1, 2, 3, 4, 1, 2, 5, 1, 2, 3, 4, 5}
	wantFifo(t, l, 3, 3, 4, 3, 5)
	wantFifo(t, l, 4, 2, 5, 4, 3, 2)
	wantLru(t, l, 3, 2, 5, 4, 3)
	wantLru(t, l, 4, 4, 5, 4, 3, 2)
	wantHits(t, l, 0, 0, 0, 2, 4, 7)
}

func TestPlaysOfManyPages(t *testing.T) {
	all := rounds(100, 200)
	for size := range 41 {
		wantBoth(t, all, size, 0, falling(99, 100-size)...)
	}
	back := append(rounds(40, 40), falling(39, 0)...)
	wantLru(t, back, 40, 40, rounds(40, 40)...)
	wantFifo(t, back, 40, 40, falling(39, 0)...)
	wantLru(t, back, 39, 39, rounds(39, 39)...)
	wantFifo(t, back, 39, 39, append([]int{0}, falling(39, 2)...)...)
	wantBoth(t, rounds(40, 200), 40, 160, falling(39, 0)...)
}

func TestDistances(t *testing.T) {
	wantDistances(t, nil)
	wantDistances(t, []int{})
	wantDistances(t, []int{0}, 0)
	wantDistances(t, []int{99}, 0)
	wantDistances(t, []int{1, 2, 3}, 0, 0, 0)
	wantDistances(t, []int{1, 1}, 0, 1)
	wantDistances(t, []int{1, 1, 1, 1}, 0, 1, 1, 1)
	wantDistances(t, []int{1, 2, 1}, 0, 0, 2)
	wantDistances(t, []int{1, 2, 2, 1}, 0, 0, 1, 2)
	wantDistances(t, []int{1, 2, 2, 2, 1, 1, 2}, 0, 0, 1, 1, 2, 1, 2)
	wantDistances(t, []int{1, 2, 3, 2, 3, 1}, 0, 0, 0, 2, 2, 3)
	wantDistances(t, []int{1, 2, 3, 1, 4, 2}, 0, 0, 0, 3, 0, 4)
	wantDistances(t, []int{0, 99, 0, 50, 99}, 0, 0, 2, 0, 3)
	for _, pages := range []int{1, 2, 39, 40, 41, 99, 100} {
		want := []int{}
		for i := range 200 {
			want = append(want, []int{0, pages}[min(i/pages, 1)])
		}
		wantDistances(t, rounds(pages, 200), want...)
	}
	// There and back again: the nearest first.
	wantDistances(t, append(rounds(100, 100), falling(99, 0)...), append(make([]int, 100), append([]int{1}, rounds(101, 101)[2:]...)...)...)
}

func TestHits(t *testing.T) {
	wantHits(t, nil, 0)
	wantHits(t, []int{}, 0)
	wantHits(t, []int{7}, 0)
	wantHits(t, []int{7, 7}, 0, 1)
	wantHits(t, rounds(1, 200), 0, 199)
	wantHits(t, []int{1, 2, 1}, 0, 0, 1)
	wantHits(t, []int{1, 2, 3, 1, 4, 2}, 0, 0, 0, 1, 2)
	wantHits(t, []int{1, 2, 2, 2, 1, 1, 2}, 0, 3, 5)
	wantHits(t, rounds(39, 200), append(make([]int, 39), 161)...)
	wantHits(t, rounds(40, 200), append(make([]int, 40), 160)...)
	wantHits(t, rounds(41, 200), 0)
	wantHits(t, rounds(100, 200), 0)
	wantHits(t, append(rounds(100, 100), falling(99, 0)...), rounds(41, 41)...)
}

func TestStackAfter(t *testing.T) {
	wantStack(t, nil)
	wantStack(t, []int{})
	wantStack(t, []int{0}, 0)
	wantStack(t, []int{99, 99, 99}, 99)
	wantStack(t, []int{1, 2, 3}, 3, 2, 1)
	wantStack(t, []int{1, 2, 3, 1}, 1, 3, 2)
	wantStack(t, []int{1, 2, 3, 1, 4, 2}, 2, 4, 1, 3)
	wantStack(t, rounds(39, 78), falling(38, 0)...)
	wantStack(t, rounds(40, 40), falling(39, 0)...)
	wantStack(t, rounds(40, 200), falling(39, 0)...)
	wantStack(t, rounds(41, 41), falling(40, 1)...)
	wantStack(t, rounds(41, 82), falling(40, 1)...)
	wantStack(t, rounds(100, 200), falling(99, 60)...)
	wantStack(t, append(rounds(100, 100), 0, 1, 59), append([]int{59, 1, 0}, falling(99, 63)...)...)
}

func TestWorkingSet(t *testing.T) {
	l := []int{1, 2, 3, 1, 4, 2}
	wantWorking(t, l, 1, 1, 1, 1, 1, 1, 1)
	wantWorking(t, l, 2, 1, 2, 2, 2, 2, 2)
	wantWorking(t, l, 3, 1, 2, 3, 3, 3, 3)
	wantWorking(t, l, 4, 1, 2, 3, 3, 4, 4)
	wantWorking(t, l, 5, 1, 2, 3, 3, 4, 4)
	wantWorking(t, l, 6, 1, 2, 3, 3, 4, 4)
	wantWorking(t, l, 7, 1, 2, 3, 3, 4, 4)
	wantWorking(t, l, 200, 1, 2, 3, 3, 4, 4)
	wantWorking(t, []int{5, 5, 6, 6, 5, 7}, 2, 1, 1, 2, 1, 2, 2)
	wantWorking(t, []int{5, 5, 6, 6, 5, 7}, 3, 1, 1, 2, 2, 2, 3)
	wantWorking(t, []int{0, 99, 0, 99, 0}, 200, 1, 2, 2, 2, 2)
	for _, window := range []int{1, 2, 199, 200} {
		wantWorking(t, nil, window)
		wantWorking(t, []int{}, window)
		wantWorking(t, []int{0}, window, 1)
		wantWorking(t, rounds(1, 200), window, slices.Repeat([]int{1}, 200)...)
		unlike := []int{}
		for i := range 100 {
			unlike = append(unlike, min(i+1, window))
		}
		wantWorking(t, falling(99, 0), window, unlike...)
	}
	// The window of 199 has not the first of 200 references, that of 200 has it.
	last := append([]int{7}, rounds(3, 199)...)
	for window, want := range map[int]int{1: 1, 2: 2, 3: 3, 4: 3, 198: 3, 199: 3, 200: 4} {
		if sizes, ok := impl.WorkingSet(last, window); !ok || len(sizes) != 200 || sizes[199] != want {
			t.Errorf("WorkingSet(%v, %d) = %v, %v", last, window, sizes, ok)
		}
	}
}

func TestSizesAndWindowsRefused(t *testing.T) {
	for _, l := range [][]int{nil, {}, {0}, {1, 2, 1, 3}, rounds(7, 200), {-1}} {
		for _, size := range wrongSizes() {
			wantSizeRefused(t, l, size)
		}
		for _, window := range wrongWindows() {
			wantWindowRefused(t, l, window)
		}
	}
}

// lastUnlike are the pages of references from the last one back, each once, at
// most so many: what was used last.
func lastUnlike(l []int, most int) []int {
	pages := []int{}
	for i := len(l) - 1; i >= 0 && len(pages) < most; i-- {
		if !slices.Contains(pages, l[i]) {
			pages = append(pages, l[i])
		}
	}
	return pages
}

// lruByHand is a second reading: a cache has what was used last.
func lruByHand(l []int, size int) ([]int, int) {
	hits := 0
	for i, page := range l {
		if slices.Contains(lastUnlike(l[:i], size), page) {
			hits++
		}
	}
	return lastUnlike(l, size), hits
}

// fifoByHand is a second reading: a cache has what came last.
func fifoByHand(l []int, size int) ([]int, int) {
	came, hits := []int{}, 0
	for _, page := range l {
		if slices.Contains(came[:min(size, len(came))], page) {
			hits++
		} else {
			came = append([]int{page}, came...)
		}
	}
	return came[:min(size, len(came))], hits
}

func unlikeByHand(l []int) int {
	return len(slices.Compact(slices.Sorted(slices.Values(l))))
}

func distancesByHand(l []int) []int {
	distances := []int{}
	for i, page := range l {
		distance := 0
		for j := range i {
			if l[j] == page {
				distance = unlikeByHand(l[j+1 : i+1])
			}
		}
		distances = append(distances, distance)
	}
	return distances
}

func workingByHand(l []int, window int) []int {
	sizes := []int{}
	for i := range l {
		had := []int{}
		for j := i; j >= 0 && j > i-window; j-- {
			had = append(had, l[j])
		}
		sizes = append(sizes, unlikeByHand(had))
	}
	return sizes
}

// touchInTurn are the stack and the hits of TouchLru of each.
func touchInTurn(t *testing.T, l []int, size int) ([]int, int) {
	t.Helper()
	stack, hits := []int(nil), 0
	for _, page := range l {
		touched, hit, ok := impl.TouchLru(stack, page, size)
		if !ok {
			t.Fatalf("TouchLru(%v, %d, %d) = %v, %v, %v", stack, page, size, touched, hit, ok)
		}
		if hit {
			hits++
		}
		stack = touched
	}
	return stack, hits
}

// checkPlays holds both caches of one size against the second reading.
func checkPlays(t *testing.T, l []int, size int) {
	t.Helper()
	stack, hits := lruByHand(l, size)
	wantLru(t, l, size, hits, stack...)
	turned, many := touchInTurn(t, l, size)
	if !slices.Equal(turned, stack) || many != hits {
		t.Errorf("TouchLru of each of %v, %d: %v, %d", l, size, turned, many)
	}
	came, hits := fifoByHand(l, size)
	wantFifo(t, l, size, hits, came...)
}

// checkPromise asks for promise 10: of the caches of all sizes each has what
// the lesser ones have, and the distances tell the hits of each.
func checkPromise(t *testing.T, l []int) {
	t.Helper()
	distances, ok := impl.DistancesOf(l)
	hits, ok2 := impl.HitsOf(l)
	whole, ok3 := impl.StackAfter(l)
	if !ok || !ok2 || !ok3 || len(hits) != 41 || len(whole) != min(unlikeByHand(l), 40) {
		t.Fatalf("%v: %v, %v, %v", l, distances, hits, whole)
	}
	lesser := []int{}
	for size, many := range hits {
		stack, played, ok := impl.PlayLru(l, size)
		if !ok || played != many || !slices.Equal(stack, whole[:min(size, len(whole))]) || !slices.Equal(lesser, stack[:len(lesser)]) {
			t.Fatalf("PlayLru(%v, %d) = %v, %d, %v beside %d hits, %v and %v", l, size, stack, played, ok, many, lesser, whole)
		}
		within := 0
		for _, distance := range distances {
			if distance > 0 && distance <= size {
				within++
			}
		}
		if within != many {
			t.Fatalf("HitsOf(%v): %d of size %d, but %d distances are at most that", l, many, size, within)
		}
		lesser = stack
	}
}

func TestAllShortReferences(t *testing.T) {
	l := []int{}
	var each func()
	each = func() {
		for size := range 6 {
			checkPlays(t, l, size)
		}
		checkPromise(t, l)
		wantDistances(t, l, distancesByHand(l)...)
		wantStack(t, l, lastUnlike(l, 40)...)
		for window := 1; window <= len(l)+1; window++ {
			wantWorking(t, l, window, workingByHand(l, window)...)
		}
		if len(l) == 6 {
			return
		}
		for page := range 4 {
			l = append(l, page)
			each()
			l = l[:len(l)-1]
		}
	}
	each()
}

// anyRefs are some references, most of them to few pages.
func anyRefs(r *rand.Rand) []int {
	pages := []int{3, 8, 30, 41, 60, 100}[r.Intn(6)]
	first, l := r.Intn(101-pages), []int{}
	for range []int{r.Intn(12), r.Intn(201), 200}[r.Intn(3)] {
		page := first + r.Intn(pages)
		if len(l) > 0 && r.Intn(3) == 0 {
			page = l[len(l)-1-r.Intn(min(len(l), 9))]
		}
		l = append(l, page)
	}
	return l
}

func TestRandomReferencesBySecondReading(t *testing.T) {
	r := rand.New(rand.NewSource(101))
	unlikeHits, more := 0, 0
	for range 500 {
		l := anyRefs(r)
		for _, size := range []int{r.Intn(41), r.Intn(9), []int{0, 1, 2, 39, 40}[r.Intn(5)]} {
			checkPlays(t, l, size)
			_, lru := lruByHand(l, size)
			_, fifo := fifoByHand(l, size)
			if lru != fifo {
				unlikeHits++
			}
		}
		checkPromise(t, l)
		wantDistances(t, l, distancesByHand(l)...)
		wantStack(t, l, lastUnlike(l, 40)...)
		if unlikeByHand(l) > 40 {
			more++
		}
		for _, window := range []int{r.Intn(200) + 1, r.Intn(9) + 1, []int{1, 2, 199, 200}[r.Intn(4)]} {
			wantWorking(t, l, window, workingByHand(l, window)...)
		}
	}
	if unlikeHits < 200 || more < 60 {
		t.Error(unlikeHits, more)
	}
}

// lruAnswers are those of all functions.
func lruAnswers(l []int, stack []int, page int, size int, window int) []any {
	touched, hit, ok := impl.TouchLru(stack, page, size)
	lru, hits, ok1 := impl.PlayLru(l, size)
	fifo, many, ok2 := impl.PlayFifo(l, size)
	distances, ok3 := impl.DistancesOf(l)
	all, ok4 := impl.HitsOf(l)
	whole, ok5 := impl.StackAfter(l)
	sizes, ok6 := impl.WorkingSet(l, window)
	return []any{touched, hit, ok, lru, hits, ok1, fifo, many, ok2, distances, ok3, all, ok4, whole, ok5, sizes, ok6, impl.GoodRefs(l)}
}

func TestLruFunctionsWriteIntoNothingAndShareNothing(t *testing.T) {
	r := rand.New(rand.NewSource(102))
	for range 3000 {
		l := anyRefs(r)
		stack := lastUnlike(anyRefs(r), r.Intn(41))
		page, size, window := r.Intn(100), min(len(stack)+r.Intn(3), 40), r.Intn(200)+1
		if len(stack) > 0 && r.Intn(2) == 0 {
			page = stack[r.Intn(len(stack))]
		}
		switch r.Intn(9) {
		case 0:
			l = append(l, -1)
		case 1:
			stack = append(stack, page)
		}
		plain := fmt.Sprint(lruAnswers(slices.Clone(l), slices.Clone(stack), page, size, window)...)
		for _, spare := range []int{page, 100, 0} {
			refs, given := withSpare(l, spare), withSpare(stack, spare)
			before, beforeStack := slices.Clone(refs[:cap(refs)]), slices.Clone(given[:cap(given)])
			told := lruAnswers(refs, given, page, size, window)
			if fmt.Sprint(told...) != plain {
				t.Fatalf("what lies behind the lists counts: %v, %v", l, stack)
			}
			for _, answer := range told {
				if list, is := answer.([]int); is {
					checkNothingBehind(t, list)
					fill(list, 77)
				}
			}
			if !slices.Equal(refs[:cap(refs)], before) || !slices.Equal(given[:cap(given)], beforeStack) {
				t.Fatalf("%v or %v is written into", l, stack)
			}
			if fmt.Sprint(lruAnswers(refs, given, page, size, window)...) != plain {
				t.Fatalf("answers share memory: %v, %v", l, stack)
			}
		}
	}
}

// checkNothingBehind asks whether the memory of a list has no page behind it.
func checkNothingBehind(t *testing.T, l []int) {
	t.Helper()
	for _, behind := range l[len(l):cap(l)] {
		if behind != 0 {
			t.Fatalf("%d lies behind %v", behind, l)
		}
	}
}

// The pages that go must not be left behind a stack.
func TestNothingLiesBehindAStack(t *testing.T) {
	for size := range 41 {
		touched, _, _ := impl.TouchLru(falling(size+50, 51), 99, size)
		lru, _, _ := impl.PlayLru(rounds(100, 200), size)
		fifo, _, _ := impl.PlayFifo(rounds(100, 200), size)
		for _, l := range [][]int{touched, lru, fifo} {
			if len(l) != size {
				t.Errorf("%v has not %d pages", l, size)
			}
			checkNothingBehind(t, l)
		}
	}
	whole, _ := impl.StackAfter(rounds(100, 200))
	checkNothingBehind(t, whole)
}

// Any numbers, at each function: no panic, and the second reading's answer, or
// nothing.
func TestLruFunctionsAnswerAtAnything(t *testing.T) {
	r := rand.New(rand.NewSource(103))
	number := func(usual int) int {
		if r.Intn(12) == 0 {
			return []int{-1, 0, 1, 40, 41, 99, 100, 200, 201, int(r.Uint64()), math.MaxInt, math.MinInt}[r.Intn(12)]
		}
		return usual
	}
	counts := map[string]int{}
	for range 20000 {
		l := anyRefs(r)
		if r.Intn(5) == 0 {
			l = append(l, number(5), number(6))
		}
		stack := lastUnlike(anyRefs(r), r.Intn(43))
		for range r.Intn(9) / 8 {
			stack = append(stack, number(r.Intn(100)))
		}
		page, size, window := number(r.Intn(100)), number(r.Intn(41)), number(r.Intn(200)+1)

		isPage := func(n int) bool { return n >= 0 && n <= 99 }
		others := func(n int) bool { return !isPage(n) }
		goodRefs := len(l) <= 200 && !slices.ContainsFunc(l, others)
		goodStack := len(stack) <= 40 && unlikeByHand(stack) == len(stack) && !slices.ContainsFunc(stack, others)
		goodSize := size >= 0 && size <= 40
		goodWindow := window >= 1 && window <= 200
		goodTouch := goodStack && goodSize && len(stack) <= size && isPage(page)
		counts[fmt.Sprint("refs ", goodRefs)]++
		counts[fmt.Sprint("stack ", goodStack)]++
		counts[fmt.Sprint("size ", goodSize)]++
		counts[fmt.Sprint("window ", goodWindow)]++
		counts[fmt.Sprint("touch ", goodTouch)]++

		if impl.GoodRefs(l) != goodRefs {
			t.Fatalf("GoodRefs(%v) = %v", l, !goodRefs)
		}
		if !goodRefs {
			wantRefsRefused(t, l)
		}
		if goodTouch {
			want, hit := touchByHand(stack, page, size)
			wantTouch(t, stack, page, size, hit, want...)
		} else {
			wantNoTouch(t, stack, page, size)
		}
		if !goodSize || !goodRefs {
			wantSizeRefused(t, l, size)
		} else if r.Intn(9) == 0 {
			checkPlays(t, l, size)
		}
		if !goodWindow || !goodRefs {
			wantWindowRefused(t, l, window)
		} else if r.Intn(9) == 0 {
			wantWorking(t, l, window, workingByHand(l, window)...)
		}
	}
	if len(counts) != 10 {
		t.Error(counts)
	}
	for kind, n := range counts {
		if n < 300 {
			t.Error(kind, n)
		}
	}
}
