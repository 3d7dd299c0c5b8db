package tests

import (
	"math"
	"math/big"
	"slices"
	"sort"
	"strconv"
	"testing"

	"loop.example/g01332/impl"
)

// shortHeights returns all lists of 1..6 soldiers of four heights, the greatest of which is MaxHeight.
func shortHeights() [][]int {
	var all [][]int
	lists := [][]int{nil}
	for range 6 {
		var longer [][]int
		for _, list := range lists {
			for _, height := range []int{1, 2, 50, 100} {
				longer = append(longer, append(slices.Clone(list), height))
			}
		}
		lists = longer
		all = append(all, lists...)
	}
	return all
}

// longHeights returns lists of MaxHeights soldiers and of some less.
func longHeights() [][]int {
	makers := []func(k int) int{
		func(k int) int { return k + 1 },
		func(k int) int { return 100 - k },
		func(int) int { return 100 },
		func(int) int { return 1 },
		func(k int) int { return k%2*99 + 1 },
		func(k int) int { return 1 + (k*37+11)%100 },
		func(k int) int { return 1 + (k*k*7+k*3)%100 },
		func(k int) int { return 1 + (k*k*k+5*k)%9 },
		func(k int) int { return 50 + min(k, 39-k) },
		func(k int) int { return 50 - min(k, 39-k) },
	}
	var lists [][]int
	for _, height := range makers {
		var list []int
		for k := range 40 {
			list = append(list, height(k))
		}
		lists = append(lists, list, list[:39], list[3:20])
	}
	return lists
}

func sampleHeights() [][]int { return append(longHeights(), shortHeights()...) }

// noHeights returns lists that are no heights.
func noHeights() [][]int {
	lists := [][]int{nil, {}, slices.Repeat([]int{1}, 41), slices.Repeat([]int{100}, 41), slices.Repeat([]int{7}, 100000)}
	for _, height := range []int{0, 101, -1, 102, 1000, math.MinInt, math.MaxInt, 1 << 32, 1<<32 + 1, -1 << 63} {
		lists = append(lists, []int{height}, []int{height, 5}, []int{5, height}, []int{5, height, 5},
			append(slices.Repeat([]int{5}, 39), height))
	}
	return lists
}

// allOrders returns all orders of the heights 1, 2, .. of so many soldiers, lexicographically.
func allOrders(soldiers int) [][]int {
	orders := [][]int{nil}
	for range soldiers {
		var longer [][]int
		for _, order := range orders {
			for height := 1; height <= soldiers; height++ {
				if !slices.Contains(order, height) {
					longer = append(longer, append(slices.Clone(order), height))
				}
			}
		}
		orders = longer
	}
	return orders
}

func areShorter(list []int, height int) bool {
	return !slices.ContainsFunc(list, func(other int) bool { return other >= height })
}

func plainSeenFromLeft(list []int) []int {
	var seen []int
	for k, height := range list {
		if areShorter(list[:k], height) {
			seen = append(seen, k)
		}
	}
	return seen
}

func plainSeenFromRight(list []int) []int {
	var seen []int
	for k, height := range list {
		if areShorter(list[k+1:], height) {
			seen = append(seen, k)
		}
	}
	return seen
}

func plainPairsSeeing(list []int) [][]int {
	var pairs [][]int
	for i := range list {
		for j := i + 1; j < len(list); j++ {
			if areShorter(list[i+1:j], min(list[i], list[j])) {
				pairs = append(pairs, []int{i, j})
			}
		}
	}
	return pairs
}

func isRising(list []int, indices []int) bool {
	for i := 1; i < len(indices); i++ {
		if list[indices[i-1]] >= list[indices[i]] {
			return false
		}
	}
	return true
}

// isMountain tries each soldier as the top.
func isMountain(list []int, indices []int) bool {
	for top := range indices {
		behind := slices.Clone(indices[top:])
		slices.Reverse(behind)
		if isRising(list, indices[:top+1]) && isRising(list, behind) {
			return true
		}
	}
	return false
}

// choices returns all lists of increasing indices below count but the empty one.
func choices(count int) [][]int {
	var all [][]int
	for bits := 1; bits < 1<<count; bits++ {
		var indices []int
		for k := range count {
			if bits>>k&1 == 1 {
				indices = append(indices, k)
			}
		}
		all = append(all, indices)
	}
	return all
}

// plainRisingLength counts the greatest length by the lowest last heights of the rising ones of each length.
func plainRisingLength(list []int) int {
	var lasts []int
	for _, height := range list {
		at := sort.SearchInts(lasts, height)
		if at == len(lasts) {
			lasts = append(lasts, 0)
		}
		lasts[at] = height
	}
	return len(lasts)
}

// plainMountain tries each soldier as the top, with the shorter ones on both sides.
func plainMountain(list []int) int {
	longest := 0
	for top, height := range list {
		var left, right []int
		for k, other := range list {
			if k < top && other < height {
				left = append(left, other)
			} else if k > top && other < height {
				right = append([]int{other}, right...)
			}
		}
		longest = max(longest, plainRisingLength(left)+1+plainRisingLength(right))
	}
	return longest
}

func checkPairs(t *testing.T, what string, got [][]int, ok bool, want [][]int) {
	t.Helper()
	if !ok || !slices.EqualFunc(got, want, slices.Equal[[]int]) {
		t.Errorf("%s: %v, %v, not %v", what, got, ok, want)
	}
}

func showList(list []int) string {
	text := ""
	for _, number := range list {
		text += " " + strconv.Itoa(number)
	}
	return text
}

func TestHeightConstants(t *testing.T) {
	if impl.MaxHeights != 40 || impl.MaxHeight != 100 || impl.MaxRanked != 15 {
		t.Error("limits", impl.MaxHeights, impl.MaxHeight, impl.MaxRanked)
	}
}

func TestAreHeights(t *testing.T) {
	for _, list := range sampleHeights() {
		if !impl.AreHeights(list) {
			t.Error("these are heights:", list)
		}
	}
	for _, list := range noHeights() {
		if impl.AreHeights(list) {
			t.Error("these are no heights:", list)
		}
	}
}

func TestHeightExample(t *testing.T) {
	list := []int{2, 5, 3, 5, 1}
	left, ok := impl.SeenFromLeft(list)
	checkList(t, "left", left, ok, []int{0, 1})
	right, ok := impl.SeenFromRight(list)
	checkList(t, "right", right, ok, []int{3, 4})
	next, ok := impl.NextTaller(list)
	checkList(t, "next", next, ok, []int{1, -1, 3, -1, -1})
	pairs, ok := impl.PairsSeeing(list)
	checkPairs(t, "pairs", pairs, ok, [][]int{{0, 1}, {1, 2}, {1, 3}, {2, 3}, {3, 4}})
	rising, ok := impl.LongestRising(list)
	checkList(t, "rising", rising, ok, []int{0, 2, 3})
	n, ok := impl.LongestMountain(list)
	checkInt(t, "mountain", n, ok, 4)
	n, ok = impl.FewestToLeave(list)
	checkInt(t, "leave", n, ok, 1)
	n, ok = impl.CountBySeen(3, 2, 2)
	checkInt(t, "count", n, ok, 2)
	order, ok := impl.FirstBySeen(3, 2, 2)
	checkList(t, "first", order, ok, []int{1, 3, 2})
	above, below, ok := impl.MeanSeen(3)
	checkInt(t, "mean, above", above, ok, 11)
	checkInt(t, "mean, below", below, ok, 6)
	ranks, ok := impl.RanksOf(list)
	checkList(t, "ranks", ranks, ok, []int{1, 3, 2, 4, 0})
}

// Promise 2: who is seen is taller than all before.
func TestSeen(t *testing.T) {
	for _, list := range sampleHeights() {
		left, ok := impl.SeenFromLeft(list)
		checkList(t, "from the left:"+showList(list), left, ok, plainSeenFromLeft(list))
		right, ok := impl.SeenFromRight(list)
		checkList(t, "from the right:"+showList(list), right, ok, plainSeenFromRight(list))
		pairs, ok := impl.PairsSeeing(list)
		checkPairs(t, "pairs:"+showList(list), pairs, ok, plainPairsSeeing(list))
	}
}

func TestNextTaller(t *testing.T) {
	for _, list := range sampleHeights() {
		want := make([]int, len(list))
		for k, height := range list {
			want[k] = -1
			for j := len(list) - 1; j > k; j-- {
				if list[j] > height {
					want[k] = j
				}
			}
		}
		next, ok := impl.NextTaller(list)
		checkList(t, "NextTaller"+showList(list), next, ok, want)
	}
}

func TestRisingAndMountainsOfShortLists(t *testing.T) {
	lists := append(shortHeights(), allOrders(7)...)
	for _, list := range lists {
		var rising []int
		mountain := 0
		for _, indices := range choices(len(list)) {
			better := len(indices) > len(rising) || len(indices) == len(rising) && slices.Compare(indices, rising) < 0
			if better && isRising(list, indices) {
				rising = indices
			}
			if len(indices) > mountain && isMountain(list, indices) {
				mountain = len(indices)
			}
		}
		got, ok := impl.LongestRising(list)
		checkList(t, "LongestRising"+showList(list), got, ok, rising)
		n, ok := impl.LongestMountain(list)
		checkInt(t, "LongestMountain"+showList(list), n, ok, mountain)
		n, ok = impl.FewestToLeave(list)
		checkInt(t, "FewestToLeave"+showList(list), n, ok, len(list)-mountain)
	}
}

// firstRising returns the first list of so many indices from start on who rise above last, found by going back.
func firstRising(list []int, start, last, length int) []int {
	for k := start; length > 0 && k < len(list); k++ {
		if list[k] <= last {
			continue
		}
		var taller []int
		for _, height := range list[k+1:] {
			if height > list[k] {
				taller = append(taller, height)
			}
		}
		if plainRisingLength(taller) >= length-1 {
			return append([]int{k}, firstRising(list, k+1, list[k], length-1)...)
		}
	}
	return nil
}

func TestRisingAndMountainsOfLongLists(t *testing.T) {
	for _, list := range longHeights() {
		rising, ok := impl.LongestRising(list)
		checkList(t, "LongestRising"+showList(list), rising, ok, firstRising(list, 0, 0, plainRisingLength(list)))
		n, ok := impl.LongestMountain(list)
		checkInt(t, "LongestMountain"+showList(list), n, ok, plainMountain(list))
		n, ok = impl.FewestToLeave(list)
		checkInt(t, "FewestToLeave"+showList(list), n, ok, len(list)-plainMountain(list))
	}
}

func TestTallestOfWindows(t *testing.T) {
	for _, list := range sampleHeights() {
		for width := 1; width <= len(list); width++ {
			var want []int
			for k := 0; k+width <= len(list); k++ {
				window := slices.Sorted(slices.Values(list[k : k+width]))
				want = append(want, window[width-1])
			}
			tallest, ok := impl.TallestOfWindows(list, width)
			checkList(t, "windows of "+strconv.Itoa(width)+":"+showList(list), tallest, ok, want)
		}
		for _, width := range []int{0, -1, len(list) + 1, math.MinInt, math.MaxInt} {
			if tallest, ok := impl.TallestOfWindows(list, width); ok || len(tallest) > 0 {
				t.Error("windows of", width, list, tallest, ok)
			}
		}
	}
	tallest, ok := impl.TallestOfWindows([]int{2, 5, 3, 5, 1}, 1)
	checkList(t, "width 1", tallest, ok, []int{2, 5, 3, 5, 1})
	tallest, ok = impl.TallestOfWindows([]int{2, 5, 3, 5, 1}, 5)
	checkList(t, "width of all", tallest, ok, []int{5})
	tallest, ok = impl.TallestOfWindows([]int{2, 4, 3, 1, 1}, 2)
	checkList(t, "width 2", tallest, ok, []int{4, 4, 3, 1})
}

func TestDisorderAndRanks(t *testing.T) {
	for _, list := range sampleHeights() {
		disorder := 0
		indices := make([]int, len(list))
		for i := range list {
			indices[i] = i
			for j := range i {
				if list[j] > list[i] {
					disorder++
				}
			}
		}
		sort.SliceStable(indices, func(i, j int) bool { return list[indices[i]] < list[indices[j]] })
		ranks := make([]int, len(list))
		for rank, k := range indices {
			ranks[k] = rank
		}
		n, ok := impl.CountDisorder(list)
		checkInt(t, "CountDisorder"+showList(list), n, ok, disorder)
		got, ok := impl.RanksOf(list)
		checkList(t, "RanksOf"+showList(list), got, ok, ranks)
	}
}

func TestMirrorHeights(t *testing.T) {
	for _, list := range sampleHeights() {
		var want []int
		for k := len(list) - 1; k >= 0; k-- {
			want = append(want, list[k])
		}
		mirrored, ok := impl.MirrorHeights(list)
		checkList(t, "MirrorHeights"+showList(list), mirrored, ok, want)
	}
}

func TestOrdersBySeen(t *testing.T) {
	for soldiers := 1; soldiers <= 8; soldiers++ {
		counts := map[[2]int]int{}
		firsts := map[[2]int][]int{}
		for _, order := range allOrders(soldiers) {
			seen := [2]int{len(plainSeenFromLeft(order)), len(plainSeenFromRight(order))}
			if counts[seen] == 0 {
				firsts[seen] = order
			}
			counts[seen]++
		}
		for left := 0; left <= 15; left++ {
			for right := 0; right <= 15; right++ {
				seen := [2]int{left, right}
				n, ok := impl.CountBySeen(soldiers, left, right)
				checkInt(t, "CountBySeen"+showList([]int{soldiers, left, right}), n, ok, counts[seen])
				order, ok := impl.FirstBySeen(soldiers, left, right)
				if ok != (counts[seen] > 0) || !slices.Equal(order, firsts[seen]) {
					t.Error("FirstBySeen", soldiers, left, right, order, ok)
				}
			}
		}
	}
}

// plainCycles returns how many orders of count have so many cycles.
func plainCycles(count, cycles int) int {
	if count == 0 && cycles == 0 {
		return 1
	}
	if count <= 0 || cycles <= 0 {
		return 0
	}
	return plainCycles(count-1, cycles-1) + (count-1)*plainCycles(count-1, cycles)
}

// plainOrders counts by who stands to the left of the tallest one, and is seen from there.
func plainOrders(soldiers, left, right int) int {
	sum := 0
	for at := range soldiers {
		chosen := int(new(big.Int).Binomial(int64(soldiers-1), int64(at)).Int64())
		sum += chosen * plainCycles(at, left-1) * plainCycles(soldiers-1-at, right-1)
	}
	return sum
}

// Promise 2: orders by who is seen add up to all.
func TestOrdersBySeenAddUp(t *testing.T) {
	orders := 1
	for soldiers := 1; soldiers <= 15; soldiers++ {
		orders *= soldiers
		sum, seen := 0, 0
		for left := 0; left <= 15; left++ {
			for right := 0; right <= 15; right++ {
				n, ok := impl.CountBySeen(soldiers, left, right)
				checkInt(t, "CountBySeen"+showList([]int{soldiers, left, right}), n, ok, plainOrders(soldiers, left, right))
				sum += n
				seen += n * left
			}
		}
		if sum != orders {
			t.Error("orders of", soldiers, sum, orders)
		}
		mean := big.NewRat(int64(seen), int64(orders))
		above, below, ok := impl.MeanSeen(soldiers)
		checkInt(t, "above", above, ok, int(mean.Num().Int64()))
		checkInt(t, "below", below, ok, int(mean.Denom().Int64()))
	}
	above, below, ok := impl.MeanSeen(15)
	checkInt(t, "above of 15", above, ok, 1195757)
	checkInt(t, "below of 15", below, ok, 360360)
}

func TestOrdersOutOfRange(t *testing.T) {
	wrong := [][]int{{0, 1, 1}, {16, 1, 1}, {-1, 1, 1}, {3, -1, 1}, {3, 1, -1}, {3, 16, 1}, {3, 1, 16}, {0, 0, 0}, {15, 16, 1},
		{math.MinInt, 1, 1}, {math.MaxInt, 1, 1}, {3, math.MinInt, 1}, {3, math.MaxInt, 1}, {3, 1, math.MinInt}, {3, 1, math.MaxInt}}
	for _, w := range wrong {
		if n, ok := impl.CountBySeen(w[0], w[1], w[2]); ok || n != 0 {
			t.Error("CountBySeen", w, n, ok)
		}
		if order, ok := impl.FirstBySeen(w[0], w[1], w[2]); ok || len(order) > 0 {
			t.Error("FirstBySeen", w, order, ok)
		}
	}
	for soldiers := 9; soldiers <= 16; soldiers++ {
		if order, ok := impl.FirstBySeen(soldiers, soldiers, 1); ok || len(order) > 0 {
			t.Error("FirstBySeen", soldiers, order, ok)
		}
	}
	for _, soldiers := range []int{0, -1, 16, 17, math.MinInt, math.MaxInt} {
		if above, below, ok := impl.MeanSeen(soldiers); ok || above != 0 || below != 0 {
			t.Error("MeanSeen", soldiers, above, below, ok)
		}
	}
}

func TestStepUp(t *testing.T) {
	list := []int{2, 5, 100, 1}
	for k, height := range list {
		for by := -201; by <= 201; by++ {
			stepped, ok := impl.StepUp(list, k, by)
			if height+by < 1 || height+by > 100 {
				if ok || len(stepped) > 0 {
					t.Error("StepUp", k, by, stepped, ok)
				}
				continue
			}
			want := slices.Clone(list)
			want[k] = height + by
			checkList(t, "StepUp", stepped, ok, want)
		}
		for _, by := range []int{math.MinInt, math.MinInt + 1, math.MinInt + 100, math.MaxInt - 100, math.MaxInt - 1, math.MaxInt, 1 << 32, -1 << 32} {
			if stepped, ok := impl.StepUp(list, k, by); ok || len(stepped) > 0 {
				t.Error("StepUp", k, by, stepped, ok)
			}
		}
	}
	for _, k := range []int{-1, 4, 5, 40, math.MinInt, math.MaxInt} {
		for _, by := range []int{0, 1, math.MaxInt} {
			if stepped, ok := impl.StepUp(list, k, by); ok || len(stepped) > 0 {
				t.Error("StepUp", k, by, stepped, ok)
			}
		}
	}
	most := slices.Repeat([]int{99}, 40)
	stepped, ok := impl.StepUp(most, 39, 1)
	checkList(t, "the last of all", stepped, ok, append(slices.Repeat([]int{99}, 39), 100))
}

func TestOneAlone(t *testing.T) {
	for _, height := range []int{1, 7, 100} {
		list := []int{height}
		left, ok := impl.SeenFromLeft(list)
		checkList(t, "left", left, ok, []int{0})
		right, ok := impl.SeenFromRight(list)
		checkList(t, "right", right, ok, []int{0})
		next, ok := impl.NextTaller(list)
		checkList(t, "next", next, ok, []int{-1})
		pairs, ok := impl.PairsSeeing(list)
		checkPairs(t, "pairs", pairs, ok, nil)
		rising, ok := impl.LongestRising(list)
		checkList(t, "rising", rising, ok, []int{0})
		n, ok := impl.LongestMountain(list)
		checkInt(t, "mountain", n, ok, 1)
		n, ok = impl.FewestToLeave(list)
		checkInt(t, "leave", n, ok, 0)
		tallest, ok := impl.TallestOfWindows(list, 1)
		checkList(t, "tallest", tallest, ok, []int{height})
		n, ok = impl.CountDisorder(list)
		checkInt(t, "disorder", n, ok, 0)
		ranks, ok := impl.RanksOf(list)
		checkList(t, "ranks", ranks, ok, []int{0})
	}
	n, ok := impl.CountBySeen(1, 1, 1)
	checkInt(t, "count", n, ok, 1)
	order, ok := impl.FirstBySeen(1, 1, 1)
	checkList(t, "first", order, ok, []int{1})
	above, below, ok := impl.MeanSeen(1)
	checkInt(t, "above", above, ok, 1)
	checkInt(t, "below", below, ok, 1)
}

// Of soldiers of the same height only the nearest one is seen, and they see just their neighbours.
func TestSameHeights(t *testing.T) {
	for _, height := range []int{1, 100} {
		list := slices.Repeat([]int{height}, 40)
		left, ok := impl.SeenFromLeft(list)
		checkList(t, "left", left, ok, []int{0})
		right, ok := impl.SeenFromRight(list)
		checkList(t, "right", right, ok, []int{39})
		next, ok := impl.NextTaller(list)
		checkList(t, "next", next, ok, slices.Repeat([]int{-1}, 40))
		pairs, ok := impl.PairsSeeing(list)
		if !ok || len(pairs) != 39 {
			t.Error("pairs", pairs, ok)
		}
		rising, ok := impl.LongestRising(list)
		checkList(t, "rising", rising, ok, []int{0})
		n, ok := impl.FewestToLeave(list)
		checkInt(t, "leave", n, ok, 39)
		n, ok = impl.CountDisorder(list)
		checkInt(t, "disorder", n, ok, 0)
	}
}

// answersOfHeights calls every function of a list, and tells by name which of them succeed and which return more than zero values.
func answersOfHeights(list []int) (succeed, nonzero []string) {
	note := func(name string, isZero bool, ok bool) {
		if ok {
			succeed = append(succeed, name)
		}
		if !isZero {
			nonzero = append(nonzero, name)
		}
	}
	got, ok := impl.SeenFromLeft(list)
	note("SeenFromLeft", len(got) == 0, ok)
	got, ok = impl.SeenFromRight(list)
	note("SeenFromRight", len(got) == 0, ok)
	got, ok = impl.NextTaller(list)
	note("NextTaller", len(got) == 0, ok)
	pairs, ok := impl.PairsSeeing(list)
	note("PairsSeeing", len(pairs) == 0, ok)
	got, ok = impl.LongestRising(list)
	note("LongestRising", len(got) == 0, ok)
	n, ok := impl.LongestMountain(list)
	note("LongestMountain", n == 0, ok)
	n, ok = impl.FewestToLeave(list)
	note("FewestToLeave", n == 0, ok)
	got, ok = impl.TallestOfWindows(list, 1)
	note("TallestOfWindows", len(got) == 0, ok)
	n, ok = impl.CountDisorder(list)
	note("CountDisorder", n == 0, ok)
	got, ok = impl.RanksOf(list)
	note("RanksOf", len(got) == 0, ok)
	got, ok = impl.MirrorHeights(list)
	note("MirrorHeights", len(got) == 0, ok)
	got, ok = impl.StepUp(list, 0, 0)
	note("StepUp", len(got) == 0, ok)
	return succeed, nonzero
}

// Promise 11: lists that are no heights make every function fail, with zero values.
func TestListsThatAreNoHeights(t *testing.T) {
	for _, list := range noHeights() {
		if succeed, nonzero := answersOfHeights(list); len(succeed)+len(nonzero) > 0 {
			t.Error(list, succeed, nonzero)
		}
		for _, by := range []int{-1, 1, 4, -96} {
			if stepped, ok := impl.StepUp(list, 0, by); ok || len(stepped) > 0 {
				t.Error("a step does not make heights of", list, by, stepped)
			}
		}
	}
}

// Promise 11: arguments are not modified, nor what lies behind their length.
func TestHeightsAreNotModified(t *testing.T) {
	room := []int{2, 5, 3, 5, 1, 77, 101, -3}
	want := slices.Clone(room)
	if succeed, _ := answersOfHeights(room[:5]); len(succeed) != 12 {
		t.Error("succeed", succeed)
	}
	impl.StepUp(room[:5], 4, 9)
	impl.TallestOfWindows(room[:5], 5)
	answersOfHeights(room)
	if !slices.Equal(room, want) {
		t.Error("modified", room)
	}
}

// Promise 11: results are new memory.
func TestHeightResultsAreNew(t *testing.T) {
	list := []int{2, 5, 3, 5, 1}
	results := func() [][]int {
		a, _ := impl.SeenFromLeft(list)
		b, _ := impl.SeenFromRight(list)
		c, _ := impl.NextTaller(list)
		d, _ := impl.LongestRising(list)
		e, _ := impl.TallestOfWindows(list, 1)
		f, _ := impl.RanksOf(list)
		g, _ := impl.FirstBySeen(5, 2, 2)
		h, _ := impl.MirrorHeights(list)
		i, _ := impl.StepUp(list, 0, 0)
		pairs, _ := impl.PairsSeeing(list)
		return append(pairs, a, b, c, d, e, f, g, h, i)
	}
	var want [][]int
	for _, result := range results() {
		want = append(want, slices.Clone(result))
		clear(result[:cap(result)])
	}
	checkPairs(t, "written to", results(), true, want)
	checkList(t, "the argument", list, true, []int{2, 5, 3, 5, 1})
	pairs, _ := impl.PairsSeeing(list)
	clear(pairs[0][:cap(pairs[0])])
	checkPairs(t, "pairs", pairs[1:], true, [][]int{{1, 2}, {1, 3}, {2, 3}, {3, 4}})
}

// Promise 11: numbers of whatever size are accepted, in all orders.
func TestHeightNumbersOfAllSizes(t *testing.T) {
	numbers := []int{math.MinInt, math.MinInt + 1, -101, -16, -2, -1, 0, 1, 2, 8, 9, 15, 16, 39, 40, 41, 64, 100, 101, 1 << 32, math.MaxInt - 1, math.MaxInt}
	lists := append(noHeights(), []int{1}, []int{2, 5, 3, 5, 1}, slices.Repeat([]int{100}, 40))
	for _, a := range numbers {
		impl.MeanSeen(a)
		for _, list := range lists {
			impl.TallestOfWindows(list, a)
		}
		for _, b := range numbers {
			for _, list := range lists {
				impl.StepUp(list, a, b)
			}
			for _, c := range numbers {
				impl.CountBySeen(a, b, c)
				impl.FirstBySeen(a, b, c)
			}
		}
	}
}
