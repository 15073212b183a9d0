package subsets_test

import (
	"math/rand"
	"slices"
	"testing"

	"stirrup/api"
	"stirrup/subsets"
)

// numbers returns the n numbers from 0 on.
func numbers(n int) []int {
	var l []int
	for i := range n {
		l = append(l, i)
	}
	return l
}

// listsOf returns the ascending lists of so many of the indices from start to n - 1, in lexicographic order.
func listsOf(start, n, length int) [][]int {
	if length == 0 {
		return [][]int{nil}
	}
	var lists [][]int
	for i := start; i < n; i++ {
		for _, rest := range listsOf(i+1, n, length-1) {
			lists = append(lists, append([]int{i}, rest...))
		}
	}
	return lists
}

// ordered returns all subsets of n numbers, in their order.
func ordered(n int) [][]int {
	var lists [][]int
	for length := range n + 1 {
		lists = append(lists, listsOf(0, n, length)...)
	}
	return lists
}

func sumOf(l, list []int) int {
	sum := 0
	for _, i := range list {
		sum += l[i]
	}
	return sum
}

// partitions returns all partitions of n indices, written as they should be.
func partitions(n int) [][][]int {
	if n == 0 {
		return [][][]int{nil}
	}
	var all [][][]int
	for _, parts := range partitions(n - 1) {
		for k := range parts {
			with := slices.Clone(parts)
			with[k] = append(slices.Clone(parts[k]), n-1)
			all = append(all, with)
		}
		all = append(all, append(slices.Clone(parts), []int{n - 1}))
	}
	return all
}

func isBalanced(l []int, parts [][]int) bool {
	return !slices.ContainsFunc(parts, func(part []int) bool { return sumOf(l, part) != 0 })
}

// check compares the results for a list, and numbers from one to another one, with what the definitions say.
func check(t *testing.T, l []int, lists [][]int, from, to int) {
	t.Helper()
	given := slices.Clone(l)
	firstOf := map[int][]int{}
	var sums []int
	var zero []int
	for _, list := range lists {
		sum := sumOf(l, list)
		if _, found := firstOf[sum]; !found {
			firstOf[sum] = list
			sums = append(sums, sum)
		}
		if sum == 0 && len(list) > 0 && zero == nil {
			zero = list
		}
	}
	slices.Sort(sums)
	if s, e := subsets.Sums(l); !slices.Equal(s, sums) || e != api.OK {
		t.Errorf("the sums of %v are %v, %d", l, s, e)
	}
	zeroE := api.OK
	if zero == nil {
		zeroE = api.ErrNone
	}
	if list, e := subsets.Zero(l); !slices.Equal(list, zero) || e != zeroE {
		t.Errorf("Zero of %v is %v, %d", l, list, e)
	}
	for sum := from; sum <= to; sum++ {
		list, found := firstOf[sum]
		findE := api.OK
		if !found {
			findE = api.ErrNone
		}
		if x, e := subsets.Find(l, sum); !slices.Equal(x, list) || e != findE {
			t.Errorf("the sum %d of %v is found at %v, %d", sum, l, x, e)
		}
		near := sums[0]
		for _, s := range sums {
			if max(s-sum, sum-s) < max(near-sum, sum-near) {
				near = s
			}
		}
		if n, x, e := subsets.Nearest(l, sum); n != near || !slices.Equal(x, firstOf[near]) || e != api.OK {
			t.Errorf("nearest to %d of %v: %d, %v, %d", sum, l, n, x, e)
		}
	}
	if !slices.Equal(l, given) {
		t.Errorf("%v has become %v", given, l)
	}
}

// checkParts compares the partition of a list with all partitions.
func checkParts(t *testing.T, l []int, all [][][]int) {
	t.Helper()
	given := slices.Clone(l)
	var best [][]int
	wantE := api.OK
	if sumOf(l, numbers(len(l))) != 0 {
		wantE = api.ErrSum
	}
	for _, parts := range all {
		is := isBalanced(l, parts)
		if is && (len(parts) > len(best) || len(parts) == len(best) && slices.CompareFunc(parts, best, slices.Compare[[]int]) < 0) {
			best = parts
		}
		if ok, e := subsets.Check(l, parts); ok != is || e != api.OK {
			t.Errorf("Check of %v and %v is %t, %d", l, parts, ok, e)
		}
	}
	if parts, e := subsets.Parts(l); !same(parts, best) || e != wantE {
		t.Errorf("the parts of %v are %v, %d; those are %v", l, parts, e, best)
	}
	if !slices.Equal(l, given) {
		t.Errorf("%v has become %v", given, l)
	}
}

// eachList calls do for all lists of so many of the elements.
func eachList[T any](elements []T, length int, do func(list []T)) {
	if length == 0 {
		do(nil)
		return
	}
	eachList(elements, length-1, func(list []T) {
		for _, x := range elements {
			do(append(slices.Clone(list), x))
		}
	})
}

// P6.1 to P6.3: all short lists of small numbers, many subsets of which have the same sum.
func TestSmallLists(t *testing.T) {
	for n := range 5 {
		lists, all := ordered(n), partitions(n)
		eachList([]int{-3, -2, -1, 0, 1, 2, 3}, n, func(l []int) {
			check(t, l, lists, -14, 14)
			checkParts(t, l, all)
		})
	}
	all := partitions(5)
	eachList([]int{-2, -1, 0, 1, 2}, 5, func(l []int) { checkParts(t, l, all) })
}

// someList returns n numbers from -most to most.
func someList(r *rand.Rand, n, most int) []int {
	var l []int
	for range n {
		l = append(l, r.Intn(2*most+1)-most)
	}
	return l
}

// balancedList returns n numbers, more than 0 of them, whose sum is 0.
func balancedList(r *rand.Rand, n, most int) []int {
	l := someList(r, n-1, most)
	return append(l, -sumOf(l, numbers(n-1)))
}

// P6.1, P6.2
func TestRandomLists(t *testing.T) {
	r := rand.New(rand.NewSource(1))
	for range 300 {
		n := r.Intn(9)
		most := 1 + r.Intn(20)
		check(t, someList(r, n, most), ordered(n), -10, 10)
	}
	for range 5 {
		lists := ordered(16)
		check(t, someList(r, 16, 1+r.Intn(5000)), lists, -3, 3)
	}
}

// P6.3
func TestRandomParts(t *testing.T) {
	r := rand.New(rand.NewSource(2))
	for n := 1; n < 9; n++ {
		all := partitions(n)
		for range 60 {
			checkParts(t, balancedList(r, n, 1+r.Intn(6)), all)
		}
	}
	all := partitions(9)
	for range 8 {
		checkParts(t, balancedList(r, 9, 1+r.Intn(4)), all)
	}
}

// permutations returns all orders of a list.
func permutations[T any](l []T) [][]T {
	if len(l) == 0 {
		return [][]T{nil}
	}
	var all [][]T
	for i := range l {
		for _, rest := range permutations(slices.Delete(slices.Clone(l), i, i+1)) {
			all = append(all, append([]T{l[i]}, rest...))
		}
	}
	return all
}

// P6.3: of all orders of the parts, and of all orders within them, only one is written as it should be.
func TestOrdersOfParts(t *testing.T) {
	l := make([]int, 5)
	for _, parts := range partitions(5) {
		for _, order := range permutations(parts) {
			if is, e := subsets.Check(l, order); is != same(order, parts) || e != api.OK {
				t.Errorf("Check of %v is %t, %d", order, is, e)
			}
		}
		for k := range parts {
			for _, order := range permutations(parts[k]) {
				with := slices.Clone(parts)
				with[k] = order
				if is, e := subsets.Check(l, with); is != same(with, parts) || e != api.OK {
					t.Errorf("Check of %v is %t, %d", with, is, e)
				}
			}
		}
	}
}

// P6.3: all short lists of short lists, balanced or not.
func TestCheckOfAll(t *testing.T) {
	var lists [][]int
	for length := range 4 {
		eachList([]int{-1, 0, 1, 2, 3}, length, func(list []int) { lists = append(lists, list) })
	}
	for _, l := range [][]int{{0, 0, 0}, {1, 0, -1}, {2, -1, -1}, {1, 1, -1}} {
		all := partitions(3)
		for length := range 3 {
			eachList(lists, length, func(parts [][]int) {
				want := isWritten(parts, all) && isBalanced(l, parts)
				if is, e := subsets.Check(l, parts); is != want || e != api.OK {
					t.Errorf("Check of %v and %v is %t, %d", l, parts, is, e)
				}
			})
		}
	}
}

func isWritten(parts [][]int, all [][][]int) bool {
	return slices.ContainsFunc(all, func(other [][]int) bool { return same(parts, other) })
}

// P6.4: sums come in pairs, and a sum is found, and is its own nearest one, exactly if it is one of the sums.
func TestLawsOfSums(t *testing.T) {
	r := rand.New(rand.NewSource(3))
	for _, most := range []int{3, 60, 4000, api.MaxSum} {
		l := someList(r, 16, most)
		all := sumOf(l, numbers(16))
		sums, e := subsets.Sums(l)
		for i, sum := range sums {
			if sum+sums[len(sums)-1-i] != all || e != api.OK {
				t.Fatalf("%v: %d and %d are no pair, %d", l, sum, sums[len(sums)-1-i], e)
			}
		}
		for range 40 {
			sum := sums[r.Intn(len(sums))] + r.Intn(3) - 1
			_, is := slices.BinarySearch(sums, sum)
			list, e := subsets.Find(l, sum)
			n, near, nearE := subsets.Nearest(l, sum)
			if is != (e == api.OK) || is && sumOf(l, list) != sum || !is && (e != api.ErrNone || len(list) != 0) {
				t.Errorf("%v: the sum %d is found at %v, %d", l, sum, list, e)
			}
			if is != (n == sum) || sumOf(l, near) != n || is && !slices.Equal(near, list) || nearE != api.OK {
				t.Errorf("%v: nearest to %d are %d, %v, %d", l, sum, n, near, nearE)
			}
		}
	}
}

// P6.4: the order of a list changes neither its sums nor the number of its parts.
func TestLawsOfOrder(t *testing.T) {
	r := rand.New(rand.NewSource(4))
	for range 20 {
		l := balancedList(r, 16, 1+r.Intn(30))
		sums, sumsE := subsets.Sums(l)
		parts, partsE := subsets.Parts(l)
		for range 3 {
			other := slices.Clone(l)
			r.Shuffle(len(other), func(i, k int) { other[i], other[k] = other[k], other[i] })
			otherSums, e := subsets.Sums(other)
			if !slices.Equal(otherSums, sums) || e != api.OK || sumsE != api.OK {
				t.Errorf("%v and %v have other sums, %d, %d", l, other, sumsE, e)
			}
			otherParts, e := subsets.Parts(other)
			if len(otherParts) != len(parts) || e != api.OK || partsE != api.OK {
				t.Errorf("%v: %v, %d; %v: %v, %d", l, parts, partsE, other, otherParts, e)
			}
		}
	}
}

// P6.4: the partition is balanced, each of its parts is one part alone, and each two of them give two parts at most.
func TestLawsOfParts(t *testing.T) {
	r := rand.New(rand.NewSource(5))
	for _, most := range []int{1, 2, 5, 10, 20, 50, 200, 3000} {
		l := balancedList(r, 16, most)
		parts, e := subsets.Parts(l)
		if is, checkE := subsets.Check(l, parts); !is || checkE != api.OK || e != api.OK {
			t.Errorf("the parts of %v are %v, %d: %t, %d", l, parts, e, is, checkE)
		}
		for i, part := range parts {
			if k := countOf(t, l, part); k != 1 {
				t.Errorf("%v: the part %v has %d", l, part, k)
			}
			for _, other := range parts[:i] {
				if k := countOf(t, l, slices.Concat(other, part)); k != 2 {
					t.Errorf("%v: the parts %v and %v have %d", l, other, part, k)
				}
			}
		}
	}
}

// countOf returns the number of parts of the numbers at the listed indices.
func countOf(t *testing.T, l, list []int) int {
	t.Helper()
	var of []int
	for _, i := range list {
		of = append(of, l[i])
	}
	parts, e := subsets.Parts(of)
	if e != api.OK {
		t.Errorf("the parts of %v: %d", of, e)
	}
	return len(parts)
}

// P6.1 to P6.3: what is written into a result, or behind its end, is not seen in others, nor in the arguments.
func TestMemory(t *testing.T) {
	l := []int{1, 2, -1, -2, 1, -1, 3, -3}
	given := slices.Clone(l)
	spoil := func(list []int) {
		behind := list[:cap(list)]
		for k := range behind {
			behind[k] = -99
		}
	}
	spoilt := func() {
		if !slices.Equal(l, given) {
			t.Error("the list has changed")
		}
		check(t, l, ordered(len(l)), -10, 10)
	}
	want, _ := subsets.Parts(l)
	parts, _ := subsets.Parts(l)
	for i := range parts {
		spoil(parts[i])
		if !same(parts[i+1:], want[i+1:]) {
			t.Error("parts share memory with the part", i)
		}
	}
	again, _ := subsets.Parts(l)
	if is, e := subsets.Check(l, again); !same(again, want) || !is || e != api.OK {
		t.Error(again, "instead of", want)
	}
	sums, _ := subsets.Sums(l)
	spoil(sums)
	spoilt()
	list, _ := subsets.Find(l, 3)
	spoil(list)
	spoilt()
	zero, _ := subsets.Zero(l)
	spoil(zero)
	spoilt()
	_, near, _ := subsets.Nearest(l, 7)
	spoil(near)
	spoilt()
	if is, e := subsets.Check(l, want); !is || e != api.OK || !same(again, want) {
		t.Error("Check has changed the parts", want)
	}
}
