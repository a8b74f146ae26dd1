package tests

import (
	"iter"
	"slices"
	"testing"

	"loop.example/g01348/impl"
)

// The helpers of this file follow the definitions of chapter 8 word by word; they use no function
// of layer 8.

// acyclicByRule returns all acyclic pairings of k.
func acyclicByRule(k impl.Complex) [][]impl.Pair {
	return slices.DeleteFunc(allPairings(k), func(list []impl.Pair) bool { return len(facesOnCyclesOf(k, list)) > 0 })
}

// vectorByRule returns the numbers of critical faces by dimension.
func vectorByRule(k impl.Complex, list []impl.Pair) []int64 {
	var vector []int64
	for d := range topDimension(k) + 1 {
		vector = append(vector, int64(len(criticalOf(k, list, d))))
	}
	return vector
}

// vectorsByRule returns the vectors of some pairings of k, each once, lexicographically.
func vectorsByRule(k impl.Complex, pairings [][]impl.Pair) [][]int64 {
	var vectors [][]int64
	for _, list := range pairings {
		vectors = append(vectors, vectorByRule(k, list))
	}
	slices.SortFunc(vectors, slices.Compare)
	return slices.CompactFunc(vectors, slices.Equal)
}

// comesAhead reports whether a pairing is less than another one: at the first place where they differ
// its pair comes ahead, or it goes on where the other one ends.
func comesAhead(list, other []impl.Pair) bool {
	for i, p := range list {
		if i == len(other) {
			return true
		}
		if p != other[i] {
			return isBefore(p, other[i])
		}
	}
	return false
}

// leastBestOf returns the least of those of some pairings that have the most pairs.
func leastBestOf(pairings [][]impl.Pair) []impl.Pair {
	best := pairings[0]
	for _, list := range pairings {
		if len(list) > len(best) || len(list) == len(best) && comesAhead(list, best) {
			best = list
		}
	}
	return best
}

// taking takes the faces of a complex out, one after the other or by free pairs, down to none: what
// is taken out one by one are the critical faces of an acyclic pairing, and there is a way to do so
// for each one, backward in its order.
type taking struct {
	k      impl.Complex
	forced []impl.Pair // whose faces are taken out as these pairs alone
	known  map[word]int64
}

// tooMany is more than all faces.
const tooMany = 1000

// fewest returns the least number of faces that are taken out alone, from those that are left on.
func (s taking) fewest(left word) int64 {
	if left == 0 {
		return 0
	}
	if number, ok := s.known[left]; ok {
		return number
	}
	number := int64(tooMany)
	for _, high := range s.facetsLeft(left) {
		if !meets(s.forced, impl.Pair{high, high}) {
			number = min(number, 1+s.fewest(left&^(1<<high)))
		}
		for _, low := range s.facetsLeft(left &^ (1 << high)) {
			p := impl.Pair{low, high}
			if isSideOf(low, high) && (slices.Contains(s.forced, p) || !meets(s.forced, p)) {
				number = min(number, s.fewest(left&^(1<<low|1<<high)))
			}
		}
	}
	s.known[left] = number
	return number
}

// facetsLeft returns those of the faces left that are in no other one of these.
func (s taking) facetsLeft(left word) []int64 {
	var facets []int64
	for _, face := range s.k.Faces {
		if left>>face&1 == 1 && !slices.ContainsFunc(s.k.Faces, func(f int64) bool { return f > face && left>>f&1 == 1 && isInside(face, f) }) {
			facets = append(facets, face)
		}
	}
	return facets
}

// fewestWith returns the least number of critical faces of an acyclic pairing of k with some pairs.
func fewestWith(k impl.Complex, forced []impl.Pair) int64 {
	return taking{k, forced, map[word]int64{}}.fewest(wordOf(k.Faces))
}

// bestByTaking returns the least best pairing of k: it puts in each pair, in order, with which there
// still is a best one.
func bestByTaking(k impl.Complex) []impl.Pair {
	least := fewestWith(k, nil)
	var list []impl.Pair
	for _, p := range allPairs(k) {
		if longer := insertPair(list, p); !meets(list, p) && fewestWith(k, longer) == least {
			list = longer
		}
	}
	return list
}

// pairsThatCanFollow returns the pairs of k with which a pairing is an acyclic pairing.
func pairsThatCanFollow(k impl.Complex, list []impl.Pair) []impl.Pair {
	return slices.DeleteFunc(allPairs(k), func(p impl.Pair) bool {
		return meets(list, p) || len(facesOnCyclesOf(k, insertPair(list, p))) > 0
	})
}

// fillByRule returns an acyclic pairing of k, filled.
func fillByRule(k impl.Complex, list []impl.Pair) []impl.Pair {
	for _, p := range allPairs(k) {
		if longer := insertPair(list, p); !meets(list, p) && len(facesOnCyclesOf(k, longer)) == 0 {
			list = longer
		}
	}
	return list
}

// inequalitiesByRule returns whether the weak inequalities, the strong ones and the equation hold
// for a list, adding up each sum anew.
func inequalitiesByRule(c, betti []int64) []int64 {
	sum := func(numbers []int64, i int) int64 {
		total, sign := int64(0), int64(1)
		for ; i >= 0; i-- {
			total += sign * numbers[i]
			sign = -sign
		}
		return total
	}
	answers := []int64{1, 1, 1}
	for i := range c {
		if c[i] < betti[i] {
			answers[0] = 0
		}
		if sum(c, i) < sum(betti, i) {
			answers[1] = 0
		}
	}
	if sum(c, len(c)-1) != sum(betti, len(c)-1) {
		answers[2] = 0
	}
	return answers
}

// countedComplexes returns the complexes with at most four Vertices, every seventh one with five, some
// with six, and chosen ones, all with at most MaxCounted faces.
func countedComplexes(t *testing.T) []impl.Complex {
	t.Helper()
	found := append(smallComplexes(4), someOfFive(7)...)
	for _, text := range []string{"6:0,1,2,3,4,5", "6:05,14,23", "6:01,02,12,34,35,45", "6:01,12,23,34,45,05", "6:01,12,13,34,35", "5:012,34", "6:45", "5:", "6:"} {
		found = append(found, madeOf(t, text))
	}
	found = append(append(found, someComplexes(t, 6, 60)...), cutTo(t, 13)...)
	return slices.DeleteFunc(found, func(k impl.Complex) bool { return len(k.Faces) > 13 })
}

// soughtComplexes returns the complexes with at most four Vertices, every fifteenth one with five, some
// with six, and chosen ones, all with at most MaxSought faces.
func soughtComplexes(t *testing.T) []impl.Complex {
	t.Helper()
	found := append(smallComplexes(4), someOfFive(15)...)
	for _, text := range []string{
		"5:12,03,04,14", "5:013,014,023,024,123,124", "6:0,1,2,3,4,5", "6:05,14,23", "6:0123,4,5", "6:012,013,023,45",
		"6:01,02,12,34,35,45", "6:01,12,23,34,45,05", "6:012,234,045", "6:012,023,034,045", "6:345,245,145", "6:345,134,024",
	} {
		found = append(found, madeOf(t, text))
	}
	found = append(append(found, someComplexes(t, 6, 60)...), cutTo(t, 20)...)
	return slices.DeleteFunc(found, func(k impl.Complex) bool { return len(k.Faces) > 20 })
}

// cutTo returns complexes of several kinds with just so many faces.
func cutTo(t *testing.T, count int) []impl.Complex {
	t.Helper()
	var found []impl.Complex
	for _, text := range []string{
		"5:0123,04,14,234", "5:012,013,014,023,024,123,34", "5:012,123,234,034,014,013", "6:0123,45,345", "6:0123,345,24", "6:012,123,234,345,014", "6:123,124,134,035,045,345",
		"6:01,02,03,04,05,12,13,14,15,23,24,25,34,35,45", "6:012,345,03,14,25,04,13,24,05", "6:01,12,23,34,45,05,03,14,25,02,13,24,35,04,15", "6:012345", "6:12345",
	} {
		k := madeOf(t, text)
		if len(k.Faces) < count {
			t.Fatalf("%q has only %d faces", text, len(k.Faces))
		}
		// A face with a greater number is in none with a smaller one.
		found = append(found, complexOn(k.Vertices, k.Faces[:count]...))
	}
	return found
}

// listsAround ranges over the lists of a length of numbers in 0..4, and of the greatest ones.
func listsAround(length int) iter.Seq[[]int64] {
	return func(yield func([]int64) bool) {
		list := make([]int64, length)
		var extend func(place int) bool
		extend = func(place int) bool {
			if place == length {
				return yield(slices.Clone(list))
			}
			for _, number := range []int64{0, 1, 2, 3, 4, 999, 1000} {
				list[place] = number
				if !extend(place + 1) {
					return false
				}
			}
			return true
		}
		extend(0)
	}
}

// someOfFive returns one of so many complexes with five Vertices.
func someOfFive(step int) []impl.Complex {
	var found []impl.Complex
	for i, k := range allComplexes(5) {
		if i%step == 0 {
			found = append(found, k)
		}
	}
	return found
}

// criticalCount returns the number of critical faces.
func criticalCount(k impl.Complex, list []impl.Pair) int64 {
	return int64(len(chosen(k.Vertices, func(f int64) bool { return isCriticalByRule(k, list, f) })))
}

// isAcyclicByRule reports whether a list is an acyclic pairing of k.
func isAcyclicByRule(k impl.Complex, list []impl.Pair) bool {
	return isPairingOf(k, list) && len(facesOnCyclesOf(k, list)) == 0
}

// fillSamples calls a function for acyclic pairings of all kinds of complexes.
func fillSamples(t *testing.T, check func(k impl.Complex, list []impl.Pair)) {
	t.Helper()
	acyclicSamples(t, check)
	windingSamples(t, check)
}
