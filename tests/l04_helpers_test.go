package tests

import (
	"slices"
	"testing"

	"loop.example/g01348/impl"
)

// The helpers of this file follow the definitions of chapter 4 word by word; they use no function
// of layer 4.

// numberAt returns the number of a function at a face of k.
func numberAt(k impl.Complex, f []int64, face int64) int64 { return f[slices.Index(k.Faces, face)] }

// isSideOf reports whether a face has one vertex less than another one, and lies in it.
func isSideOf(side, face int64) bool { return isInside(side, face) && sizeOf(side) == sizeOf(face)-1 }

// isMorseByRule reports whether a function is a Morse function, face by face.
func isMorseByRule(k impl.Complex, f []int64) bool {
	for i, a := range k.Faces {
		above, below := 0, 0
		for j, b := range k.Faces {
			if isSideOf(a, b) && f[j] <= f[i] {
				above++
			}
			if isSideOf(b, a) && f[j] >= f[i] {
				below++
			}
		}
		if above > 1 || below > 1 {
			return false
		}
	}
	return true
}

// pairingByRule returns the pairing of a Morse function.
func pairingByRule(k impl.Complex, f []int64) []impl.Pair {
	var list []impl.Pair
	for _, p := range allPairs(k) {
		if numberAt(k, f, p[0]) >= numberAt(k, f, p[1]) {
			list = append(list, p)
		}
	}
	return list
}

// criticalByRule returns the critical values of a Morse function.
func criticalByRule(k impl.Complex, f []int64) []int64 {
	list := pairingByRule(k, f)
	var values []int64
	for c := int64(-impl.MaxValue); c <= impl.MaxValue; c++ {
		for i, face := range k.Faces {
			if f[i] == c && len(groupOf(list, face)) == 1 {
				values = append(values, c)
				break
			}
		}
	}
	return values
}

// isFlatByRule reports whether a Morse function is flat, with both parts of the condition.
func isFlatByRule(k impl.Complex, f []int64) bool {
	list := pairingByRule(k, f)
	for i, a := range k.Faces {
		for j, b := range k.Faces {
			if !isInside(a, b) || a == b {
				continue
			}
			if f[i] > f[j] {
				return false
			}
			if isSideOf(a, b) && (f[i] == f[j]) != slices.Contains(list, impl.Pair{a, b}) {
				return false
			}
		}
	}
	return true
}

// flatByRule returns the flat function of an acyclic pairing.
func flatByRule(t *testing.T, k impl.Complex, list []impl.Pair) []int64 {
	t.Helper()
	order := orderByRule(t, k, list)
	f := make([]int64, len(k.Faces))
	for i, face := range k.Faces {
		for _, other := range order[:slices.Index(order, groupOf(list, face)[0])] {
			if groupOf(list, other)[0] == other {
				f[i]++
			}
		}
	}
	return f
}

// levelByRule returns the level of a function at c.
func levelByRule(k impl.Complex, f []int64, c int64) impl.Complex {
	return complexOn(k.Vertices, chosen(k.Vertices, func(face int64) bool {
		for i, other := range k.Faces {
			if f[i] <= c && isInside(face, other) {
				return true
			}
		}
		return false
	})...)
}

// eulerByRule returns the Euler number of a complex.
func eulerByRule(k impl.Complex) int64 {
	number := int64(0)
	for _, face := range k.Faces {
		number += sizeOf(face)%2*2 - 1
	}
	return number
}

// eulersByRule returns the Euler numbers of the levels at all different numbers of a function.
func eulersByRule(k impl.Complex, f []int64) []int64 {
	var numbers []int64
	for c := int64(-impl.MaxValue); c <= impl.MaxValue; c++ {
		if slices.Contains(f, c) {
			numbers = append(numbers, eulerByRule(levelByRule(k, f, c)))
		}
	}
	return numbers
}

// shortFunctions calls a function for all functions with numbers from least to most on k.
func shortFunctions(k impl.Complex, least, most int64, check func(f []int64)) {
	f := slices.Repeat([]int64{least}, len(k.Faces))
	for {
		check(slices.Clone(f))
		place := 0
		for place < len(f) && f[place] == most {
			f[place] = least
			place++
		}
		if place == len(f) {
			return
		}
		f[place]++
	}
}

// varied returns functions made from a flat one: some that stay Morse functions, with other pairs
// and numbers, and some that need not be any.
func varied(f []int64, state *uint32) [][]int64 {
	low, wide, broken := slices.Clone(f), slices.Clone(f), slices.Clone(f)
	for i := range f {
		low[i] -= 31
		wide[i] = f[i]*5 + int64(scattered(state, 3)) - 100 // less than 5 apart only in a pair
	}
	for range min(len(f), 2) {
		broken[scattered(state, len(f))] = int64(scattered(state, len(f))) - 2
	}
	return [][]int64{low, wide, broken}
}

// functionSamples calls a function for all functions with few numbers on complexes with few faces,
// and for some functions, often Morse functions, on larger ones.
func functionSamples(t *testing.T, check func(k impl.Complex, f []int64)) {
	t.Helper()
	for _, k := range append(smallComplexes(2), parsed(t, "3:01,12"), parsed(t, "3:01,2")) {
		shortFunctions(k, -1, 2, func(f []int64) { check(k, f) })
	}
	circle, _, _ := circlePairings()
	shortFunctions(circle, 0, 3, func(f []int64) { check(circle, f) })
	shortFunctions(fullComplex(3), 0, 2, func(f []int64) { check(fullComplex(3), f) })
	state := uint32(4)
	for _, k := range largerComplexes(t) {
		for _, list := range somePairings(k, 6) {
			if len(facesOnCyclesOf(k, list)) > 0 {
				continue
			}
			f := flatByRule(t, k, list)
			check(k, f)
			for _, other := range varied(f, &state) {
				check(k, other)
			}
		}
	}
}

// largerComplexes returns complexes with four vertices and more, and those without faces.
func largerComplexes(t *testing.T) []impl.Complex {
	t.Helper()
	found := allComplexes(4)
	for _, name := range []string{"bipyramid", "octahedron", "moebius", "projective", "wedge", "tree"} {
		found = append(found, named(t, name))
	}
	found = append(found, someComplexes(t, 5, 12)...)
	found = append(found, someComplexes(t, 6, 12)...)
	return append(found, fullComplex(5), fullComplex(6), complexOn(5), complexOn(6))
}

// morseSamples calls a function for those of functionSamples that are Morse functions.
func morseSamples(t *testing.T, check func(k impl.Complex, f []int64)) {
	t.Helper()
	functionSamples(t, func(k impl.Complex, f []int64) {
		if isMorseByRule(k, f) {
			check(k, f)
		}
	})
}
