package tests

import (
	"slices"
	"testing"

	"loop.example/g01348/impl"
)

// The helpers of this file follow the definitions of chapter 3 word by word; they use no function
// of layer 3.

// facesAt returns the faces of a dimension, ascending.
func facesAt(k impl.Complex, d int64) []int64 {
	return chosen(k.Vertices, func(set int64) bool { return hasFace(k, set) && sizeOf(set) == d+1 })
}

// topDimension returns the dimension of a complex.
func topDimension(k impl.Complex) int64 {
	top := int64(-1)
	for _, face := range k.Faces {
		top = max(top, sizeOf(face)-1)
	}
	return top
}

// signOf returns the sign of a side in the boundary of a face, and 0 if it is not in it.
func signOf(side, face int64) int64 {
	if side == 0 || !isInside(side, face) || sizeOf(side) != sizeOf(face)-1 {
		return 0
	}
	place := sizeOf(face & (face&^side - 1)) // of the vertex that the side lacks, among those of the face
	return 1 - place%2*2
}

// row3 is a row of a matrix modulo 2 or 3; six vertices have at most 20 faces of one dimension.
type row3 [20]int8

// rowsAt returns the rows of the matrix of d modulo p.
func rowsAt(k impl.Complex, d, p int64) []row3 {
	var rows []row3
	for _, face := range facesAt(k, d) {
		var row row3
		for column, side := range facesAt(k, d-1) {
			row[column] = int8((signOf(side, face) + p) % p)
		}
		rows = append(rows, row)
	}
	return rows
}

// rankBySums returns the rank of rows modulo p: they have p^rank different sums of multiples.
func rankBySums(rows []row3, p int64) int64 {
	rank := int64(0)
	sums := map[row3]bool{{}: true}
	for _, row := range rows {
		if sums[row] {
			continue
		}
		rank++
		longer := map[row3]bool{}
		for sum := range sums {
			for range p {
				longer[sum] = true
				for column := range sum {
					sum[column] = (sum[column] + row[column]) % int8(p)
				}
			}
		}
		sums = longer
	}
	return rank
}

// ranksOf returns the ranks of 0, 1, .., MaxVertices for p.
func ranksOf(k impl.Complex, p int64) []int64 {
	var ranks []int64
	for d := range int64(impl.MaxVertices + 1) {
		ranks = append(ranks, rankBySums(rowsAt(k, d, p), p))
	}
	return ranks
}

// bettiOf returns the Betti numbers for p.
func bettiOf(k impl.Complex, p int64) []int64 {
	ranks := ranksOf(k, p)
	var numbers []int64
	for d := range topDimension(k) + 1 {
		numbers = append(numbers, int64(len(facesAt(k, d)))-ranks[d]-ranks[d+1])
	}
	return numbers
}

// word is a chain as a number: the face f is in it if 2^f is one of its digits 1 in base 2.
type word uint64

func wordOf(chain []int64) word {
	w := word(0)
	for _, face := range chain {
		w ^= 1 << face
	}
	return w
}

func chainOf(w word) []int64 {
	var chain []int64
	for face := range int64(64) {
		if w>>face&1 == 1 {
			chain = append(chain, face)
		}
	}
	return chain
}

// boundaryWord returns the boundary of a chain, face by face of the complex.
func boundaryWord(k impl.Complex, chain []int64) word {
	w := word(0)
	for _, side := range k.Faces {
		count := 0
		for _, face := range chain {
			if signOf(side, face) != 0 {
				count++
			}
		}
		if count%2 == 1 {
			w |= 1 << side
		}
	}
	return w
}

// boundingWords returns all chains of the dimension d that are the boundary of a chain of k: all
// sums of boundaries of faces.
func boundingWords(k impl.Complex, d int64) map[word]bool {
	words := map[word]bool{0: true}
	for _, face := range facesAt(k, d+1) {
		own := boundaryWord(k, []int64{face})
		if words[own] {
			continue
		}
		longer := map[word]bool{}
		for w := range words {
			longer[w], longer[w^own] = true, true
		}
		words = longer
	}
	return words
}

// allChains returns all chains of faces of the dimension d, the empty one too.
func allChains(k impl.Complex, d int64) [][]int64 {
	chains := [][]int64{nil}
	for _, face := range facesAt(k, d) {
		for _, chain := range chains[:len(chains):len(chains)] {
			chains = append(chains, append(slices.Clone(chain), face))
		}
	}
	return chains
}

// someChains returns all chains of the dimension d, or, if these are very many, the empty one, that
// of all faces, those of one face, and some that a fixed rule scatters.
func someChains(k impl.Complex, d int64, most int) [][]int64 {
	faces := facesAt(k, d)
	if 1<<len(faces) <= most {
		return allChains(k, d)
	}
	chains := [][]int64{nil, faces}
	state := uint32(len(k.Faces))*977 + uint32(d)
	for i := range most {
		var chain []int64
		for _, face := range faces {
			if i < len(faces) && face == faces[i] || i >= len(faces) && scattered(&state, 8) < 1+i%7 {
				chain = append(chain, face)
			}
		}
		chains = append(chains, chain)
	}
	return chains
}

// homologySamples calls a function for some chains of each dimension of each of some complexes.
func homologySamples(t *testing.T, most int, check func(k impl.Complex, d int64, chain []int64)) {
	t.Helper()
	for _, k := range homologyComplexes(t) {
		for d := range topDimension(k) + 1 {
			for _, chain := range someChains(k, d, most) {
				check(k, d, chain)
			}
		}
	}
}

// homologyComplexes returns the complexes of sampleComplexes, those with names, and some with holes
// of several kinds.
func homologyComplexes(t *testing.T) []impl.Complex {
	t.Helper()
	found := sampleComplexes(t)
	for _, name := range []string{"bipyramid", "octahedron", "moebius", "projective", "wedge", "tree"} {
		found = append(found, named(t, name))
	}
	for _, text := range []string{
		"6:0,1,2,3,4,5", "6:05,14,23", "6:01,02,12,34,35,45", "6:012,34,35,45", "6:012,013,023,123,45", "5:012,013,023,123,04,14",
	} {
		found = append(found, madeOf(t, text))
	}
	for n := int64(2); n <= 6; n++ {
		for d := range n - 1 {
			found = append(found, skeleton(n, d))
		}
	}
	return found
}

// madeOf returns the complex with a number of vertices, and made by the sets behind it, in any order.
func madeOf(t *testing.T, text string) impl.Complex {
	t.Helper()
	k, code := impl.ComplexOf(int64(text[0]-'0'), setsIn(text[2:]))
	if code != impl.ErrNone {
		t.Fatalf("ComplexOf of %q: code %d", text, code)
	}
	return k
}

// skeleton returns the complex of all sets of n vertices with a dimension of at most d.
func skeleton(n, d int64) impl.Complex {
	return complexOn(n, chosen(n, func(set int64) bool { return sizeOf(set) <= d+1 })...)
}

// circleByTrying returns the shortest circle, or nil, by trying all chains of faces with two
// vertices.
func circleByTrying(k impl.Complex) []int64 {
	var best []int64
	bounding := boundingWords(k, 1)
	for _, chain := range allChains(k, 1) {
		better := best == nil || len(chain) < len(best) || len(chain) == len(best) && slices.Compare(chain, best) < 0
		if better && boundaryWord(k, chain) == 0 && !bounding[wordOf(chain)] {
			best = chain
		}
	}
	return best
}
