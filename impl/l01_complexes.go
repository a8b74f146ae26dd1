package impl

import (
	"iter"
	"maps"
	"math/bits"
	"slices"
	"strconv"
	"strings"
)

const (
	ErrNone = iota
	ErrInvalid
	ErrRange
	ErrLimit
	ErrNotFound
	ErrState
	ErrSyntax
)
const MaxVertices = 6

// maxSets is the greatest number of sets that ComplexOf takes.
const maxSets = 64

// vertexDigits has the digit of each vertex at its number.
const vertexDigits = "012345"

type Complex struct {
	Vertices int64
	Faces    []int64
}

// IsComplex reports whether k is a complex.
func IsComplex(k Complex) bool {
	if !isVertexCount(k.Vertices) {
		return false
	}
	known := map[int64]bool{}
	least := int64(1)
	for _, face := range k.Faces {
		if face < least || face > allVertices(k.Vertices) {
			return false
		}
		least = face + 1
		known[face] = true
		// The parts of a face are smaller numbers than it: one that is not known by now never comes.
		for part := range partsOf(face) {
			if !known[part] {
				return false
			}
		}
	}
	return true
}

// ComplexOf returns the complex with n Vertices, in 1..MaxVertices, made by at most 64 sets,
// numbers in 1..2^n - 1, in any order, and ErrNone.
func ComplexOf(n int64, sets []int64) (Complex, int64) {
	if !isVertexCount(n) || len(sets) > maxSets {
		return Complex{}, ErrRange
	}
	for _, set := range sets {
		if set < 1 || set > allVertices(n) {
			return Complex{}, ErrRange
		}
	}
	return madeBy(n, sets), ErrNone
}

// FacetsOf returns the facets, ascending, and ErrNone.
func FacetsOf(k Complex) ([]int64, int64) {
	if !IsComplex(k) {
		return nil, ErrInvalid
	}
	inner := map[int64]bool{}
	for _, face := range k.Faces {
		for part := range partsOf(face) {
			if part != face {
				inner[part] = true
			}
		}
	}
	return facesWith(k, func(face int64) bool { return !inner[face] }), ErrNone
}

// FacesOf returns the faces of the dimension d, in 0..MaxVertices - 1, ascending, and ErrNone.
func FacesOf(k Complex, d int64) ([]int64, int64) {
	if !IsComplex(k) {
		return nil, ErrInvalid
	}
	if d < 0 || d > MaxVertices-1 {
		return nil, ErrRange
	}
	return facesWith(k, func(face int64) bool { return faceDimension(face) == d }), ErrNone
}

// CountFaces returns the numbers of faces of the dimensions 0, 1, .., up to that of the complex,
// and ErrNone.
func CountFaces(k Complex) ([]int64, int64) {
	if !IsComplex(k) {
		return nil, ErrInvalid
	}
	counts := make([]int64, complexDimension(k)+1)
	for _, face := range k.Faces {
		counts[faceDimension(face)]++
	}
	return counts, ErrNone
}

// EulerNumber returns the Euler number, and ErrNone.
func EulerNumber(k Complex) (int64, int64) {
	counts, code := CountFaces(k)
	if code != ErrNone {
		return 0, code
	}
	number := int64(0)
	for d, count := range counts {
		if d%2 == 0 {
			number += count
		} else {
			number -= count
		}
	}
	return number, ErrNone
}

// LinkOf returns the link of a face f, with as many Vertices as k, and ErrNone. Errors: ErrRange if
// f is no face.
func LinkOf(k Complex, f int64) (Complex, int64) {
	faces, code := facesHaving(k, f)
	if code != ErrNone {
		return Complex{}, code
	}
	return complexWith(k, func(face int64) bool { return face&f == 0 && faces[face|f] }), ErrNone
}

// StarOf returns the star of a face f, with as many Vertices as k, and ErrNone. Errors: ErrRange if
// f is no face.
func StarOf(k Complex, f int64) (Complex, int64) {
	faces, code := facesHaving(k, f)
	if code != ErrNone {
		return Complex{}, code
	}
	return complexWith(k, func(face int64) bool { return faces[face|f] }), ErrNone
}

// PartOn returns the part on a set, in 0..2^n - 1, with as many Vertices as k, and ErrNone.
func PartOn(k Complex, set int64) (Complex, int64) {
	if !IsComplex(k) {
		return Complex{}, ErrInvalid
	}
	if set < 0 || set > allVertices(k.Vertices) {
		return Complex{}, ErrRange
	}
	return complexWith(k, func(face int64) bool { return face&^set == 0 }), ErrNone
}

// SkeletonOf returns the skeleton of d, in -1..MaxVertices - 1, with as many Vertices as k, and
// ErrNone.
func SkeletonOf(k Complex, d int64) (Complex, int64) {
	if !IsComplex(k) {
		return Complex{}, ErrInvalid
	}
	if d < -1 || d > MaxVertices-1 {
		return Complex{}, ErrRange
	}
	return complexWith(k, func(face int64) bool { return faceDimension(face) <= d }), ErrNone
}

// ComponentsOf returns the components as sets, in the order of their least vertices, and ErrNone.
func ComponentsOf(k Complex) ([]int64, int64) {
	if !IsComplex(k) {
		return nil, ErrInvalid
	}
	var components []int64
	seen := int64(0)
	for _, face := range k.Faces {
		if faceDimension(face) == 0 && seen&face == 0 {
			component := componentWith(k, face)
			components = append(components, component)
			seen |= component
		}
	}
	return components, ErrNone
}

// JoinOf returns the join, and ErrNone. Errors: ErrLimit if it would have more than MaxVertices
// Vertices.
func JoinOf(k Complex, l Complex) (Complex, int64) {
	if !IsComplex(k) || !IsComplex(l) {
		return Complex{}, ErrInvalid
	}
	if k.Vertices+l.Vertices > MaxVertices {
		return Complex{}, ErrLimit
	}
	// All faces of k are below each face of l that is moved behind them, so no sorting is needed.
	faces := slices.Clone(k.Faces)
	for _, face := range l.Faces {
		moved := face << k.Vertices
		faces = append(faces, moved)
		for _, low := range k.Faces {
			faces = append(faces, low|moved)
		}
	}
	return Complex{Vertices: k.Vertices + l.Vertices, Faces: faces}, ErrNone
}

// ConeOf returns the cone, and ErrNone. Errors: ErrLimit if it would have more than MaxVertices
// Vertices.
func ConeOf(k Complex) (Complex, int64) {
	return JoinOf(k, Complex{Vertices: 1, Faces: []int64{1}})
}

// TakeFace returns k without a face f and all faces that it is in, and ErrNone. Errors: ErrRange if
// f is no face.
func TakeFace(k Complex, f int64) (Complex, int64) {
	_, code := facesHaving(k, f)
	if code != ErrNone {
		return Complex{}, code
	}
	return complexWith(k, func(face int64) bool { return face&f != f }), ErrNone
}

// RenumberComplex returns k renumbered by p, and ErrNone.
func RenumberComplex(k Complex, p []int64) (Complex, int64) {
	if !IsComplex(k) {
		return Complex{}, ErrInvalid
	}
	if !isRenumbering(p, k.Vertices) {
		return Complex{}, ErrRange
	}
	var faces []int64
	for _, face := range k.Faces {
		faces = append(faces, renumberSet(face, p))
	}
	slices.Sort(faces)
	return Complex{Vertices: k.Vertices, Faces: faces}, ErrNone
}

// NamedComplex returns the complex with a name, and ErrNone. Errors: ErrNotFound if there is none.
func NamedComplex(name string) (Complex, int64) {
	k, ok := readComplex(namedSets(name))
	if !ok {
		return Complex{}, ErrNotFound
	}
	return k, ErrNone
}

// ComplexText returns the text of k, and ErrNone.
func ComplexText(k Complex) (string, int64) {
	facets, code := FacetsOf(k)
	if code != ErrNone {
		return "", code
	}
	var texts []string
	for _, facet := range facets {
		texts = append(texts, setText(facet))
	}
	return strconv.FormatInt(k.Vertices, 10) + ":" + strings.Join(texts, ","), ErrNone
}

// ParseComplex returns the complex with a text, and ErrNone. Errors: ErrSyntax if there is none.
// (No other errors are returned.)
func ParseComplex(text string) (Complex, int64) {
	k, ok := readComplex(text)
	if !ok {
		return Complex{}, ErrSyntax
	}
	// Reading is lenient about orders and repetitions; the text of a complex is not.
	if own, _ := ComplexText(k); own != text {
		return Complex{}, ErrSyntax
	}
	return k, ErrNone
}

func isVertexCount(n int64) bool { return n >= 1 && n <= MaxVertices }

// allVertices returns the set of all n vertices.
func allVertices(n int64) int64 { return 1<<n - 1 }

// faceDimension returns the dimension of a face.
func faceDimension(face int64) int64 { return int64(bits.OnesCount64(uint64(face))) - 1 }

// complexDimension returns the dimension of a complex.
func complexDimension(k Complex) int64 {
	dimension := int64(-1)
	for _, face := range k.Faces {
		dimension = max(dimension, faceDimension(face))
	}
	return dimension
}

// partsOf ranges over all sets in a set, itself among them, other than the empty one.
func partsOf(set int64) iter.Seq[int64] {
	return func(yield func(int64) bool) {
		for part := set; part > 0; part = (part - 1) & set {
			if !yield(part) {
				return
			}
		}
	}
}

// madeBy returns the complex with n vertices made by sets of them.
func madeBy(n int64, sets []int64) Complex {
	faces := map[int64]bool{}
	for _, set := range sets {
		for part := range partsOf(set) {
			faces[part] = true
		}
	}
	return Complex{Vertices: n, Faces: slices.Sorted(maps.Keys(faces))}
}

// facesHaving returns the faces of k as keys. Errors: ErrInvalid if k is no complex, and ErrRange
// if f is none of the faces.
func facesHaving(k Complex, f int64) (map[int64]bool, int64) {
	if !IsComplex(k) {
		return nil, ErrInvalid
	}
	faces := map[int64]bool{}
	for _, face := range k.Faces {
		faces[face] = true
	}
	if !faces[f] {
		return nil, ErrRange
	}
	return faces, ErrNone
}

// facesWith returns the faces of k that are wanted, in their order.
func facesWith(k Complex, wanted func(int64) bool) []int64 {
	var faces []int64
	for _, face := range k.Faces {
		if wanted(face) {
			faces = append(faces, face)
		}
	}
	return faces
}

// complexWith returns the complex of the faces of k that are wanted.
func complexWith(k Complex, wanted func(int64) bool) Complex {
	return Complex{Vertices: k.Vertices, Faces: facesWith(k, wanted)}
}

// componentWith returns the component of a vertex, which is given as a set.
func componentWith(k Complex, vertex int64) int64 {
	component := vertex
	for before := int64(0); before != component; {
		before = component
		for _, face := range k.Faces {
			if faceDimension(face) == 1 && face&component != 0 {
				component |= face
			}
		}
	}
	return component
}

// isRenumbering reports whether p has the numbers 0 to n - 1, each once.
func isRenumbering(p []int64, n int64) bool {
	if int64(len(p)) != n {
		return false
	}
	seen := map[int64]bool{}
	for _, v := range p {
		if v < 0 || v >= n || seen[v] {
			return false
		}
		seen[v] = true
	}
	return true
}

// renumberSet returns the set that has p(v) for each vertex v of a set.
func renumberSet(set int64, p []int64) int64 {
	renumbered := int64(0)
	for v, place := range p {
		if set>>v&1 == 1 {
			renumbered |= 1 << place
		}
	}
	return renumbered
}

// setText returns the digits of the vertices of a set, ascending.
func setText(set int64) string {
	digits := [MaxVertices]byte([]byte(vertexDigits))
	var text []byte
	for v, digit := range digits {
		if set>>v&1 == 1 {
			text = append(text, digit)
		}
	}
	return string(text)
}

// readComplex reads a number of vertices, a colon, and sets with commas between them, in any order
// and of any kind; it returns the complex made by them, or false.
func readComplex(text string) (Complex, bool) {
	if len(text) < 2 {
		return Complex{}, false
	}
	head := [2]byte([]byte(text[:2]))
	n := int64(head[0]) - '0'
	if !isVertexCount(n) || head[1] != ':' {
		return Complex{}, false
	}
	if len(text) == 2 {
		return Complex{Vertices: n}, true
	}
	var sets []int64
	for _, digits := range strings.Split(text[2:], ",") {
		set, ok := readSet(digits, n)
		if !ok {
			return Complex{}, false
		}
		sets = append(sets, set)
	}
	return madeBy(n, sets), true
}

// readSet reads the digits of at least one of n vertices, in any order, and returns the set of
// these, or false.
func readSet(digits string, n int64) (int64, bool) {
	set := int64(0)
	for _, digit := range []byte(digits) {
		v := int64(digit) - '0'
		if v < 0 || v >= n {
			return 0, false
		}
		set |= 1 << v
	}
	return set, set != 0
}

// namedSets returns the sets that make the complex with a name, as readComplex reads them, or the
// empty string.
func namedSets(name string) string {
	switch name {
	case "point":
		return "1:0"
	case "circle":
		return "3:01,02,12"
	case "square":
		return "4:01,12,23,03"
	case "sphere":
		return "4:012,013,023,123"
	case "ball":
		return "4:0123"
	case "bipyramid":
		return "5:013,014,023,024,123,124"
	case "octahedron":
		return "6:024,025,034,035,124,125,134,135"
	case "moebius":
		return "5:012,123,234,034,014"
	case "projective":
		return "6:012,023,034,045,015,124,235,134,245,135"
	case "wedge":
		return "5:01,02,12,03,04,34"
	case "tree":
		return "6:01,12,13,34,35"
	}
	return ""
}
