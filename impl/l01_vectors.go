package impl

import (
	"math"
	"strconv"
	"strings"
)

// Codes of errors.
const (
	OK          = 0
	ErrInvalid  = 1
	ErrRange    = 2
	ErrLimit    = 3
	ErrState    = 4
	ErrSyntax   = 5
	ErrNotFound = 6
	ErrBudget   = 7
	ErrProof    = 8
)

// bitsOfNaN stands for each NaN, in texts and where numbers are compared.
const bitsOfNaN = 0x7fc00000

// Vec has three numbers.
type Vec [3]float32

// Mat has three rows of three numbers.
type Mat [3][3]float32

// CodeName returns the name of an error code.
func CodeName(code int64) string {
	switch code {
	case OK:
		return "ok"
	case ErrInvalid:
		return "invalid"
	case ErrRange:
		return "range"
	case ErrLimit:
		return "limit"
	case ErrState:
		return "state"
	case ErrSyntax:
		return "syntax"
	case ErrNotFound:
		return "notfound"
	case ErrBudget:
		return "budget"
	case ErrProof:
		return "proof"
	}
	return ""
}

// numberBits returns bits that are equal just for the same numbers: == would
// take 0 for -0, and would find no NaN equal to another one.
func numberBits(a float32) uint32 {
	if a != a {
		return bitsOfNaN
	}
	return math.Float32bits(a)
}

// vecBits returns the bits of a vector, which can be compared as a whole.
func vecBits(v Vec) [3]uint32 {
	return [3]uint32{numberBits(v[0]), numberBits(v[1]), numberBits(v[2])}
}

// matBits returns the bits of a matrix, which can be compared as a whole.
func matBits(m Mat) [3][3]uint32 {
	return [3][3]uint32{vecBits(m[0]), vecBits(m[1]), vecBits(m[2])}
}

// sizeOf returns a number without its sign.
func sizeOf(a float32) float32 {
	return float32(math.Abs(float64(a)))
}

// isFinite reports whether a number is finite; NaN is not.
func isFinite(a float32) bool {
	return sizeOf(a) <= math.MaxFloat32
}

// rootOf returns the square root. The wide root has more than twice as many
// bits as the narrow one, so that rounding it again gives the nearest number.
func rootOf(a float32) float32 {
	return float32(math.Sqrt(float64(a)))
}

// SameNumber reports whether two numbers are the same.
func SameNumber(a, b float32) bool {
	return numberBits(a) == numberBits(b)
}

// IsFiniteVec reports whether all numbers are finite.
func IsFiniteVec(v Vec) bool {
	return isFinite(v[0]) && isFinite(v[1]) && isFinite(v[2])
}

// SameVec reports whether two vectors are the same.
func SameVec(u, v Vec) bool {
	return vecBits(u) == vecBits(v)
}

// AddVec returns the sums.
func AddVec(u, v Vec) Vec {
	return Vec{u[0] + v[0], u[1] + v[1], u[2] + v[2]}
}

// SubVec returns the differences.
func SubVec(u, v Vec) Vec {
	return Vec{u[0] - v[0], u[1] - v[1], u[2] - v[2]}
}

// ScaleVec returns the products with a number. They are rounded here already,
// since a caller that is compiled together with this may add to them.
func ScaleVec(v Vec, by float32) Vec {
	return Vec{float32(v[0] * by), float32(v[1] * by), float32(v[2] * by)}
}

// divideVec returns the quotients by a number.
func divideVec(v Vec, by float32) Vec {
	return Vec{v[0] / by, v[1] / by, v[2] / by}
}

// DotVec returns the sum of the products. It begins with the first one, not
// with 0, which would turn -0 into 0.
func DotVec(u, v Vec) float32 {
	return float32(u[0]*v[0]) + float32(u[1]*v[1]) + float32(u[2]*v[2])
}

// CrossVec returns the cross product.
func CrossVec(u, v Vec) Vec {
	return Vec{
		float32(u[1]*v[2]) - float32(u[2]*v[1]),
		float32(u[2]*v[0]) - float32(u[0]*v[2]),
		float32(u[0]*v[1]) - float32(u[1]*v[0]),
	}
}

// LengthOf returns the length of a vector.
func LengthOf(v Vec) float32 {
	return rootOf(DotVec(v, v))
}

// UnitOf returns the vector of length 1.
func UnitOf(v Vec) (Vec, int64) {
	length := LengthOf(v)
	if length == 0 || !isFinite(length) {
		return Vec{}, ErrState
	}
	return divideVec(v, length), OK
}

// AreNear reports whether two vectors are near.
func AreNear(u, v Vec, bound float32) bool {
	d := SubVec(u, v)
	return sizeOf(d[0]) <= bound && sizeOf(d[1]) <= bound && sizeOf(d[2]) <= bound
}

// IsFiniteMat reports whether all numbers are finite.
func IsFiniteMat(m Mat) bool {
	return IsFiniteVec(m[0]) && IsFiniteVec(m[1]) && IsFiniteVec(m[2])
}

// SameMat reports whether two matrices are the same.
func SameMat(m, n Mat) bool {
	return matBits(m) == matBits(n)
}

// UnitMat returns the unit matrix.
func UnitMat() Mat {
	return Mat{{1, 0, 0}, {0, 1, 0}, {0, 0, 1}}
}

// AddMat returns the sums.
func AddMat(m, n Mat) Mat {
	return Mat{AddVec(m[0], n[0]), AddVec(m[1], n[1]), AddVec(m[2], n[2])}
}

// ScaleMat returns the products with a number.
func ScaleMat(m Mat, by float32) Mat {
	return Mat{ScaleVec(m[0], by), ScaleVec(m[1], by), ScaleVec(m[2], by)}
}

// TransposeMat returns the transposed matrix.
func TransposeMat(m Mat) Mat {
	var t Mat
	for i, row := range m {
		for j, a := range row {
			t[j][i] = a
		}
	}
	return t
}

// OuterOf returns the products of all numbers of two vectors.
func OuterOf(u, v Vec) Mat {
	return Mat{ScaleVec(v, u[0]), ScaleVec(v, u[1]), ScaleVec(v, u[2])}
}

// MulMatVec returns the product of a matrix and a vector.
func MulMatVec(m Mat, v Vec) Vec {
	return Vec{DotVec(m[0], v), DotVec(m[1], v), DotVec(m[2], v)}
}

// MulMat returns the product of two matrices. Its row i is what the columns of n
// as rows take the row i of m to; the factors of a product may change places.
func MulMat(m, n Mat) Mat {
	columns := TransposeMat(n)
	return Mat{MulMatVec(columns, m[0]), MulMatVec(columns, m[1]), MulMatVec(columns, m[2])}
}

// TraceOf returns the trace.
func TraceOf(m Mat) float32 {
	return m[0][0] + m[1][1] + m[2][2]
}

// DeterminantOf returns the determinant.
func DeterminantOf(m Mat) float32 {
	return DotVec(m[0], CrossVec(m[1], m[2]))
}

// pivotRow returns the index of the row, from k on, whose number in column k
// is greatest in size, the first one of several.
func pivotRow(m Mat, k int) int {
candidates:
	for p := k; p < 3; p++ {
		for i := k; i < 3; i++ {
			if sizeOf(m[i][k]) > sizeOf(m[p][k]) {
				continue candidates
			}
		}
		return p
	}
	return k
}

// clearBehind takes multiples of the row k away from the rows behind it. No row
// is left out where f is 0: taking 0 away may turn -0 into 0.
func clearBehind(m Mat, v Vec, k int) (Mat, Vec) {
	for i := k + 1; i < 3; i++ {
		f := m[i][k] / m[k][k]
		for j := k + 1; j < 3; j++ {
			m[i][j] -= float32(f * m[k][j])
		}
		v[i] -= float32(f * v[k])
	}
	return m, v
}

// solveUpper returns the vector that a matrix with nothing below its diagonal
// takes to v, nearly. (What is below the diagonal is not looked at.)
func solveUpper(m Mat, v Vec) Vec {
	var x Vec
	for k := 2; k >= 0; k-- {
		s := v[k]
		for j := k + 1; j < 3; j++ {
			s -= float32(m[k][j] * x[j])
		}
		x[k] = s / m[k][k]
	}
	return x
}

// SolveMat returns the vector that a matrix takes to another one.
//
// It is enough to look at the rows after each column, and at x: a product or a
// sum that is not finite makes all that is made of it not finite either, since
// no divisor is infinite, and no f is greater than 1 in size.
func SolveMat(m Mat, v Vec) (Vec, int64) {
	if !IsFiniteMat(m) || !IsFiniteVec(v) {
		return Vec{}, ErrInvalid
	}
	for k := range m {
		p := pivotRow(m, k)
		m[k], m[p] = m[p], m[k]
		v[k], v[p] = v[p], v[k]
		if m[k][k] == 0 {
			return Vec{}, ErrState
		}
		m, v = clearBehind(m, v, k)
		if !IsFiniteMat(m) || !IsFiniteVec(v) {
			return Vec{}, ErrState
		}
	}
	x := solveUpper(m, v)
	if !IsFiniteVec(x) {
		return Vec{}, ErrState
	}
	return x, OK
}

// InverseMat returns the inverse matrix.
func InverseMat(m Mat) (Mat, int64) {
	var columns Mat
	for j, column := range TransposeMat(UnitMat()) {
		x, code := SolveMat(m, column)
		if code != OK {
			return Mat{}, code
		}
		columns[j] = x
	}
	return TransposeMat(columns), OK
}

// RootMat returns the triangular root.
//
// A quotient that is not finite is met at the diagonal: its square makes the s
// of its row infinite and negative, or NaN.
func RootMat(m Mat) (Mat, int64) {
	if !IsFiniteMat(m) {
		return Mat{}, ErrInvalid
	}
	var r Mat
	for i := range r {
		for j := range i + 1 {
			s := m[i][j]
			for k := range j {
				s -= float32(r[i][k] * r[j][k])
			}
			if j < i {
				r[i][j] = s / r[j][j]
				continue
			}
			if !isFinite(s) || s <= 0 {
				return Mat{}, ErrState
			}
			r[i][i] = rootOf(s)
		}
	}
	return r, OK
}

// NumberText returns the text of a number.
func NumberText(a float32) string {
	const digits = "0123456789abcdef"
	bits := numberBits(a)
	var text [8]byte
	for i := range text {
		text[7-i] = digits[bits%16]
		bits /= 16
	}
	return string(text[:])
}

// ReadNumber returns the number with a text. What is read must have the text
// again, which leaves out capital letters, short texts, and other NaNs.
func ReadNumber(text string) (float32, int64) {
	bits, err := strconv.ParseUint(text, 16, 32)
	if err != nil {
		return 0, ErrSyntax
	}
	a := math.Float32frombits(uint32(bits))
	if NumberText(a) != text {
		return 0, ErrSyntax
	}
	return a, OK
}

// numbersText returns the texts of numbers, separated by single blanks.
func numbersText(list []float32) string {
	texts := make([]string, len(list))
	for i, a := range list {
		texts[i] = NumberText(a)
	}
	return strings.Join(texts, " ")
}

// readNumbers fills list with as many numbers as it holds, and reports whether
// the text is that of so many.
func readNumbers(text string, list []float32) bool {
	parts := strings.Split(text, " ")
	if len(parts) != len(list) {
		return false
	}
	for i, part := range parts {
		a, code := ReadNumber(part)
		if code != OK {
			return false
		}
		list[i] = a
	}
	return true
}

// VecText returns the text of a vector.
func VecText(v Vec) string {
	return numbersText(v[:])
}

// ReadVec returns the vector with a text.
func ReadVec(text string) (Vec, int64) {
	var v Vec
	if !readNumbers(text, v[:]) {
		return Vec{}, ErrSyntax
	}
	return v, OK
}

// linesOf returns the lines of a text that has so many, each one followed by a
// newline, and reports whether it has.
func linesOf(text string, count int) ([]string, bool) {
	lines := strings.Split(text, "\n")
	if len(lines) != count+1 || lines[count] != "" {
		return nil, false
	}
	return lines[:count], true
}

// MatText returns the text of a matrix.
func MatText(m Mat) string {
	return VecText(m[0]) + "\n" + VecText(m[1]) + "\n" + VecText(m[2]) + "\n"
}

// ReadMat returns the matrix with a text.
func ReadMat(text string) (Mat, int64) {
	var m Mat
	lines, ok := linesOf(text, len(m))
	if !ok {
		return Mat{}, ErrSyntax
	}
	for i := range m {
		row, code := ReadVec(lines[i])
		if code != OK {
			return Mat{}, ErrSyntax
		}
		m[i] = row
	}
	return m, OK
}
