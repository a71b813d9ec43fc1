// Package floats is layer 1: numbers of double precision by their bits, so that they can be kept, held against each other and ordered, whatever they are.
package floats

import (
	"math"

	"usher/api"
)

// theNaN is the one NaN's bits.
const theNaN uint64 = 0x7ff8000000000000

// beyondInt is the least whole float64 that no int holds.
const beyondInt = 1 << 63

// leastNormal is the bits of 2^-1022, the least float64 that has its full precision.
const leastNormal uint64 = 1 << 52

// What Kind answers.
const (
	kindNaN       = 1
	kindInfinity  = 2
	kindZero      = 3
	kindSubnormal = 4
	kindNormal    = 5
)

// Canon gives of any NaN the one NaN's bits, else x.
func Canon(x uint64) uint64 {
	if math.IsNaN(math.Float64frombits(x)) {
		return theNaN
	}
	return x
}

// Of gives the bits of the float64 nearest to n.
func Of(n int) uint64 {
	return math.Float64bits(float64(n))
}

// Order says by -1, 0 or 1 whether a stands below, beside or above b; -0 stands right below 0, the one NaN above all others.
func Order(a, b uint64) int {
	a, b = Canon(a), Canon(b)
	switch {
	case a == b:
		return 0
	case standsBelow(math.Float64frombits(a), math.Float64frombits(b)):
		return -1
	}
	return 1
}

// standsBelow orders two floats that are not the same, also where IEEE 754 has no order.
func standsBelow(x, y float64) bool {
	switch {
	case math.IsNaN(x):
		return false
	case math.IsNaN(y):
		return true
	case x == y: // of different bits only the two zeros are worth the same
		return math.Signbit(x)
	}
	return x < y
}

// Less says whether a is below b as IEEE 754 has it.
func Less(a, b uint64) bool {
	return math.Float64frombits(a) < math.Float64frombits(b)
}

// Add gives the sum's bits.
func Add(a, b uint64) uint64 {
	return bitsOf(math.Float64frombits(a) + math.Float64frombits(b))
}

// Mul gives the product's bits.
func Mul(a, b uint64) uint64 {
	// Converted, so that no compiler joins this product with a sum and leaves out its rounding.
	return bitsOf(float64(math.Float64frombits(a) * math.Float64frombits(b)))
}

// bitsOf gives canonical bits: which NaN a machine answers is its own choice.
func bitsOf(f float64) uint64 {
	return Canon(math.Float64bits(f))
}

// Whole gives x rounded down, at least 0 and at most most.
func Whole(x uint64, most int) (int, api.Errno) {
	f := math.Float64frombits(x)
	switch {
	case math.IsNaN(f) || most < 0:
		return 0, api.ErrArg
	case !(f > 0):
		return 0, api.OK
	case f >= beyondInt:
		return most, api.OK
	}
	// Held against most as whole numbers: a most above 2^53 may have no float64 of its own.
	return min(int(f), most), api.OK
}

// Kind says what x is: 1 a NaN, 2 an infinity, 3 a zero, 4 what is below 2^-1022 but no zero, 5 any other.
func Kind(x uint64) int {
	f := math.Abs(math.Float64frombits(x))
	switch {
	case math.IsNaN(f):
		return kindNaN
	case math.IsInf(f, 1):
		return kindInfinity
	case f == 0:
		return kindZero
	case f < math.Float64frombits(leastNormal):
		return kindSubnormal
	}
	return kindNormal
}
