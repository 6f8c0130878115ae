package gauge

import (
	"cmp"
	"math"

	"trivet/api"
)

// told is the sign of what was reckoned in floats, if it is no matter of what
// was rounded off: size is the sum of the magnitudes of all products that were
// added up. With eleven roundings at most behind each of these, the sums and
// the size included, what is reckoned is unlike the exact number by less than
// 2^-49 of the size. Nothing is too small to be a float, since no difference of
// coordinates but 0 is below the points' step.
func told(sum, size float64) (int, bool) {
	if math.Abs(sum) > 0x1p-49*size {
		return cmp.Compare(sum, 0), true
	}
	return 0, false
}

// nearWay is the way from a to b.
func nearWay(a, b api.Point) [2]float64 {
	return [2]float64{float64(b.X - a.X), float64(b.Y - a.Y)}
}

// nearAcross turns a way to the right: the product of a way with it is the sum
// of chapter 4.
func nearAcross(u [2]float64) [2]float64 { return [2]float64{u[1], -u[0]} }

// nearProduct is the product of two ways, and its size.
func nearProduct(u, v [2]float64) (sum, size float64) {
	for i, x := range u {
		part := float64(x * v[i])
		sum = float64(sum + part)
		size = float64(size + math.Abs(part))
	}
	return sum, size
}

// nearSquare is the length of a, b, squared; it is its own size.
func nearSquare(a, b api.Point) float64 {
	u := nearWay(a, b)
	sum, _ := nearProduct(u, u)
	return sum
}
