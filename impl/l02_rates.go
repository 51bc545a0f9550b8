package impl

import "strings"

// MaxTerm is the greatest term of a fraction.
const MaxTerm = 1000000

// maxGiven is the greatest size of a term that MakeFraction takes.
const maxGiven = 1000000000000

// maxTeeth is the greatest number of teeth of a wheel.
const maxTeeth = 1000

// Fraction is a rational number in lowest terms.
type Fraction struct {
	Num int64
	Den int64
}

// ValidFraction reports whether f is valid.
func ValidFraction(f Fraction) bool {
	// The terms come first: lowest must not divide by zero or negate the least int64.
	return f.hasValidTerms() && f == f.lowest()
}

func (f Fraction) hasValidTerms() bool {
	return f.Den >= 1 && f.Den <= MaxTerm && f.Num >= -MaxTerm && f.Num <= MaxTerm
}

// lowest returns f, whose Den is not 0, in lowest terms.
func (f Fraction) lowest() Fraction {
	divisor := greatestDivisor(absolute(f.Num), absolute(f.Den))
	if f.Den < 0 {
		divisor = -divisor
	}
	return Fraction{Num: f.Num / divisor, Den: f.Den / divisor}
}

func absolute(n int64) int64 {
	if n < 0 {
		return -n
	}
	return n
}

// greatestDivisor returns the greatest common divisor of two numbers that are not negative.
func greatestDivisor(a, b int64) int64 {
	for b != 0 {
		a, b = b, a%b
	}
	return a
}

// leastMultiple returns the least common multiple of two positive numbers.
func leastMultiple(a, b int64) int64 { return a / greatestDivisor(a, b) * b }

// fitted returns f, whose Den is not 0, as the result of a function.
func fitted(f Fraction) (Fraction, int64) {
	f = f.lowest()
	if !ValidFraction(f) {
		return Fraction{}, ErrFull
	}
	return f, OK
}

// MakeFraction returns the fraction of two numbers.
func MakeFraction(num, den int64) (Fraction, int64) {
	if num < -maxGiven || num > maxGiven || den < -maxGiven || den > maxGiven || den == 0 {
		return Fraction{}, ErrRange
	}
	return fitted(Fraction{Num: num, Den: den})
}

// plus, times, apart and meeting return results that need not be in lowest terms.

func (f Fraction) plus(g Fraction) Fraction {
	return Fraction{Num: f.Num*g.Den + g.Num*f.Den, Den: f.Den * g.Den}
}

func (f Fraction) times(g Fraction) Fraction {
	return Fraction{Num: f.Num * g.Num, Den: f.Den * g.Den}
}

func (f Fraction) apart(g Fraction) Fraction {
	return Fraction{Num: absolute(f.Num*g.Den - g.Num*f.Den), Den: f.Den * g.Den}
}

// meeting returns the least common multiple of the times 1/f and 1/g of one turn.
func (f Fraction) meeting(g Fraction) Fraction {
	return Fraction{Num: leastMultiple(f.Den, g.Den), Den: greatestDivisor(f.Num, g.Num)}
}

// combined returns what operation, a method of the fraction a, makes of b.
func combined(a, b Fraction, operation func(Fraction) Fraction) (Fraction, int64) {
	if !ValidFraction(a) || !ValidFraction(b) {
		return Fraction{}, ErrInvalid
	}
	return fitted(operation(b))
}

// AddFractions returns a sum.
func AddFractions(a, b Fraction) (Fraction, int64) {
	return combined(a, b, a.plus)
}

// MultiplyFractions returns a product.
func MultiplyFractions(a, b Fraction) (Fraction, int64) {
	return combined(a, b, a.times)
}

// CompareFractions compares two fractions.
func CompareFractions(a, b Fraction) (int64, int64) {
	if !ValidFraction(a) || !ValidFraction(b) {
		return 0, ErrInvalid
	}
	left, right := a.Num*b.Den, b.Num*a.Den
	switch {
	case left < right:
		return -1, OK
	case left > right:
		return 1, OK
	}
	return 0, OK
}

// WholeTurns returns how many turns are done in some seconds.
func WholeTurns(rate Fraction, seconds int64) (int64, int64) {
	if !ValidFraction(rate) {
		return 0, ErrInvalid
	}
	if seconds < 0 || seconds > MaxTerm {
		return 0, ErrRange
	}
	if rate.Num < 0 {
		return 0, ErrState
	}
	return rate.Num * seconds / rate.Den, OK
}

// GearedRate returns the rate behind a pair of wheels.
func GearedRate(rate Fraction, driver, driven int64) (Fraction, int64) {
	if !ValidFraction(rate) {
		return Fraction{}, ErrInvalid
	}
	if driver < 1 || driver > maxTeeth || driven < 1 || driven > maxTeeth {
		return Fraction{}, ErrRange
	}
	return fitted(rate.times(Fraction{Num: driver, Den: driven}))
}

// BeatRate returns how often two rates meet.
func BeatRate(a, b Fraction) (Fraction, int64) {
	return combined(a, b, a.apart)
}

// CommonTime returns the least time in which both have done whole turns.
func CommonTime(a, b Fraction) (Fraction, int64) {
	if ValidFraction(a) && ValidFraction(b) && (a.Num <= 0 || b.Num <= 0) {
		return Fraction{}, ErrState
	}
	return combined(a, b, a.meeting)
}

// FractionText returns the text form of a fraction.
func FractionText(f Fraction) string {
	if !ValidFraction(f) {
		return ""
	}
	if f.Den == 1 {
		return Decimal(f.Num)
	}
	return Decimal(f.Num) + "/" + Decimal(f.Den)
}

// ReadFraction returns the fraction with the text form s, if there is one.
func ReadFraction(s string) (Fraction, bool) {
	before, after, cut := strings.Cut(s, "/")
	if !cut {
		after = "1"
	}
	num, numOK := ReadDecimal(before)
	den, denOK := ReadDecimal(after)
	f := Fraction{Num: num, Den: den}
	// Only one text is that of a fraction: 3 is, and 3/1 is not.
	if !numOK || !denOK || FractionText(f) != s {
		return Fraction{}, false
	}
	return f, true
}
