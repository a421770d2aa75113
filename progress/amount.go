package progress

import "math"

// amount is a number of steps, not below 0, that is reckoned up to a limit: the greatest int stands for itself and for all above it.
type amount int

// counted is a number that may have been handed in as it is: below 0 it counts as 0.
func counted(n int) amount {
	return amount(max(n, 0))
}

func (a amount) plus(b amount) amount {
	if a > math.MaxInt-b {
		return math.MaxInt
	}
	return a + b
}

func (a amount) times(b amount) amount {
	if b > 0 && a > math.MaxInt/b {
		return math.MaxInt
	}
	return a * b
}

func (a amount) orMore(b amount) amount {
	return max(a, b)
}

// fold reckons one amount out of several, which are one at least.
func fold(reckon func(a, b amount) amount, first amount, others []amount) amount {
	for _, a := range others {
		first = reckon(first, a)
	}
	return first
}

func sum(first amount, others ...amount) amount {
	return fold(amount.plus, first, others)
}

func product(first amount, others ...amount) amount {
	return fold(amount.times, first, others)
}

func greatest(first amount, others ...amount) amount {
	return fold(amount.orMore, first, others)
}
