// Package ask asks of several things whether one of them may not be.
package ask

// Any tells whether one of the faults is there. It asks no further than that one, so that a later question may lean on an earlier one's no.
func Any(faults ...func() bool) bool {
	for _, fault := range faults {
		if fault() {
			return true
		}
	}
	return false
}

// Outside tells whether one of the numbers is not from low to high.
func Outside(low, high int, numbers ...int) bool {
	for _, n := range numbers {
		if n < low || n > high {
			return true
		}
	}
	return false
}
