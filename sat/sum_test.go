package sat

import "testing"

// Of types of few numbers all sums of two, and many of three, can be tried.

func TestSumOfShortNumbers(t *testing.T) {
	for a := range 256 {
		for b := range 256 {
			if got := sum(uint8(a), uint8(b)); int(got) != min(a+b, 255) {
				t.Errorf("%d and %d are %d", a, b, got)
			}
			for c := 0; c < 256; c += 15 {
				if got := sum(uint8(a), uint8(b), uint8(c)); int(got) != min(a+b+c, 255) {
					t.Errorf("%d, %d and %d are %d", a, b, c, got)
				}
			}
		}
	}
}

func TestSumOfOtherTypes(t *testing.T) {
	type own uint16
	if got := sum[own](65535, 1, 1); got != 65535 {
		t.Errorf("of a type of its own: %d", got)
	}
	if got := sum[uint32](1<<31, 1<<31-1); got != 1<<32-1 {
		t.Errorf("of uint32: %d", got)
	}
	if got := sum[uint](); got != 0 {
		t.Errorf("of none: %d", got)
	}
}
