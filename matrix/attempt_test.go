package matrix

import (
	"testing"

	"hayrick/api"
)

// What is caught within and is no matrix without an inverse goes on; no call leads
// there, so it is asked of the inner function.
func TestAllElseGoesOn(t *testing.T) {
	for _, fault := range []any{"a fault", 7, api.ErrSolve, &noInverse{}} {
		func() {
			defer func() {
				if caught := recover(); caught != fault {
					t.Errorf("%v was panicked with, and %v went on", fault, caught)
				}
			}()
			attempt(func() Matrix { panic(fault) })
		}()
	}
}

// What is known is told as an error, and what was made till then is not answered.
func TestNoInverseIsCaught(t *testing.T) {
	if m, err := attempt(func() Matrix { panic(noInverse{}) }); m != nil || err != api.ErrSolve {
		t.Errorf("no inverse: %v, %d", m, err)
	}
	if m, err := attempt(func() Matrix { return Matrix{{7}} }); len(m) != 1 || err != api.OK {
		t.Errorf("an inverse: %v, %d", m, err)
	}
}
