package jsx

import (
	"slices"
	"testing"
)

// TestLines goes through lines twice, and stops at each of them.
func TestLines(t *testing.T) {
	all := lines("a\r\n b\n\rc ")
	want := []line{{text: "a", first: true}, {text: " b"}, {text: ""}, {text: "c ", last: true}}
	for range 2 {
		if got := slices.Collect(all); !slices.Equal(got, want) {
			t.Fatalf("lines: %+v", got)
		}
	}
	for stop := range want {
		at := 0
		for l := range all {
			if l != want[at] {
				t.Fatalf("line %d: %+v", at, l)
			}
			if at == stop {
				break
			}
			at++
		}
		if at != stop {
			t.Fatalf("stopped at %d, not at %d", at, stop)
		}
	}
}
