package ask

import "testing"

func TestAnyAsksUpToTheFirstFault(t *testing.T) {
	asked := 0
	say := func(answer bool) func() bool {
		return func() bool { asked++; return answer }
	}
	for _, c := range []struct {
		faults []func() bool
		want   bool
		asked  int
	}{
		{nil, false, 0},
		{[]func() bool{say(false), say(false)}, false, 2},
		{[]func() bool{say(false), say(true), say(true)}, true, 2},
	} {
		asked = 0
		if got := Any(c.faults...); got != c.want || asked != c.asked {
			t.Errorf("%d faults: %v, %d asked; it must be %v, %d", len(c.faults), got, asked, c.want, c.asked)
		}
	}
}

func TestOutside(t *testing.T) {
	for _, c := range []struct {
		numbers []int
		want    bool
	}{
		{nil, false}, {[]int{2}, false}, {[]int{5, 2}, false}, {[]int{1}, true}, {[]int{6}, true}, {[]int{3, 4, 6}, true}, {[]int{1, 3}, true},
	} {
		if got := Outside(2, 5, c.numbers...); got != c.want {
			t.Errorf("%v from 2 to 5: %v", c.numbers, got)
		}
	}
}
