package alarm

import (
	"cmp"
	"math"
	"slices"
	"testing"

	"sexton/api"
)

// outside are numbers that are neither an alarm's number nor a moment.
var outside = []int{-1, api.MaxBig + 1, math.MinInt, math.MaxInt, -api.MaxBig}

func set(t *testing.T, c *Clock, number, at int) {
	t.Helper()
	if e := c.Set(number, at); e != api.OK {
		t.Fatalf("Set(%d, %d): %v", number, at, e)
	}
}

func wantSet(t *testing.T, c *Clock, number, at int, want api.Errno) {
	t.Helper()
	if e := c.Set(number, at); e != want {
		t.Errorf("Set(%d, %d): %v, want %v", number, at, e, want)
	}
}

func wantStop(t *testing.T, c *Clock, number int, want bool, wantE api.Errno) {
	t.Helper()
	if was, e := c.Stop(number); was != want || e != wantE {
		t.Errorf("Stop(%d): %v, %v, want %v, %v", number, was, e, want, wantE)
	}
}

func wantDue(t *testing.T, c *Clock, now int, want ...int) {
	t.Helper()
	if l, e := c.Due(now); !slices.Equal(l, want) || e != api.OK {
		t.Errorf("Due(%d): %v, %v, want %v", now, l, e, want)
	}
}

func wantNext(t *testing.T, c *Clock, want int, wantOk bool) {
	t.Helper()
	if at, ok := c.Next(); at != want || ok != wantOk {
		t.Errorf("Next: %d, %v, want %d, %v", at, ok, want, wantOk)
	}
}

func wantAt(t *testing.T, c *Clock, number, want int, wantOk bool) {
	t.Helper()
	if at, ok := c.At(number); at != want || ok != wantOk {
		t.Errorf("At(%d): %d, %v, want %d, %v", number, at, ok, want, wantOk)
	}
}

func wantLen(t *testing.T, c *Clock, want int) {
	t.Helper()
	if n := c.Len(); n != want {
		t.Errorf("Len: %d, want %d", n, want)
	}
}

// full is a clock with n alarms: of the numbers 0 to n - 1, each due at 1000 + its number.
func full(t *testing.T, n int) *Clock {
	t.Helper()
	c := New()
	for i := range n {
		set(t, c, i, 1000+i)
	}
	return c
}

// 3.1

func TestNewHasNoAlarm(t *testing.T) {
	c := New()
	if c == nil {
		t.Fatal("New: nil")
	}
	wantLen(t, c, 0)
	wantNext(t, c, 0, false)
	wantDue(t, c, api.MaxBig)
	wantAt(t, c, 0, 0, false)
	wantStop(t, c, 0, false, api.OK)
}

func TestClocksAreApart(t *testing.T) {
	a, b := New(), New()
	set(t, a, 1, 2)
	wantLen(t, b, 0)
	wantAt(t, b, 1, 0, false)
}

func TestSetTakesWhatIsInRange(t *testing.T) {
	c := New()
	for _, number := range []int{0, 1, api.MaxBig - 1, api.MaxBig} {
		for _, at := range []int{0, 1, api.MaxBig - 1, api.MaxBig} {
			set(t, c, number, at)
			wantAt(t, c, number, at, true)
		}
	}
	wantLen(t, c, 4)
}

func TestSetOutOfRange(t *testing.T) {
	c := New()
	set(t, c, 3, 7)
	for _, x := range outside {
		wantSet(t, c, x, 5, api.ErrArg)
		wantSet(t, c, 3, x, api.ErrArg)
		wantSet(t, c, 4, x, api.ErrArg)
		wantSet(t, c, x, x, api.ErrArg)
		wantAt(t, c, x, 0, false)
	}
	wantAt(t, c, 3, 7, true)
	wantAt(t, c, 4, 0, false)
	wantLen(t, c, 1)
}

func TestSetAnew(t *testing.T) {
	for _, at := range []int{0, 8, 9, 10, api.MaxBig} {
		c := New()
		set(t, c, 5, 9)
		set(t, c, 5, at)
		wantLen(t, c, 1)
		wantAt(t, c, 5, at, true)
		wantNext(t, c, at, true)
	}
}

func TestSetFull(t *testing.T) {
	c := full(t, MaxAlarms-1)
	wantLen(t, c, 255)
	set(t, c, 5000, 1)
	wantLen(t, c, 256)
	wantSet(t, c, 5001, 1, api.ErrFull)
	wantSet(t, c, 0, 7, api.OK)
	wantSet(t, c, 5000, 8, api.OK)
	wantLen(t, c, 256)
	wantAt(t, c, 5001, 0, false)
	wantAt(t, c, 0, 7, true)
	wantAt(t, c, 5000, 8, true)
}

func TestSetFullTellsTheArgumentFirst(t *testing.T) {
	c := full(t, MaxAlarms)
	for _, x := range outside {
		wantSet(t, c, x, 1, api.ErrArg)
		wantSet(t, c, 5001, x, api.ErrArg)
		wantSet(t, c, 0, x, api.ErrArg)
	}
	wantAt(t, c, 0, 1000, true)
	wantLen(t, c, 256)
}

func TestRoomAgain(t *testing.T) {
	c := full(t, MaxAlarms)
	wantStop(t, c, 17, true, api.OK)
	set(t, c, 5000, 1)
	wantSet(t, c, 17, 1, api.ErrFull)
	wantDue(t, c, 1, 5000)
	set(t, c, 17, 1)
	wantSet(t, c, 5000, 1, api.ErrFull)
}

func TestStop(t *testing.T) {
	c := New()
	for _, number := range []int{0, 6, api.MaxBig} {
		set(t, c, number, 4)
	}
	wantStop(t, c, 6, true, api.OK)
	wantStop(t, c, 6, false, api.OK)
	wantStop(t, c, 7, false, api.OK)
	wantAt(t, c, 6, 0, false)
	wantLen(t, c, 2)
	wantStop(t, c, 0, true, api.OK)
	wantStop(t, c, api.MaxBig, true, api.OK)
	wantStop(t, c, api.MaxBig, false, api.OK)
	wantLen(t, c, 0)
	wantNext(t, c, 0, false)
}

func TestStopOutOfRange(t *testing.T) {
	c := full(t, 2)
	for _, x := range outside {
		wantStop(t, c, x, false, api.ErrArg)
	}
	wantLen(t, c, 2)
}

func TestAtTakesNothingAway(t *testing.T) {
	c := New()
	set(t, c, 1, 0)
	wantAt(t, c, 1, 0, true)
	wantAt(t, c, 1, 0, true)
	wantAt(t, c, 0, 0, false)
	wantAt(t, c, 2, 0, false)
	wantLen(t, c, 1)
}

// 3.2

func TestExample(t *testing.T) {
	c := New()
	set(t, c, 5, 9)
	set(t, c, 2, 9)
	set(t, c, 7, 3)
	wantDue(t, c, 8, 7)
	wantDue(t, c, 9, 2, 5)
	wantDue(t, c, api.MaxBig)
}

func TestDueByMomentThenNumber(t *testing.T) {
	c := New()
	for _, x := range [][2]int{{9, 3}, {1, 5}, {8, 3}, {api.MaxBig, 0}, {0, 5}, {4, 4}, {11, 3}, {3, 6}} {
		set(t, c, x[0], x[1])
	}
	wantDue(t, c, 5, api.MaxBig, 8, 9, 11, 4, 0, 1)
	wantLen(t, c, 1)
	wantDue(t, c, 6, 3)
}

func TestDueOfManyAtOneMoment(t *testing.T) {
	c := New()
	var want []int
	for i := range MaxAlarms {
		set(t, c, (i*37)%MaxAlarms, 6)
		want = append(want, i)
	}
	wantDue(t, c, 5)
	wantDue(t, c, 6, want...)
	wantLen(t, c, 0)
}

func TestDueAtTheEdges(t *testing.T) {
	c := New()
	set(t, c, 1, 0)
	set(t, c, 2, 1)
	set(t, c, 3, api.MaxBig-1)
	set(t, c, 4, api.MaxBig)
	wantDue(t, c, 0, 1)
	wantDue(t, c, 0)
	wantDue(t, c, api.MaxBig-2, 2)
	wantDue(t, c, api.MaxBig-1, 3)
	wantDue(t, c, api.MaxBig, 4)
	wantLen(t, c, 0)
}

func TestDueOutOfRange(t *testing.T) {
	c := New()
	set(t, c, 1, 0)
	for _, x := range outside {
		if l, e := c.Due(x); len(l) != 0 || e != api.ErrArg {
			t.Errorf("Due(%d): %v, %v", x, l, e)
		}
	}
	wantLen(t, c, 1)
	wantDue(t, c, 0, 1)
}

func TestDueIsNewMemory(t *testing.T) {
	c := full(t, 5)
	first, _ := c.Due(1002)
	kept := slices.Clone(first)
	second, _ := c.Due(1004)
	for i := range second[:cap(second)] {
		second[:cap(second)][i] = -7
	}
	if !slices.Equal(first, kept) {
		t.Errorf("the first answer became %v", first)
	}
	wantLen(t, c, 0)
}

func TestNextIsTheLeast(t *testing.T) {
	c := New()
	for _, x := range [][3]int{{5, 9, 9}, {6, 20, 9}, {7, 4, 4}, {8, 4, 4}, {7, 30, 4}, {8, 31, 9}, {1, 0, 0}, {1, api.MaxBig, 9}} {
		set(t, c, x[0], x[1])
		wantNext(t, c, x[2], true)
	}
	wantDue(t, c, 25, 5, 6)
	wantNext(t, c, 30, true)
	wantStop(t, c, 7, true, api.OK)
	wantNext(t, c, 31, true)
	wantDue(t, c, 31, 8)
	wantNext(t, c, api.MaxBig, true)
	wantDue(t, c, api.MaxBig, 1)
	wantNext(t, c, 0, false)
}

func TestNilClock(t *testing.T) {
	var c *Clock
	wantLen(t, c, 0)
	wantNext(t, c, 0, false)
	wantAt(t, c, 0, 0, false)
	wantAt(t, c, -1, 0, false)
	wantDue(t, c, 0)
	wantDue(t, c, api.MaxBig)
	wantStop(t, c, 0, false, api.OK)
	wantSet(t, c, 0, 0, api.ErrFull)
	wantSet(t, c, api.MaxBig, api.MaxBig, api.ErrFull)
	for _, x := range outside {
		wantSet(t, c, x, 0, api.ErrArg)
		wantSet(t, c, 0, x, api.ErrArg)
		wantStop(t, c, x, false, api.ErrArg)
		if l, e := c.Due(x); len(l) != 0 || e != api.ErrArg {
			t.Errorf("Due(%d): %v, %v", x, l, e)
		}
	}
}

func TestClockThatNewDidNotMake(t *testing.T) {
	var c Clock
	wantStop(t, &c, 1, false, api.OK)
	wantDue(t, &c, 1)
	set(t, &c, 1, 2)
	wantNext(t, &c, 2, true)
	wantDue(t, &c, 2, 1)
}

// 3.3

func TestToldOnceForEachTimeSetLast(t *testing.T) {
	c := New()
	set(t, c, 5, 9)
	wantDue(t, c, 9, 5)
	wantDue(t, c, 9)
	wantDue(t, c, api.MaxBig)
	set(t, c, 5, 9) // of a moment that is gone by
	set(t, c, 5, 9)
	wantDue(t, c, 20, 5)
	wantDue(t, c, 20)
}

func TestSetEarlierIsToldEarlier(t *testing.T) {
	c := New()
	set(t, c, 5, 9)
	set(t, c, 6, 9)
	set(t, c, 5, 3)
	wantDue(t, c, 3, 5)
	wantDue(t, c, 9, 6)
	wantDue(t, c, api.MaxBig)
}

func TestSetLaterIsToldLater(t *testing.T) {
	c := New()
	set(t, c, 5, 3)
	set(t, c, 6, 9)
	set(t, c, 5, 12)
	wantDue(t, c, 3)
	wantDue(t, c, 11, 6)
	wantDue(t, c, 12, 5)
	wantDue(t, c, api.MaxBig)
}

func TestStoppedIsNotTold(t *testing.T) {
	c := New()
	set(t, c, 5, 3)
	set(t, c, 6, 3)
	wantStop(t, c, 5, true, api.OK)
	wantDue(t, c, 3, 6)
	set(t, c, 5, 4)
	wantStop(t, c, 5, true, api.OK)
	set(t, c, 5, 8)
	wantDue(t, c, 7)
	wantDue(t, c, 8, 5)
}

// A clock is held against a plain list through many steps.
func TestAgainstAList(t *testing.T) {
	type pair struct{ number, at int }
	c, list, x := New(), []pair{}, 1
	roll := func(n int) int {
		x = x * 48271 % (1<<31 - 1)
		return x % n
	}
	for range 20000 {
		number, at := roll(400), roll(60)
		i := slices.IndexFunc(list, func(p pair) bool { return p.number == number })
		switch k := roll(40); {
		case k < 36:
			want := api.OK
			if i >= 0 {
				list[i].at = at
			} else if len(list) < MaxAlarms {
				list = append(list, pair{number, at})
			} else {
				want = api.ErrFull
			}
			wantSet(t, c, number, at, want)
		case k < 39:
			wantStop(t, c, number, i >= 0, api.OK)
			if i >= 0 {
				list = slices.Delete(list, i, i+1)
			}
		default:
			at = roll(at + 1)
			slices.SortFunc(list, func(a, b pair) int {
				return cmp.Or(cmp.Compare(a.at, b.at), cmp.Compare(a.number, b.number))
			})
			var want []int
			for len(list) > 0 && list[0].at <= at {
				want, list = append(want, list[0].number), list[1:]
			}
			wantDue(t, c, at, want...)
			if next, ok := c.Next(); ok && next <= at {
				t.Fatalf("behind Due(%d) one is due at %d", at, next)
			}
		}
		wantLen(t, c, len(list))
	}
}
