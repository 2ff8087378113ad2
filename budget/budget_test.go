package budget

import (
	"math"
	"slices"
	"testing"

	"plugtree/api"
)

var all = []int{1, 2, 4, 8, 16, 32}

// far are numbers that are out of all bounds, many of them such that their lower bits are not.
var far = []int{-1, -2, -8, -32, -64, 65, 256, 257, 258, 260, 1 << 16, 1<<16 + 4, 1 << 31, 1<<31 + 1, 1 << 32, 1<<32 + 1, 1<<32 + 8, 1<<40 + 16, 1 << 62, 1<<62 + 2, math.MinInt, math.MinInt + 1, math.MinInt + 8, math.MinInt32, math.MaxInt, math.MaxInt - 1}

// dice are numbers that are the same in each run.
type dice struct{ n uint64 }

func (d *dice) below(most int) int {
	d.n = d.n*6364136223846793005 + 1442695040888963407
	return int(d.n>>33) % most
}

func (d *dice) periods(count int) []int {
	list := make([]int, count)
	for i := range list {
		list[i] = all[d.below(len(all))]
	}
	return list
}

// berths are told as pairs: a lane, and a phase.
func berths(pairs ...int) []api.Berth {
	var list []api.Berth
	for i := 0; i < len(pairs); i += 2 {
		list = append(list, api.Berth{Lane: pairs[i], Phase: pairs[i+1]})
	}
	return list
}

// times is a list of so many of one number.
func times(count, n int) []int { return slices.Repeat([]int{n}, count) }

func plan(t *testing.T, periods []int, lanes int, want []api.Berth) {
	t.Helper()
	if l, code := Plan(periods, lanes); code != api.OK || !slices.Equal(l, want) {
		t.Fatalf("Plan(%v, %d): %v %d, not %v", periods, lanes, l, code, want)
	}
}

func noPlan(t *testing.T, periods []int, lanes int, want api.Errno) {
	t.Helper()
	if l, code := Plan(periods, lanes); code != want || len(l) > 0 {
		t.Fatalf("Plan(%v, %d): %v %d, not %d", periods, lanes, l, code, want)
	}
}

func check(t *testing.T, periods []int, plan []api.Berth, lanes int, want api.Errno) {
	t.Helper()
	if code := Check(periods, plan, lanes); code != want {
		t.Fatalf("Check(%v, %v, %d): %d, not %d", periods, plan, lanes, code, want)
	}
}

func load(t *testing.T, periods []int, plan []api.Berth, lanes, frame int, want ...int) {
	t.Helper()
	if l, code := Load(periods, plan, lanes, frame); code != api.OK || !slices.Equal(l, want) {
		t.Fatalf("Load(%v, %v, %d, %d): %v %d, not %v", periods, plan, lanes, frame, l, code, want)
	}
}

func noLoad(t *testing.T, periods []int, plan []api.Berth, lanes, frame int, want api.Errno) {
	t.Helper()
	if l, code := Load(periods, plan, lanes, frame); code != want || len(l) > 0 {
		t.Fatalf("Load(%v, %v, %d, %d): %v %d, not %d", periods, plan, lanes, frame, l, code, want)
	}
}

// refused holds that neither a plan nor a frame changes what is wrong with the tasks themselves.
func refused(t *testing.T, periods []int, lanes int, want api.Errno) {
	t.Helper()
	noPlan(t, periods, lanes, want)
	for _, plan := range [][]api.Berth{nil, berths(0, 0), make([]api.Berth, len(periods)), make([]api.Berth, len(periods)+1), berths(-1, -1)} {
		check(t, periods, plan, lanes, want)
		noLoad(t, periods, plan, lanes, 0, want)
		noLoad(t, periods, plan, lanes, -1, want)
	}
}

// clash is what the chapter says of two berths, tried frame by frame.
func clash(p int, a api.Berth, q int, b api.Berth) bool {
	for frame := range 64 {
		if a.Lane == b.Lane && frame%p == a.Phase && frame%q == b.Phase {
			return true
		}
	}
	return false
}

// someClash tells whether two berths of a plan do.
func someClash(periods []int, plan []api.Berth) bool {
	for i := range plan {
		for j := range i {
			if clash(periods[i], plan[i], periods[j], plan[j]) {
				return true
			}
		}
	}
	return false
}

// planned is what P15.1 says of the berths, each tried against each that has its own already; false if some task has none.
func planned(periods []int, lanes int) ([]api.Berth, bool) {
	told := make([]api.Berth, len(periods))
	var placed []int
	for _, period := range all {
		for task := range periods {
			if periods[task] != period {
				continue
			}
			at := slices.IndexFunc(candidates(period, lanes), func(berth api.Berth) bool {
				return !slices.ContainsFunc(placed, func(other int) bool {
					return clash(period, berth, periods[other], told[other])
				})
			})
			if at < 0 {
				return nil, false
			}
			told[task] = candidates(period, lanes)[at]
			placed = append(placed, task)
		}
	}
	return told, true
}

// candidates are all berths of a period.
func candidates(period, lanes int) []api.Berth {
	var list []api.Berth
	for i := range lanes * period {
		list = append(list, api.Berth{Lane: i / period, Phase: i % period})
	}
	return list
}

// tried holds a Plan against what is told task by task, and against how much room there is at all.
func tried(t *testing.T, periods []int, lanes int) {
	t.Helper()
	want, ok := planned(periods, lanes)
	if ok != (wanted(periods) <= 32*lanes) {
		t.Fatalf("%v, %d: %v, %v", periods, lanes, want, ok)
	}
	if !ok {
		noPlan(t, periods, lanes, api.ErrFull)
		return
	}
	plan(t, periods, lanes, want)
	check(t, periods, want, lanes, api.OK)
}

// wanted is how many rooms of 32 frames tasks have.
func wanted(periods []int) int {
	sum := 0
	for _, period := range periods {
		sum += 32 / period
	}
	return sum
}

// lists calls what it is given with each list of so many of these periods.
func lists(count int, of []int, call func(periods []int)) {
	list := make([]int, count)
	var lay func(at int)
	lay = func(at int) {
		if at == count {
			call(list)
			return
		}
		for _, period := range of {
			list[at] = period
			lay(at + 1)
		}
	}
	lay(0)
}

// P15.1

func TestPlanExamples(t *testing.T) {
	plan(t, []int{4, 2, 4}, 1, berths(0, 1, 0, 0, 0, 3))
	plan(t, []int{8, 2, 4, 8, 1}, 2, berths(1, 3, 1, 0, 1, 1, 1, 7, 0, 0))
	plan(t, []int{32}, 1, berths(0, 0))
	plan(t, []int{32, 1}, 2, berths(1, 0, 0, 0))
	plan(t, []int{1, 1, 1}, 3, berths(0, 0, 1, 0, 2, 0))
	plan(t, []int{2, 2, 2}, 2, berths(0, 0, 0, 1, 1, 0))
	plan(t, []int{32, 16, 8, 4, 2}, 1, berths(0, 15, 0, 7, 0, 3, 0, 1, 0, 0))
	plan(t, []int{32, 16, 8, 4, 2, 32}, 1, berths(0, 15, 0, 7, 0, 3, 0, 1, 0, 0, 0, 31))
	plan(t, []int{16, 16, 2, 16}, 8, berths(0, 1, 0, 3, 0, 0, 0, 5))
}

func TestPlanOfNone(t *testing.T) {
	for lanes := 1; lanes <= 8; lanes++ {
		plan(t, nil, lanes, nil)
		plan(t, []int{}, lanes, nil)
	}
}

func TestLanes(t *testing.T) {
	for lanes := 1; lanes <= 8; lanes++ {
		plan(t, times(lanes, 1), lanes, candidates(1, lanes))
		noPlan(t, times(lanes+1, 1), lanes, api.ErrFull)
		check(t, []int{4}, berths(lanes-1, 3), lanes, api.OK)
		load(t, []int{4}, berths(lanes-1, 3), lanes, 3, 0)
	}
	for _, lanes := range append([]int{0, 9, 10, 16, 32, 64}, far...) {
		refused(t, nil, lanes, api.ErrArg)
		refused(t, []int{1}, lanes, api.ErrArg)
		refused(t, []int{3}, lanes, api.ErrArg)
	}
}

func TestPeriods(t *testing.T) {
	for _, period := range all {
		plan(t, []int{period}, 1, berths(0, 0))
	}
	wrong := slices.Clone(far)
	for n := -70; n <= 140; n++ {
		if !slices.Contains(all, n) {
			wrong = append(wrong, n)
		}
	}
	for _, n := range wrong {
		refused(t, []int{n}, 1, api.ErrArg)
		refused(t, []int{n, 1}, 8, api.ErrArg)
		refused(t, []int{1, 32, n, 2}, 8, api.ErrArg)
		refused(t, append(times(63, 32), n), 8, api.ErrArg)
	}
}

func TestLarge(t *testing.T) {
	for _, count := range []int{1, 2, 31, 32, 33, 63, 64} {
		tried(t, times(count, 32), 8)
		tried(t, times(count, 16), 4)
	}
	for _, count := range []int{65, 66, 128, 256, 257, 65536, 65537} {
		refused(t, times(count, 32), 8, api.ErrLarge)
		refused(t, times(count, 1), 1, api.ErrLarge)
	}
}

// Lanes come first, then how many tasks there are, then their periods, then room.
func TestTaskErrorsInOrder(t *testing.T) {
	refused(t, times(65, 32), 0, api.ErrArg)
	refused(t, times(65, 32), 9, api.ErrArg)
	refused(t, times(65, 3), 0, api.ErrArg)
	refused(t, times(65, 3), 8, api.ErrLarge)
	refused(t, append(times(64, 32), 0), 8, api.ErrLarge)
	refused(t, []int{1, 1, 1, 5}, 1, api.ErrArg)
	refused(t, []int{1, 1, 1, 64}, 1, api.ErrArg)
}

func TestPlanFull(t *testing.T) {
	noPlan(t, []int{2, 2, 32}, 1, api.ErrFull)
	noPlan(t, []int{32, 1}, 1, api.ErrFull)
	noPlan(t, []int{1, 1}, 1, api.ErrFull)
	noPlan(t, []int{4, 4, 4, 4, 4}, 1, api.ErrFull)
	for _, period := range all {
		for lanes := 1; lanes <= 8 && period*lanes < 64; lanes++ {
			plan(t, times(period*lanes, period), lanes, candidates(period, lanes))
			noPlan(t, append(times(period*lanes, period), 32), lanes, api.ErrFull)
		}
	}
}

// Those of one period come in the order of the list, wherever the others are.
func TestPlanInOrderOfTheList(t *testing.T) {
	d := dice{15}
	for range 2000 {
		periods := d.periods(1 + d.below(12))
		l, code := Plan(periods, 8)
		if code != api.OK {
			continue
		}
		for i := range periods {
			for j := range i {
				if periods[i] == periods[j] && (l[i].Lane < l[j].Lane || l[i].Lane == l[j].Lane && l[i].Phase <= l[j].Phase) {
					t.Fatal(periods, l)
				}
			}
		}
	}
}

func TestPlanAllSmall(t *testing.T) {
	for count := range 6 {
		lists(count, all, func(periods []int) {
			for lanes := 1; lanes <= 2; lanes++ {
				tried(t, periods, lanes)
			}
		})
	}
}

func TestPlanThrown(t *testing.T) {
	d := dice{16}
	for range 3000 {
		periods := d.periods(d.below(33))
		tried(t, periods, 1+d.below(8))
		// Longer periods leave room for many tasks.
		for i := range periods {
			periods[i] = max(periods[i], 1<<d.below(6))
		}
		tried(t, periods, 1+d.below(8))
	}
	for range 50 {
		tried(t, d.periods(64), 8)
		periods := d.periods(64)
		for i := range periods {
			periods[i] = max(periods[i], 4)
		}
		tried(t, periods, 8)
	}
}

// P15.2

func TestCheckForm(t *testing.T) {
	for count := range 6 {
		periods := times(count, 8)
		for have := range 9 {
			want := api.ErrForm
			if have == count {
				want = api.OK
			}
			check(t, periods, candidates(8, 1)[:have], 1, want)
		}
	}
	check(t, nil, []api.Berth{}, 1, api.OK)
	check(t, nil, berths(0, 0), 1, api.ErrForm)
	check(t, times(64, 32), candidates(32, 2), 2, api.OK)
	check(t, times(64, 32), candidates(32, 2)[:63], 2, api.ErrForm)
	check(t, times(63, 32), candidates(32, 2), 2, api.ErrForm)
}

func TestCheckLane(t *testing.T) {
	for lanes := 1; lanes <= 8; lanes++ {
		for lane := range lanes {
			check(t, []int{2, 2}, berths(lane, 0, lane, 1), lanes, api.OK)
		}
		for _, lane := range append([]int{lanes, lanes + 1, 8, 9, 32}, far...) {
			check(t, []int{2}, berths(lane, 0), lanes, api.ErrArg)
			check(t, []int{2, 2}, berths(lane, 0, 0, 1), lanes, api.ErrArg)
			check(t, []int{2, 2}, berths(0, 0, lane, 1), lanes, api.ErrArg)
			check(t, []int{8, 8, 8, 8}, berths(0, 0, 0, 1, 0, 2, lane, 3), lanes, api.ErrArg)
		}
	}
}

func TestCheckPhase(t *testing.T) {
	for _, period := range all {
		for phase := range period {
			check(t, []int{period}, berths(0, phase), 1, api.OK)
		}
		for _, phase := range append([]int{period, period + 1, 2 * period, 32, 33, 64}, far...) {
			check(t, []int{period}, berths(0, phase), 1, api.ErrArg)
			check(t, []int{period, 32}, berths(0, phase, 1, 0), 2, api.ErrArg)
			check(t, []int{32, period}, berths(1, 31, 0, phase), 2, api.ErrArg)
		}
	}
	// Each phase is held against the period of its own task.
	check(t, []int{2, 4}, berths(0, 0, 1, 3), 2, api.OK)
	check(t, []int{4, 2}, berths(0, 0, 1, 3), 2, api.ErrArg)
	check(t, []int{2, 4}, berths(0, 3, 1, 0), 2, api.ErrArg)
}

func TestCheckTwice(t *testing.T) {
	check(t, []int{2, 4}, berths(0, 0, 0, 2), 1, api.ErrTwice)
	check(t, []int{2, 4}, berths(0, 0, 0, 3), 1, api.OK)
	check(t, []int{1, 1}, berths(0, 0, 0, 0), 2, api.ErrTwice)
	check(t, []int{1, 1}, berths(0, 0, 1, 0), 2, api.OK)
	check(t, []int{32, 32}, berths(7, 31, 7, 31), 8, api.ErrTwice)
	check(t, []int{32, 32}, berths(7, 31, 7, 30), 8, api.OK)
}

func TestCheckAllPairs(t *testing.T) {
	for _, p := range all {
		for _, q := range all {
			for _, a := range candidates(p, 2) {
				for _, b := range candidates(q, 2) {
					want := api.OK
					if clash(p, a, q, b) {
						want = api.ErrTwice
					}
					check(t, []int{p, q}, []api.Berth{a, b}, 2, want)
				}
			}
		}
	}
}

// Any two of many berths are held against each other.
func TestCheckEachPair(t *testing.T) {
	for lanes := 2; lanes <= 8; lanes += 3 {
		periods, plan := times(64, 32), candidates(32, lanes)[:64]
		check(t, periods, plan, lanes, api.OK)
		for i := range plan {
			for j := range i {
				wrong := slices.Clone(plan)
				wrong[i] = wrong[j]
				check(t, periods, wrong, lanes, api.ErrTwice)
				wrong = slices.Clone(plan)
				wrong[i], wrong[j] = wrong[j], wrong[i]
				check(t, periods, wrong, lanes, api.OK)
			}
		}
	}
}

// thrownPlan are berths that can be some of these tasks, and often clash.
func thrownPlan(d *dice, periods []int, lanes int) []api.Berth {
	var list []api.Berth
	for _, period := range periods {
		list = append(list, api.Berth{Lane: d.below(lanes), Phase: d.below(period)})
	}
	return list
}

func TestCheckThrown(t *testing.T) {
	d := dice{17}
	seen := map[api.Errno]int{}
	for range 20000 {
		lanes := 1 + d.below(8)
		periods := d.periods(d.below(7))
		plan := thrownPlan(&d, periods, lanes)
		want := api.OK
		if someClash(periods, plan) {
			want = api.ErrTwice
		}
		check(t, periods, plan, lanes, want)
		seen[want]++
	}
	if seen[api.OK] < 1000 || seen[api.ErrTwice] < 1000 {
		t.Error(seen)
	}
}

// The tasks come first, then how many berths there are, then each of them, then two of them.
func TestPlanErrorsInOrder(t *testing.T) {
	check(t, []int{3}, nil, 1, api.ErrArg)
	check(t, []int{2, 2}, berths(0, 0), 0, api.ErrArg)
	check(t, times(65, 2), nil, 1, api.ErrLarge)
	check(t, []int{2, 2}, berths(-1, 0), 1, api.ErrForm)
	check(t, []int{2, 2}, berths(0, 2, 0, 2, 0, 2), 1, api.ErrForm)
	check(t, []int{2, 2}, berths(0, 0, 0, 0, 0, 0), 1, api.ErrForm)
	check(t, []int{2, 2, 2}, berths(0, 0, 0, 0, 1, 0), 1, api.ErrArg)
	check(t, []int{2, 2, 2}, berths(0, 0, 0, 0, 0, 2), 1, api.ErrArg)
	check(t, []int{2, 2}, berths(0, 2, 0, 2), 1, api.ErrArg)
	// That no plan has room for all tasks is nothing that Check tells.
	check(t, []int{1, 1}, berths(0, 0, 0, 0), 1, api.ErrTwice)
	check(t, []int{1, 1}, nil, 1, api.ErrForm)
	check(t, []int{1, 1}, berths(0, 0, 1, 0), 1, api.ErrArg)
}

// P15.3

func TestLoadExamples(t *testing.T) {
	periods, plan := []int{8, 2, 4, 8, 1}, berths(1, 3, 1, 0, 1, 1, 1, 7, 0, 0)
	for frame, want := range [][]int{{4, 1}, {4, 2}, {4, 1}, {4, 0}, {4, 1}, {4, 2}, {4, 1}, {4, 3}, {4, 1}, {4, 2}, {4, 1}, {4, 0}} {
		load(t, periods, plan, 2, frame, want...)
	}
	load(t, nil, nil, 8, 0)
	load(t, []int{1}, berths(7, 0), 8, 5, 0)
	load(t, []int{2, 2, 2}, berths(5, 1, 3, 1, 4, 0), 8, 3, 1, 0)
	load(t, []int{2, 2, 2}, berths(5, 1, 3, 1, 4, 0), 8, 4, 2)
}

func TestLoadFrame(t *testing.T) {
	for _, period := range all {
		for phase := range period {
			for frame := range 100 {
				var want []int
				if frame%period == phase {
					want = []int{0}
				}
				load(t, []int{period}, berths(0, phase), 1, frame, want...)
			}
		}
		load(t, []int{period}, berths(0, 0), 1, 1<<32, 0)
		load(t, []int{period}, berths(0, 0), 1, 1<<62, 0)
		load(t, []int{period}, berths(0, period-1), 1, math.MaxInt32, 0)
		load(t, []int{period}, berths(0, period-1), 1, math.MaxInt, 0)
		if period > 1 {
			load(t, []int{period}, berths(0, period-1), 1, math.MaxInt-1)
			load(t, []int{period}, berths(0, 0), 1, math.MaxInt)
		}
	}
	for _, frame := range []int{-1, -2, -32, -64, math.MinInt32, math.MinInt, math.MinInt + 1} {
		noLoad(t, []int{1}, berths(0, 0), 1, frame, api.ErrArg)
		noLoad(t, []int{32}, berths(0, 0), 1, frame, api.ErrArg)
		noLoad(t, nil, nil, 1, frame, api.ErrArg)
	}
}

// The plan is looked at ahead of the frame, and whatever the frame is.
func TestLoadChecks(t *testing.T) {
	for _, frame := range []int{0, 1, 7, -1, math.MinInt, math.MaxInt} {
		noLoad(t, []int{2, 2}, berths(0, 0, 0, 1), 9, frame, api.ErrArg)
		noLoad(t, times(65, 32), candidates(32, 3)[:65], 3, frame, api.ErrLarge)
		noLoad(t, []int{2, 2}, berths(0, 0), 1, frame, api.ErrForm)
		noLoad(t, []int{2}, berths(0, 0, 0, 1), 1, frame, api.ErrForm)
		noLoad(t, []int{2, 2}, berths(0, 0, 1, 1), 1, frame, api.ErrArg)
		noLoad(t, []int{2, 2}, berths(0, 0, 0, 2), 1, frame, api.ErrArg)
		noLoad(t, []int{2, 4}, berths(0, 0, 0, 2), 1, frame, api.ErrTwice)
	}
}

// Over 32 frames each task comes as often as its period says, never two of them on one lane, and in the order of their lanes.
func TestLoadThrown(t *testing.T) {
	d := dice{18}
	for range 1000 {
		lanes := 1 + d.below(8)
		periods := d.periods(d.below(20))
		plan, code := Plan(periods, lanes)
		if code != api.OK {
			continue
		}
		shuffled(&d, lanes, plan)
		came := make([]int, len(periods))
		from := 32 * d.below(1000)
		for frame := from; frame < from+32; frame++ {
			tasks, code := Load(periods, plan, lanes, frame)
			if code != api.OK {
				t.Fatal(periods, plan, frame, code)
			}
			last := -1
			for _, task := range tasks {
				if plan[task].Lane <= last || frame%periods[task] != plan[task].Phase {
					t.Fatal(periods, plan, frame, tasks)
				}
				last = plan[task].Lane
				came[task]++
			}
		}
		for task, count := range came {
			if count != 32/periods[task] {
				t.Fatal(periods, plan, came)
			}
		}
	}
}

// shuffled lets the lanes of a plan change their places, so that they are not in the order in which Plan fills them.
func shuffled(d *dice, lanes int, plan []api.Berth) {
	a, b := d.below(lanes), d.below(lanes)
	for i := range plan {
		switch plan[i].Lane {
		case a:
			plan[i].Lane = b
		case b:
			plan[i].Lane = a
		}
	}
}

// P1 and P2

func TestWhateverIsGiven(t *testing.T) {
	d := dice{19}
	numbers := slices.Concat(all, far, []int{0, 3, 7, 9, 31, 33})
	pick := func() int { return numbers[d.below(len(numbers))] }
	for range 20000 {
		periods := d.periods(d.below(4))
		plan := make([]api.Berth, d.below(4))
		for i := range plan {
			plan[i] = api.Berth{Lane: pick(), Phase: pick()}
		}
		if len(periods) > 0 && d.below(2) == 0 {
			periods[0] = pick()
		}
		lanes, frame := pick(), pick()
		l, code := Plan(periods, lanes)
		if code == api.OK {
			check(t, periods, l, lanes, api.OK)
		}
		code = Check(periods, plan, lanes)
		if code == api.OK && frame < 0 {
			code = api.ErrArg
		}
		if tasks, got := Load(periods, plan, lanes, frame); got != code || got != api.OK && len(tasks) > 0 {
			t.Fatal(periods, plan, lanes, frame, tasks, got)
		}
	}
}

// roomy is a list with spare room, which is filled.
func roomy[E any](list []E, with E) []E {
	long := slices.Concat(list, slices.Repeat([]E{with}, 4))
	return long[:len(list)]
}

func whole[E any](list []E) []E { return slices.Clone(list[:cap(list)]) }

// fill overwrites all that can be reached from a list.
func fill[E any](list []E, with E) {
	list = list[:cap(list)]
	for i := range list {
		list[i] = with
	}
}

func TestAnswersAreNewMemory(t *testing.T) {
	for _, plain := range [][]int{nil, {1}, {4, 2, 4}, {8, 2, 4, 8}, {2, 2, 32}, {3}, {32, 16, 8, 4, 2}} {
		periods := roomy(plain, 5)
		first, code := Plan(periods, 1)
		berthsIn := roomy(first, api.Berth{Lane: 5, Phase: 5})
		aheadPeriods, aheadBerths := whole(periods), whole(berthsIn)
		again, _ := Plan(periods, 1)
		Check(periods, berthsIn, 1)
		tasks, _ := Load(periods, berthsIn, 1, 3)
		others, _ := Load(periods, berthsIn, 1, 3)
		kept := slices.Clone(others)
		fill(first, api.Berth{Lane: -7, Phase: -7})
		fill(tasks, -7)
		if !slices.Equal(whole(periods), aheadPeriods) || !slices.Equal(whole(berthsIn), aheadBerths) {
			t.Error("what was handed in is changed:", plain)
		}
		if code == api.OK && !slices.Equal(again, berthsIn) || !slices.Equal(others, kept) {
			t.Error("two answers share memory:", plain)
		}
	}
}

func TestSameAnswerAgain(t *testing.T) {
	periods, told := []int{4, 2, 4}, berths(0, 1, 0, 0, 0, 3)
	for range 3 {
		plan(t, periods, 1, told)
		noPlan(t, []int{2, 2, 32}, 1, api.ErrFull)
		check(t, periods, told, 1, api.OK)
		check(t, periods, berths(0, 1, 0, 0, 0, 1), 1, api.ErrTwice)
		load(t, periods, told, 1, 7, 2)
		load(t, periods, told, 1, 5, 0)
	}
}
