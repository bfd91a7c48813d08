package point_test

import (
	"math"
	"slices"
	"testing"

	"meniscus/api"
	"meniscus/point"
)

func to(lo, hi int) point.Range { return point.Range{Lo: lo, Hi: hi} }

func scale(ice, steam int) point.Scale { return point.Scale{Ice: ice, Steam: steam} }

func entry(reads, lo, hi int) point.Entry { return point.Entry{Reads: reads, Known: to(lo, hi)} }

func steps(pressureAndHeight ...int) []point.Step {
	var list []point.Step
	for i := 0; i < len(pressureAndHeight); i += 2 {
		list = append(list, point.Step{Pressure: pressureAndHeight[i], Height: pressureAndHeight[i+1]})
	}
	return list
}

// exampleScales, exampleTable and exampleDiary are the chapter's.
func exampleScales() []point.Scale {
	return []point.Scale{scale(0, 100), scale(32, 212), scale(0, 80), scale(150, 0)}
}

func exampleTable() []point.Step { return steps(720, 985, 760, 1000, 800, 1014) }

func exampleDiary() []point.Entry { return []point.Entry{entry(68, 190, 210), entry(212, 1000, 1000)} }

// P3.1
func TestCheckScale(t *testing.T) {
	for _, x := range []struct {
		s    point.Scale
		want api.Errno
	}{
		{scale(0, 100), api.OK},
		{scale(150, 0), api.OK},
		{scale(-1000, 1000), api.OK},
		{scale(1000, -1000), api.OK},
		{scale(999, 1000), api.OK},
		{scale(0, 1001), api.ErrArg},
		{scale(0, -1001), api.ErrArg},
		{scale(1001, 0), api.ErrArg},
		{scale(-1001, 0), api.ErrArg},
		{scale(0, 0), api.ErrArg},
		{scale(7, 7), api.ErrArg},
		{scale(-1000, -1000), api.ErrArg},
		{scale(math.MinInt, math.MaxInt), api.ErrArg},
		{scale(math.MaxInt, math.MinInt), api.ErrArg},
	} {
		if e := point.CheckScale(x.s); e != x.want {
			t.Errorf("%v: %v, not %v", x.s, e, x.want)
		}
	}
}

// P3.1: the chapter's examples, and others that were worked out by hand.
func TestHeights(t *testing.T) {
	for _, x := range []struct {
		name     string
		s        point.Scale
		readings point.Range
		want     point.Range
		e        api.Errno
	}{
		{"20 of 100", scale(0, 100), to(20, 20), to(195, 205), api.OK},
		{"68 between 32 and 212", scale(32, 212), to(68, 68), to(197, 203), api.OK},
		{"120 on a scale that counts down", scale(150, 0), to(120, 120), to(196, 204), api.OK},
		{"more readings", scale(0, 100), to(-3, 20), to(-35, 205), api.OK},
		{"ice", scale(32, 212), to(32, 32), to(-3, 3), api.OK},
		{"steam", scale(32, 212), to(212, 212), to(997, 1003), api.OK},
		{"below ice it is rounded down, too", scale(0, 300), to(-20, -20), to(-69, -65), api.OK},
		{"a degree from ice to steam", scale(0, 1), to(0, 0), to(-500, 500), api.OK},
		{"a degree, downwards", scale(1, 0), to(0, 0), to(500, 1500), api.OK},
		{"the least degrees", scale(-1000, 1000), to(-1000, -1000), to(-1, 1), api.OK},
		{"between whole thousandths", scale(-1000, 1000), to(-999, -999), to(0, 1), api.OK},
		{"the greatest reading", scale(0, 1), to(1000000, 1000000), to(999999500, 1000000500), api.OK},
		{"the least one", scale(0, 1), to(-1000000, -1000000), to(-1000000500, -999999500), api.OK},
		{"all readings", scale(1, 0), to(-1000000, 1000000), to(-999999500, 1000001500), api.OK},
		{"one beyond the greatest", scale(0, 1), to(0, 1000001), to(0, 0), api.ErrRange},
		{"one below the least", scale(0, 1), to(-1000001, 0), to(0, 0), api.ErrRange},
		{"no range", scale(0, 1), to(1, 0), to(0, 0), api.ErrRange},
		{"no scale", scale(1, 1), to(0, 0), to(0, 0), api.ErrArg},
	} {
		if got, e := point.Heights(x.s, x.readings); got != x.want || e != x.e {
			t.Errorf("%s: %v, %v, not %v, %v", x.name, got, e, x.want, x.e)
		}
	}
}

// P3.2: the chapter's examples, and others that were worked out by hand.
func TestConvert(t *testing.T) {
	for _, x := range []struct {
		name     string
		from, to point.Scale
		readings point.Range
		want     point.Range
		e        api.Errno
	}{
		{"0 to 1", scale(0, 100), scale(32, 212), to(20, 20), to(67, 69), api.OK},
		{"back", scale(32, 212), scale(0, 100), to(68, 68), to(20, 20), api.OK},
		{"0 to 3", scale(0, 100), scale(150, 0), to(20, 20), to(119, 121), api.OK},
		{"3 to 0", scale(150, 0), scale(0, 100), to(120, 120), to(20, 20), api.OK},
		{"more readings", scale(0, 100), scale(32, 212), to(-20, 20), to(-5, 69), api.OK},
		{"on its own scale both halves are touched", scale(0, 100), scale(0, 100), to(20, 20), to(19, 21), api.OK},
		{"turned", scale(0, 100), scale(100, 0), to(20, 30), to(69, 81), api.OK},
		{"as many degrees, below 0", scale(0, 100), scale(-100, 0), to(0, 0), to(-101, -99), api.OK},
		{"to few degrees", scale(0, 100), scale(0, 1), to(20, 20), to(0, 0), api.OK},
		{"the half between two", scale(0, 101), scale(0, 1), to(50, 50), to(0, 1), api.OK},
		{"not quite a half", scale(0, 100), scale(0, 1), to(49, 49), to(0, 0), api.OK},
		{"to many degrees", scale(0, 1), scale(-1000, 1000), to(0, 0), to(-2000, 0), api.OK},
		{"to the greatest reading", scale(0, 100), scale(0, 100), to(999999, 999999), to(999998, 1000000), api.OK},
		{"to one beyond it", scale(0, 100), scale(0, 100), to(0, 1000000), to(0, 0), api.ErrBound},
		{"to the least reading", scale(0, 100), scale(0, 100), to(-999999, -999999), to(-1000000, -999998), api.OK},
		{"to one below it", scale(0, 100), scale(0, 100), to(-1000000, 0), to(0, 0), api.ErrBound},
		{"turned beyond it", scale(0, 100), scale(100, 0), to(999901, 999901), to(-999802, -999800), api.OK},
		{"far beyond it", scale(0, 1), scale(-1000, 1000), to(1000000, 1000000), to(0, 0), api.ErrBound},
		{"both ends beyond it", scale(0, 1), scale(1000, -1000), to(-1000000, 1000000), to(0, 0), api.ErrBound},
		{"from the greatest reading", scale(0, 200), scale(0, 100), to(1000000, 1000000), to(500000, 500000), api.OK},
		{"from one beyond it", scale(0, 200), scale(0, 100), to(0, 1000001), to(0, 0), api.ErrRange},
		{"from one below it", scale(0, 200), scale(0, 100), to(-1000001, 0), to(0, 0), api.ErrRange},
		{"no range", scale(0, 200), scale(0, 100), to(1, 0), to(0, 0), api.ErrRange},
		{"from no scale", scale(5, 5), scale(0, 100), to(0, 0), to(0, 0), api.ErrArg},
		{"to no scale", scale(0, 100), scale(0, 1001), to(0, 0), to(0, 0), api.ErrArg},
	} {
		if got, e := point.Convert(x.from, x.to, x.readings); got != x.want || e != x.e {
			t.Errorf("%s: %v, %v, not %v, %v", x.name, got, e, x.want, x.e)
		}
	}
}

// P3.3: the chapter's examples, and each limit of scales.
func TestThrough(t *testing.T) {
	s := exampleScales()
	for _, x := range []struct {
		name     string
		l        []point.Scale
		readings point.Range
		want     point.Range
		e        api.Errno
	}{
		{"0, 1, 0", []point.Scale{s[0], s[1], s[0]}, to(20, 20), to(19, 21), api.OK},
		{"0, 2, 1", []point.Scale{s[0], s[2], s[1]}, to(20, 20), to(67, 69), api.OK},
		{"0, 1", s[:2], to(20, 20), to(67, 69), api.OK},
		{"0, 3, 0", []point.Scale{s[0], s[3], s[0]}, to(20, 20), to(19, 21), api.OK},
		{"one alone", s[1:2], to(-7, 68), to(-7, 68), api.OK},
		{"one alone, to the greatest readings", s[:1], to(-1000000, 1000000), to(-1000000, 1000000), api.OK},
		{"one alone, beyond them", s[:1], to(0, 1000001), to(0, 0), api.ErrRange},
		{"as many as there may be", slices.Repeat(s[:1], 8), to(20, 20), to(13, 27), api.OK},
		{"one more", slices.Repeat(s[:1], 9), to(20, 20), to(0, 0), api.ErrLimit},
		{"none", nil, to(20, 20), to(0, 0), api.ErrArg},
		{"one that is none", append(exampleScales(), scale(3, 3)), to(20, 20), to(0, 0), api.ErrArg},
		{"beyond the bounds between others", []point.Scale{scale(0, 1), scale(0, 1000), scale(0, 1)}, to(1000, 1000), to(0, 0), api.ErrBound},
		{"within them between others", []point.Scale{scale(0, 1), scale(0, 1000), scale(0, 1)}, to(999, 999), to(998, 1000), api.OK},
		{"beyond the bounds at last", slices.Repeat(s[:1], 3), to(999998, 999999), to(0, 0), api.ErrBound},
		{"within them at last", slices.Repeat(s[:1], 3), to(-999998, 999998), to(-1000000, 1000000), api.OK},
		{"wider from scale to scale", []point.Scale{scale(0, 1), scale(0, 1000), scale(0, 1), scale(0, 1000)}, to(0, 0), to(-1500, 1500), api.OK},
	} {
		if got, e := point.Through(x.l, x.readings); got != x.want || e != x.e {
			t.Errorf("%s: %v, %v, not %v, %v", x.name, got, e, x.want, x.e)
		}
	}
}

// P3.4: the chapter's example, and others that were worked out by hand.
func TestBoils(t *testing.T) {
	far := steps(1, 1, 2000, 2000)
	for _, x := range []struct {
		name      string
		table     []point.Step
		pressures point.Range
		want      point.Range
		e         api.Errno
	}{
		{"the example", exampleTable(), to(750, 770), to(996, 1003), api.OK},
		{"a step", exampleTable(), to(760, 760), to(1000, 1000), api.OK},
		{"right below a step", exampleTable(), to(759, 759), to(999, 999), api.OK},
		{"right above a step", exampleTable(), to(761, 763), to(1000, 1001), api.OK},
		{"all of the table", exampleTable(), to(720, 800), to(985, 1014), api.OK},
		{"the first and the last pressure", exampleTable(), to(721, 799), to(985, 1013), api.OK},
		{"one below the first pressure", exampleTable(), to(719, 760), to(0, 0), api.ErrRange},
		{"one beyond the last pressure", exampleTable(), to(760, 801), to(0, 0), api.ErrRange},
		{"no range", exampleTable(), to(770, 750), to(0, 0), api.ErrRange},
		{"far pressures", exampleTable(), to(math.MinInt, math.MaxInt), to(0, 0), api.ErrRange},
		{"the greatest table", far, to(1, 2000), to(1, 2000), api.OK},
		{"steep steps", steps(10, 1, 11, 1000, 2000, 1001), to(10, 1999), to(1, 1000), api.OK},
	} {
		if got, e := point.Boils(x.table, x.pressures); got != x.want || e != x.e {
			t.Errorf("%s: %v, %v, not %v, %v", x.name, got, e, x.want, x.e)
		}
	}
}

// P3.4: each limit of tables, and one beyond it.
func TestTables(t *testing.T) {
	long := steps(1, 1, 2, 2, 3, 3, 4, 4, 5, 5, 6, 6, 7, 7, 8, 8, 9, 9)
	for _, x := range []struct {
		name  string
		table []point.Step
		want  api.Errno
	}{
		{"two steps", long[:2], api.OK},
		{"one step", long[:1], api.ErrArg},
		{"no step", nil, api.ErrArg},
		{"as many as there may be", long[:8], api.OK},
		{"one step more", long, api.ErrLimit},
		{"the greatest Pressure", steps(1, 1, 2000, 2), api.OK},
		{"one beyond it", steps(1, 1, 2001, 2), api.ErrArg},
		{"a Pressure of 0", steps(0, 1, 1, 2), api.ErrArg},
		{"the greatest Height", steps(1, 1, 2, 2000), api.OK},
		{"one beyond it", steps(1, 1, 2, 2001), api.ErrArg},
		{"a Height of 0", steps(1, 0, 2, 1), api.ErrArg},
		{"equal Pressures", steps(1, 1, 1, 2), api.ErrArg},
		{"equal Heights", steps(1, 1, 2, 1), api.ErrArg},
		{"Pressures that fall later", steps(1, 1, 3, 2, 2, 3), api.ErrArg},
		{"Heights that fall later", steps(1, 1, 2, 3, 3, 2), api.ErrArg},
		{"far numbers", steps(math.MinInt, math.MinInt, math.MaxInt, math.MaxInt), api.ErrArg},
	} {
		at := to(1, 1)
		if _, e := point.Boils(x.table, at); e != x.want {
			t.Errorf("%s: Boils: %v, not %v", x.name, e, x.want)
		}
		if _, e := point.Corrected(scale(0, 100), x.table, at, to(0, 0)); e != x.want {
			t.Errorf("%s: Corrected: %v, not %v", x.name, e, x.want)
		}
	}
}

// P3.4: the chapter's example, and others that were worked out by hand.
func TestCorrected(t *testing.T) {
	for _, x := range []struct {
		name                string
		s                   point.Scale
		pressures, readings point.Range
		want                point.Range
		e                   api.Errno
	}{
		{"the example", scale(0, 100), to(750, 770), to(50, 50), to(493, 507), api.OK},
		{"where steam is at 1000", scale(32, 212), to(760, 760), to(68, 68), to(197, 203), api.OK},
		{"at one pressure", scale(0, 100), to(720, 720), to(100, 100), to(980, 990), api.OK},
		{"below ice the higher steam counts for the lower end", scale(0, 100), to(720, 800), to(-50, -50), to(-513, -487), api.OK},
		{"around ice the higher steam counts for both", scale(0, 100), to(720, 800), to(-10, 10), to(-107, 107), api.OK},
		{"turned", scale(100, 0), to(720, 800), to(50, 50), to(487, 513), api.OK},
		{"rounded once alone", scale(0, 300), to(720, 720), to(20, 20), to(64, 68), api.OK},
		{"the greatest reading", scale(0, 1), to(800, 800), to(1000000, 1000000), to(1013999493, 1014000507), api.OK},
		{"a reading beyond it", scale(0, 1), to(800, 800), to(0, 1000001), to(0, 0), api.ErrRange},
		{"readings that are no range", scale(0, 1), to(800, 800), to(1, 0), to(0, 0), api.ErrRange},
		{"a pressure beyond the last one", scale(0, 1), to(800, 801), to(0, 0), to(0, 0), api.ErrRange},
		{"pressures that are no range", scale(0, 1), to(790, 780), to(0, 0), to(0, 0), api.ErrRange},
		{"no scale", scale(9, 9), to(790, 790), to(0, 0), to(0, 0), api.ErrArg},
	} {
		if got, e := point.Corrected(x.s, exampleTable(), x.pressures, x.readings); got != x.want || e != x.e {
			t.Errorf("%s: %v, %v, not %v, %v", x.name, got, e, x.want, x.e)
		}
	}
}

// P3.5, P3.6: the chapter's examples, and others that were worked out by hand.
func TestDiaries(t *testing.T) {
	hundred, steep := []point.Scale{scale(0, 100)}, []point.Scale{scale(-1000, 1000)}
	two := []point.Scale{scale(0, 100), scale(32, 212)}
	for _, x := range []struct {
		name  string
		l     []point.Scale
		diary []point.Entry
		kinds []int
		scale int
		wrong []int
		e     api.Errno
	}{
		{"the example", exampleScales(), exampleDiary(), []int{1}, 1, nil, api.OK},
		{"with 10: 400..410", exampleScales(), append(exampleDiary(), entry(10, 400, 410)), nil, 1, []int{2}, api.OK},
		{"no entries", exampleScales(), nil, []int{0, 1, 2, 3}, 0, nil, api.OK},
		{"no scale", nil, exampleDiary(), nil, 0, nil, api.ErrNone},
		{"neither", nil, nil, nil, 0, nil, api.ErrNone},
		{"the upper end of a reading is touched", hundred, []point.Entry{entry(20, 205, 300)}, []int{0}, 0, nil, api.OK},
		{"it is not", hundred, []point.Entry{entry(20, 206, 300)}, nil, 0, []int{0}, api.OK},
		{"the lower end is touched", hundred, []point.Entry{entry(20, -300, 195)}, []int{0}, 0, nil, api.OK},
		{"it is not", hundred, []point.Entry{entry(20, -300, 194)}, nil, 0, []int{0}, api.OK},
		{"rounded up alone it would be touched", []point.Scale{scale(32, 212)}, []point.Entry{entry(68, 203, 300)}, nil, 0, []int{0}, api.OK},
		{"rounded down alone it would be touched", []point.Scale{scale(32, 212)}, []point.Entry{entry(68, 100, 197)}, nil, 0, []int{0}, api.OK},
		{"the reading lies within what is known", hundred, []point.Entry{entry(20, 0, 1000)}, []int{0}, 0, nil, api.OK},
		{"what is known lies within the reading", hundred, []point.Entry{entry(20, 199, 199)}, []int{0}, 0, nil, api.OK},
		{"between two whole thousandths", steep, []point.Entry{entry(-999, 0, 1)}, []int{0}, 0, nil, api.OK},
		{"between them, and one of them is known", steep, []point.Entry{entry(-999, 0, 0), entry(-999, 1, 1)}, nil, 0, []int{0, 1}, api.OK},
		{"downwards", []point.Scale{scale(150, 0)}, []point.Entry{entry(120, 204, 300), entry(120, 203, 203), entry(120, 197, 197), entry(120, 100, 196)}, nil, 0, []int{0, 3}, api.OK},
		{"of several the first", two, []point.Entry{entry(0, 0, 0), entry(32, 0, 0)}, nil, 0, []int{1}, api.OK},
		{"a later one is better", two, []point.Entry{entry(0, 0, 0), entry(32, 0, 0), entry(212, 1000, 1000)}, nil, 1, []int{0}, api.OK},
		{"an entry that comes twice is wrong twice", two, []point.Entry{entry(32, 0, 0), entry(0, 0, 0), entry(32, 0, 0)}, nil, 1, []int{1}, api.OK},
		{"a scale that comes twice", []point.Scale{scale(0, 80), scale(0, 100), scale(0, 80), scale(0, 100)}, []point.Entry{entry(100, 1000, 1000)}, []int{1, 3}, 1, nil, api.OK},
		{"all are wrong", two, []point.Entry{entry(0, 50, 60), entry(1, 50, 60), entry(2, 50, 60)}, nil, 0, []int{0, 1, 2}, api.OK},
		{"the last of as many scales, by as many entries, as there may be",
			append(slices.Repeat(two[:1], 7), two[1]), slices.Repeat([]point.Entry{entry(32, 0, 0)}, 12), []int{7}, 7, nil, api.OK},
	} {
		kinds, e := point.Kinds(x.l, x.diary)
		if !slices.Equal(kinds, x.kinds) || e != api.OK {
			t.Errorf("%s: Kinds: %v, %v, not %v", x.name, kinds, e, x.kinds)
		}
		number, wrong, e := point.Wrong(x.l, x.diary)
		if number != x.scale || !slices.Equal(wrong, x.wrong) || e != x.e {
			t.Errorf("%s: Wrong: %d, %v, %v, not %d, %v, %v", x.name, number, wrong, e, x.scale, x.wrong, x.e)
		}
	}
}

// Each limit of scales and entries, and one beyond it.
func TestEntries(t *testing.T) {
	hundred := []point.Scale{scale(0, 100)}
	many := func(n int) []point.Entry { return slices.Repeat([]point.Entry{entry(0, 0, 0)}, n) }
	for _, x := range []struct {
		name  string
		l     []point.Scale
		diary []point.Entry
		want  api.Errno
	}{
		{"as many entries as there may be", hundred, many(12), api.OK},
		{"one more", hundred, many(13), api.ErrLimit},
		{"as many scales as there may be", slices.Repeat(hundred, 8), many(1), api.OK},
		{"one more", slices.Repeat(hundred, 9), many(1), api.ErrLimit},
		{"a scale that is none, at last", append(slices.Repeat(hundred, 7), scale(1, 1)), many(1), api.ErrArg},
		{"the greatest Reads", hundred, append(many(1), entry(1000000, 0, 0)), api.OK},
		{"one beyond it", hundred, append(many(1), entry(1000001, 0, 0)), api.ErrRange},
		{"the least Reads", hundred, append(many(1), entry(-1000000, 0, 0)), api.OK},
		{"one below it", hundred, append(many(1), entry(-1000001, 0, 0)), api.ErrRange},
		{"the greatest Known", hundred, append(many(1), entry(0, -100000, 100000)), api.OK},
		{"one beyond it", hundred, append(many(1), entry(0, 0, 100001)), api.ErrRange},
		{"one below it", hundred, append(many(1), entry(0, -100001, 0)), api.ErrRange},
		{"a Known that is no range", hundred, append(many(1), entry(0, 1, 0)), api.ErrRange},
		{"far numbers", hundred, []point.Entry{entry(math.MinInt, math.MinInt, math.MaxInt)}, api.ErrRange},
		{"a far Known", hundred, []point.Entry{entry(0, math.MaxInt, math.MinInt)}, api.ErrRange},
	} {
		if _, e := point.Kinds(x.l, x.diary); e != x.want {
			t.Errorf("%s: Kinds: %v, not %v", x.name, e, x.want)
		}
		if _, _, e := point.Wrong(x.l, x.diary); e != x.want {
			t.Errorf("%s: Wrong: %v, not %v", x.name, e, x.want)
		}
	}
}
