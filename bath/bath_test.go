package bath_test

import (
	"math"
	"slices"
	"testing"

	"meniscus/api"
	"meniscus/bath"
)

func to(lo, hi int) bath.Range { return bath.Range{Lo: lo, Hi: hi} }

func ranges(list ...bath.Range) []bath.Range { return list }

func read(instrument, value int) bath.Reading {
	return bath.Reading{Instrument: instrument, Value: value}
}

func in(heat bath.Range, reads ...bath.Reading) bath.Bath {
	return bath.Bath{Heat: heat, Reads: reads}
}

func place(bathNumber, number int) bath.Place { return bath.Place{Bath: bathNumber, Read: number} }

func dip(heat int, instruments ...int) bath.Dip {
	return bath.Dip{Heat: heat, Instruments: instruments}
}

func numbers(list ...int) []int { return list }

// example is the chapter's series, with some baths more.
func example(more ...bath.Bath) bath.Series {
	return bath.Series{
		Offsets: ranges(to(0, 0), to(-9, 9), to(-9, 9)),
		Error:   1,
		Baths: append([]bath.Bath{
			in(to(100, 300), read(0, 200), read(1, 203)),
			in(to(100, 300), read(1, 252), read(2, 250)),
		}, more...),
	}
}

// wrong is the bath that contradicts the chapter's series.
func wrong() bath.Bath { return in(to(100, 300), read(0, 150), read(2, 160)) }

// exampleWorks is the chapter's.
func exampleWorks(room int) bath.Works {
	return bath.Works{Ranges: ranges(to(0, 100), to(50, 200), to(150, 300), to(90, 160)), Room: room, Steps: 2}
}

// alike are so many instruments that can all be read at any heat.
func alike(many, room, steps int) bath.Works {
	return bath.Works{Ranges: slices.Repeat(ranges(to(0, 1000)), many), Room: room, Steps: steps}
}

// P5.1
func TestCheckSeries(t *testing.T) {
	many := func(b bath.Bath, n int) []bath.Bath { return slices.Repeat([]bath.Bath{b}, n) }
	for _, x := range []struct {
		name   string
		change func(s *bath.Series)
		want   api.Errno
	}{
		{"the example", func(s *bath.Series) {}, api.OK},
		{"no instrument", func(s *bath.Series) { s.Offsets, s.Baths = nil, nil }, api.ErrArg},
		{"one instrument, no bath", func(s *bath.Series) { s.Offsets, s.Baths = s.Offsets[:1], nil }, api.OK},
		{"as many instruments as there may be", func(s *bath.Series) { s.Offsets = slices.Repeat(s.Offsets, 2) }, api.OK},
		{"one more", func(s *bath.Series) { s.Offsets = make([]bath.Range, 7) }, api.ErrLimit},
		{"one more, and nothing right", func(s *bath.Series) { *s = bath.Series{Offsets: slices.Repeat(ranges(to(1, 0)), 7), Error: -1} }, api.ErrLimit},
		{"the widest offset", func(s *bath.Series) { s.Offsets[2] = to(-100, 100) }, api.OK},
		{"too low an offset", func(s *bath.Series) { s.Offsets[2] = to(-101, 9) }, api.ErrArg},
		{"too high an offset", func(s *bath.Series) { s.Offsets[0] = to(0, 101) }, api.ErrArg},
		{"an offset that is no range", func(s *bath.Series) { s.Offsets[1] = to(1, 0) }, api.ErrArg},
		{"no Error", func(s *bath.Series) { s.Error = 0 }, api.OK},
		{"the greatest Error", func(s *bath.Series) { s.Error = 20 }, api.OK},
		{"one more", func(s *bath.Series) { s.Error = 21 }, api.ErrArg},
		{"an Error below 0", func(s *bath.Series) { s.Error = -1 }, api.ErrArg},
		{"as many baths as there may be", func(s *bath.Series) { s.Baths = many(s.Baths[0], 6) }, api.OK},
		{"one more", func(s *bath.Series) { s.Baths = many(s.Baths[0], 7) }, api.ErrLimit},
		{"one more, and no instrument", func(s *bath.Series) { *s = bath.Series{Baths: many(in(to(1, 0)), 7)} }, api.ErrLimit},
		{"the widest heat", func(s *bath.Series) { s.Baths[1].Heat = to(0, 1000) }, api.OK},
		{"too low a heat", func(s *bath.Series) { s.Baths[1].Heat = to(-1, 1000) }, api.ErrArg},
		{"too high a heat", func(s *bath.Series) { s.Baths[0].Heat = to(0, 1001) }, api.ErrArg},
		{"a heat that is no range", func(s *bath.Series) { s.Baths[1].Heat = to(300, 299) }, api.ErrArg},
		{"a bath in which nothing is read", func(s *bath.Series) { s.Baths[1].Reads = nil }, api.OK},
		{"all instruments in one bath", func(s *bath.Series) { s.Baths[1].Reads = append(s.Baths[1].Reads, read(0, 250)) }, api.OK},
		{"one more", func(s *bath.Series) { s.Baths[1].Reads = append(s.Baths[1].Reads, read(0, 250), read(1, 252)) }, api.ErrArg},
		{"an instrument twice in a bath", func(s *bath.Series) { s.Baths[1].Reads[0] = read(2, 250) }, api.ErrArg},
		{"an instrument that there is not", func(s *bath.Series) { s.Baths[1].Reads[0].Instrument = 3 }, api.ErrArg},
		{"an instrument below 0", func(s *bath.Series) { s.Baths[0].Reads[0].Instrument = -1 }, api.ErrArg},
		{"the least Value", func(s *bath.Series) { s.Baths[0].Reads[0].Value = -1000 }, api.OK},
		{"one less", func(s *bath.Series) { s.Baths[0].Reads[0].Value = -1001 }, api.ErrArg},
		{"the greatest Value", func(s *bath.Series) { s.Baths[0].Reads[0].Value = 2000 }, api.OK},
		{"one more", func(s *bath.Series) { s.Baths[0].Reads[0].Value = 2001 }, api.ErrArg},
		{"far numbers", func(s *bath.Series) { s.Baths[0].Reads[0] = read(math.MinInt, math.MaxInt) }, api.ErrArg},
		{"far ends", func(s *bath.Series) { s.Baths[0].Heat = to(math.MinInt, math.MaxInt) }, api.ErrArg},
	} {
		s := example()
		x.change(&s)
		if e := bath.CheckSeries(s); e != x.want {
			t.Errorf("%s: %v, not %v", x.name, e, x.want)
		}
	}
}

// P5.1
func TestProveTruth(t *testing.T) {
	for _, x := range []struct {
		name           string
		s              bath.Series
		offsets, heats []int
		want           bool
	}{
		{"a truth", example(), numbers(0, 3, 1), numbers(200, 249), true},
		{"at the ends", example(), numbers(0, 1, -3), numbers(201, 252), true},
		{"at the other ends", example(), numbers(0, 5, 5), numbers(199, 246), true},
		{"a reading is 2 too much", example(), numbers(0, 2, 1), numbers(199, 249), false},
		{"a reading is 2 too little", example(), numbers(0, 3, 3), numbers(200, 249), false},
		{"an offset out of its range", example(), numbers(1, 3, 1), numbers(200, 249), false},
		{"an offset below its range", bath.Series{Offsets: ranges(to(2, 3))}, numbers(1), nil, false},
		{"a heat below its range", example(in(to(100, 300))), numbers(0, 3, 1), numbers(200, 249, 99), false},
		{"a heat above its range", example(in(to(100, 300))), numbers(0, 3, 1), numbers(200, 249, 301), false},
		{"at its end", example(in(to(100, 300))), numbers(0, 3, 1), numbers(200, 249, 300), true},
		{"an offset is missing", example(), numbers(0, 3), numbers(200, 249), false},
		{"an offset too many", example(), numbers(0, 3, 1, 0), numbers(200, 249), false},
		{"a heat is missing", example(), numbers(0, 3, 1), numbers(200), false},
		{"a heat too many", example(), numbers(0, 3, 1), numbers(200, 249, 100), false},
		{"nothing", example(), nil, nil, false},
		{"no baths", bath.Series{Offsets: ranges(to(2, 3))}, numbers(3), nil, true},
		{"far numbers", example(), numbers(math.MinInt, 3, 1), numbers(200, math.MaxInt), false},
		{"no series", bath.Series{}, nil, nil, false},
		{"too many instruments", bath.Series{Offsets: make([]bath.Range, 7)}, make([]int, 7), nil, false},
		{"too many baths", bath.Series{Offsets: ranges(to(0, 0)), Baths: make([]bath.Bath, 7)}, numbers(0), make([]int, 7), false},
		{"an Error below 0", bath.Series{Offsets: ranges(to(0, 0)), Error: -1}, numbers(0), nil, false},
		{"it contradicts itself", example(wrong()), numbers(0, 3, 1), numbers(200, 249, 150), false},
	} {
		if got := bath.ProveTruth(x.s, x.offsets, x.heats); got != x.want {
			t.Errorf("%s: %v", x.name, got)
		}
	}
}

// P5.2: the chapter's example, and others that were worked out by hand.
func TestOffsetsAndHeats(t *testing.T) {
	one := bath.Series{Offsets: ranges(to(-9, 9)), Error: 2, Baths: []bath.Bath{in(to(100, 110), read(0, 115))}}
	for _, x := range []struct {
		name           string
		s              bath.Series
		offsets, heats []bath.Range
		e              api.Errno
	}{
		{"the example", example(), ranges(to(0, 0), to(1, 5), to(-3, 5)), ranges(to(199, 201), to(246, 252)), api.OK},
		{"no baths", bath.Series{Offsets: ranges(to(-9, 9), to(3, 4))}, ranges(to(-9, 9), to(3, 4)), nil, api.OK},
		{"nothing was read", bath.Series{Offsets: ranges(to(-9, 9)), Baths: []bath.Bath{in(to(7, 8))}}, ranges(to(-9, 9)), ranges(to(7, 8)), api.OK},
		{"a heat narrows an offset, and it the heat", one, ranges(to(3, 9)), ranges(to(104, 110)), api.OK},
		{"no error", bath.Series{Offsets: ranges(to(2, 2)), Baths: []bath.Bath{in(to(0, 1000), read(0, 0)), in(to(0, 1000), read(0, 1002))}}, nil, nil, api.ErrFail},
		{"as low and as high as heats are", bath.Series{Offsets: ranges(to(2, 2)), Baths: []bath.Bath{in(to(0, 1000), read(0, 2)), in(to(0, 1000), read(0, 1002))}}, ranges(to(2, 2)), ranges(to(0, 0), to(1000, 1000)), api.OK},
		{"as far as offsets and errors go", bath.Series{Offsets: ranges(to(-100, 100)), Error: 20, Baths: []bath.Bath{in(to(0, 1000), read(0, -120)), in(to(0, 1000), read(0, 880))}}, ranges(to(-100, -100)), ranges(to(0, 0), to(960, 1000)), api.OK},
		{"one beyond", bath.Series{Offsets: ranges(to(-100, 100)), Error: 20, Baths: []bath.Bath{in(to(0, 1000), read(0, -121))}}, nil, nil, api.ErrFail},
		{"one beyond, above", bath.Series{Offsets: ranges(to(-100, 100)), Error: 20, Baths: []bath.Bath{in(to(0, 1000), read(0, 1121))}}, nil, nil, api.ErrFail},
		{"it contradicts itself", example(wrong()), nil, nil, api.ErrFail},
		{"no series", bath.Series{}, nil, nil, api.ErrArg},
	} {
		offsets, e := bath.Offsets(x.s)
		heats, f := bath.Heats(x.s)
		if !slices.Equal(offsets, x.offsets) || !slices.Equal(heats, x.heats) || e != x.e || f != x.e {
			t.Errorf("%s: %v, %v; %v, %v", x.name, offsets, e, heats, f)
		}
	}
}

// P5.3: the chapter's examples, and others that were worked out by hand.
func TestDifference(t *testing.T) {
	apart := bath.Series{Offsets: ranges(to(-100, 100), to(-100, 100)), Error: 1, Baths: []bath.Bath{in(to(0, 1000), read(0, 500), read(1, 570))}}
	for _, x := range []struct {
		name          string
		s             bath.Series
		first, second int
		want          bath.Range
		e             api.Errno
	}{
		{"2 and 1", example(), 2, 1, to(-4, 0), api.OK},
		{"1 and 2", example(), 1, 2, to(0, 4), api.OK},
		{"2 and 0", example(), 2, 0, to(-3, 5), api.OK},
		{"one and itself", example(), 2, 2, to(0, 0), api.OK},
		{"closer than their offsets tell", apart, 1, 0, to(68, 72), api.OK},
		{"as far apart as can be", bath.Series{Offsets: ranges(to(-100, 100), to(-100, 100))}, 0, 1, to(-200, 200), api.OK},
		{"one that there is not", example(), 3, 0, to(0, 0), api.ErrRange},
		{"a second one that there is not", example(), 0, 3, to(0, 0), api.ErrRange},
		{"one below 0", example(), -1, 0, to(0, 0), api.ErrRange},
		{"a second one below 0", example(), 0, -1, to(0, 0), api.ErrRange},
		{"far numbers", example(), math.MinInt, math.MaxInt, to(0, 0), api.ErrRange},
		{"it contradicts itself", example(wrong()), 0, 1, to(0, 0), api.ErrFail},
		{"it contradicts itself, and there is no such one", example(wrong()), 0, 3, to(0, 0), api.ErrRange},
	} {
		if got, e := bath.Difference(x.s, x.first, x.second); got != x.want || e != x.e {
			t.Errorf("%s: %v, %v, not %v, %v", x.name, got, e, x.want, x.e)
		}
	}
}

// P5.4: the chapter's example, and others that were worked out by hand.
func TestBlame(t *testing.T) {
	fixed := func(baths ...bath.Bath) bath.Series {
		return bath.Series{Offsets: ranges(to(0, 0), to(0, 0), to(0, 0)), Baths: baths}
	}
	wide := to(0, 1000)
	for _, x := range []struct {
		name   string
		s      bath.Series
		fewest []bath.Place
		alone  []int
		e      api.Errno
	}{
		{"the example", example(wrong()), []bath.Place{place(0, 0)}, numbers(0, 1, 2), api.OK},
		{"it does not contradict itself", example(), nil, nil, api.OK},
		{"no baths", fixed(), nil, nil, api.OK},
		{"one reading out of all heats", fixed(in(to(3, 4), read(1, 5))), []bath.Place{place(0, 0)}, numbers(1), api.OK},
		{"the last of three is wrong", fixed(in(wide, read(0, 5), read(1, 5), read(2, 6))), []bath.Place{place(0, 2)}, numbers(2), api.OK},
		{"the first of three is wrong", fixed(in(wide, read(0, 6), read(1, 5), read(2, 5))), []bath.Place{place(0, 0)}, numbers(0), api.OK},
		{"the middle one of three is wrong", fixed(in(wide, read(2, 5), read(0, 6), read(1, 5))), []bath.Place{place(0, 1)}, numbers(0), api.OK},
		{"all three differ", fixed(in(wide, read(0, 4), read(1, 5), read(2, 6))), []bath.Place{place(0, 0), place(0, 1)}, nil, api.OK},
		{"one of two", fixed(in(wide, read(2, 4), read(1, 5))), []bath.Place{place(0, 0)}, numbers(1, 2), api.OK},
		{"a list of two that begins with the lesser place", fixed(in(wide, read(0, 4), read(1, 5)), in(wide, read(0, 4), read(1, 5))), []bath.Place{place(0, 0), place(1, 0)}, numbers(0, 1), api.OK},
		{"an instrument that is wrong again and again", fixed(in(wide, read(0, 4), read(1, 5), read(2, 5)), in(wide, read(2, 6), read(1, 6), read(0, 4))), []bath.Place{place(0, 0), place(1, 2)}, numbers(0), api.OK},
		{"two instruments that are wrong", fixed(in(wide, read(0, 4), read(1, 5), read(2, 5)), in(wide, read(2, 7), read(1, 6), read(0, 6))), []bath.Place{place(0, 0), place(1, 0)}, nil, api.OK},
		{"no reading can be right", fixed(in(to(0, 0), read(2, 9), read(1, 9)), in(to(0, 0), read(0, 9))), []bath.Place{place(0, 0), place(0, 1), place(1, 0)}, nil, api.OK},
		{"no series", bath.Series{}, nil, nil, api.ErrArg},
	} {
		fewest, alone, e := bath.Blame(x.s)
		if !slices.Equal(fewest, x.fewest) || !slices.Equal(alone, x.alone) || e != x.e {
			t.Errorf("%s: %v, %v, %v", x.name, fewest, alone, e)
		}
	}
}

// P5.5
func TestCheckWorks(t *testing.T) {
	for _, x := range []struct {
		name   string
		change func(w *bath.Works)
		want   api.Errno
	}{
		{"the example", func(w *bath.Works) {}, api.OK},
		{"no instrument", func(w *bath.Works) { w.Ranges = nil }, api.ErrArg},
		{"one instrument", func(w *bath.Works) { w.Ranges = w.Ranges[:1] }, api.OK},
		{"as many instruments as there may be", func(w *bath.Works) { *w = alike(6, 6, 4) }, api.OK},
		{"one more", func(w *bath.Works) { *w = alike(7, 6, 4) }, api.ErrLimit},
		{"one more, and nothing right", func(w *bath.Works) { *w = bath.Works{Ranges: slices.Repeat(ranges(to(1, 0)), 7)} }, api.ErrLimit},
		{"the widest range", func(w *bath.Works) { w.Ranges[3] = to(0, 1000) }, api.OK},
		{"too low a range", func(w *bath.Works) { w.Ranges[3] = to(-1, 1000) }, api.ErrArg},
		{"too high a range", func(w *bath.Works) { w.Ranges[0] = to(0, 1001) }, api.ErrArg},
		{"what is no range", func(w *bath.Works) { w.Ranges[1] = to(5, 4) }, api.ErrArg},
		{"the least Room", func(w *bath.Works) { w.Room = 2 }, api.OK},
		{"one less", func(w *bath.Works) { w.Room = 1 }, api.ErrArg},
		{"the greatest Room", func(w *bath.Works) { w.Room = 6 }, api.OK},
		{"one more", func(w *bath.Works) { w.Room = 7 }, api.ErrArg},
		{"the least Steps", func(w *bath.Works) { w.Steps = 1 }, api.OK},
		{"one less", func(w *bath.Works) { w.Steps = 0 }, api.ErrArg},
		{"the greatest Steps", func(w *bath.Works) { w.Steps = 4 }, api.OK},
		{"one more", func(w *bath.Works) { w.Steps = 5 }, api.ErrArg},
		{"far numbers", func(w *bath.Works) { *w = bath.Works{Ranges: ranges(to(math.MinInt, math.MaxInt)), Room: 2, Steps: 1} }, api.ErrArg},
	} {
		w := exampleWorks(2)
		x.change(&w)
		if e := bath.CheckWorks(w); e != x.want {
			t.Errorf("%s: %v, not %v", x.name, e, x.want)
		}
	}
}

// P5.5, and P5.6 (ProvePlan) for as many dips as the plan has, and one less.
func TestKnown(t *testing.T) {
	const none = bath.None
	chain := func(n int) []bath.Dip {
		var plan []bath.Dip
		for i := n - 1; i > 0; i-- {
			plan = append(plan, dip(i, i-1, i))
		}
		return plan
	}
	for _, x := range []struct {
		name string
		w    bath.Works
		plan []bath.Dip
		want []int
		e    api.Errno
	}{
		{"the chapter's plan", exampleWorks(2), []bath.Dip{dip(100, 0, 1), dip(90, 0, 3), dip(200, 1, 2)}, numbers(0, 1, 2, 1), api.OK},
		{"with Room 3", exampleWorks(3), []bath.Dip{dip(90, 0, 1, 3), dip(160, 2, 3)}, numbers(0, 1, 2, 1), api.OK},
		{"no dips", exampleWorks(2), nil, numbers(0, none, none, none), api.OK},
		{"dips that do not lead from the standard", exampleWorks(3), []bath.Dip{dip(150, 1, 2, 3)}, numbers(0, none, none, none), api.OK},
		{"one that dips do not lead to", exampleWorks(2), []bath.Dip{dip(90, 0, 3)}, numbers(0, none, none, 1), api.OK},
		{"the dip that comes next is ahead", alike(6, 2, 4), chain(6), numbers(0, 1, 2, 3, 4, 5), api.OK},
		{"a shorter way beside a longer one", alike(4, 2, 4), append(chain(4), dip(0, 0, 3)), numbers(0, 1, 2, 1), api.OK},
		{"a dip twice", alike(2, 2, 1), []bath.Dip{dip(0, 0, 1), dip(0, 0, 1)}, numbers(0, 1), api.OK},
		{"the standard alone", alike(1, 2, 1), nil, numbers(0), api.OK},
		{"as many as there is Room for", alike(6, 6, 1), []bath.Dip{dip(0, 0, 1, 2, 3, 4, 5)}, numbers(0, 1, 1, 1, 1, 1), api.OK},
		{"one more", alike(6, 5, 1), []bath.Dip{dip(0, 0, 1, 2, 3, 4, 5)}, nil, api.ErrRange},
		{"one instrument", alike(6, 6, 1), []bath.Dip{dip(0, 0)}, nil, api.ErrRange},
		{"none", alike(6, 6, 1), []bath.Dip{dip(0)}, nil, api.ErrRange},
		{"one comes twice", alike(6, 6, 1), []bath.Dip{dip(0, 0, 1, 1)}, nil, api.ErrRange},
		{"a list that falls", alike(6, 6, 1), []bath.Dip{dip(0, 1, 0)}, nil, api.ErrRange},
		{"one that there is not", alike(6, 6, 1), []bath.Dip{dip(0, 0, 6)}, nil, api.ErrRange},
		{"one below 0", alike(6, 6, 1), []bath.Dip{dip(0, -1, 0)}, nil, api.ErrRange},
		{"far numbers", alike(6, 6, 1), []bath.Dip{dip(0, math.MinInt, math.MaxInt)}, nil, api.ErrRange},
		{"too low a heat for one", exampleWorks(2), []bath.Dip{dip(49, 0, 1)}, nil, api.ErrRange},
		{"too high a heat for one", exampleWorks(2), []bath.Dip{dip(100, 0, 1), dip(101, 0, 3)}, nil, api.ErrRange},
		{"no heat", alike(6, 6, 1), []bath.Dip{dip(-1, 0, 1)}, nil, api.ErrRange},
		{"no works", bath.Works{}, []bath.Dip{dip(-1)}, nil, api.ErrArg},
	} {
		got, e := bath.Known(x.w, x.plan)
		if !slices.Equal(got, x.want) || e != x.e {
			t.Errorf("%s: %v, %v, not %v, %v", x.name, got, e, x.want, x.e)
		}
		right := x.e == api.OK && slices.Max(x.want) <= x.w.Steps && !slices.Contains(x.want, none)
		if is := bath.ProvePlan(x.w, x.plan, len(x.plan)); is != right {
			t.Errorf("%s: the plan is right: %v", x.name, is)
		}
		if bath.ProvePlan(x.w, x.plan, len(x.plan)-1) {
			t.Errorf("%s: the plan has fewer dips than it has", x.name)
		}
		if is := bath.ProvePlan(x.w, x.plan, math.MaxInt); is != right {
			t.Errorf("%s: the plan of at most very many dips is right: %v", x.name, is)
		}
	}
}

// P5.6: the chapter's examples, and others that were worked out by hand.
func TestPlan(t *testing.T) {
	row := bath.Works{Ranges: ranges(to(0, 10), to(10, 20), to(20, 30), to(30, 40), to(40, 50)), Room: 6, Steps: 4}
	tooFar := row
	tooFar.Steps = 3
	for _, x := range []struct {
		name string
		w    bath.Works
		many int
		e    api.Errno
	}{
		{"the example with Room 2", exampleWorks(2), 3, api.OK},
		{"the example with Room 3", exampleWorks(3), 2, api.OK},
		{"the example with Room 6", exampleWorks(6), 2, api.OK},
		{"the standard alone", alike(1, 2, 1), 0, api.OK},
		{"two", alike(2, 2, 1), 1, api.OK},
		{"all in one dip", alike(6, 6, 1), 1, api.OK},
		{"all but one in a dip", alike(6, 5, 1), 2, api.OK},
		{"by twos", alike(6, 2, 1), 5, api.OK},
		{"by threes", alike(6, 3, 4), 3, api.OK},
		{"in a row", row, 4, api.OK},
		{"in a row that is too long", tooFar, 0, api.ErrFail},
		{"no heat is the same", bath.Works{Ranges: ranges(to(0, 10), to(11, 20)), Room: 2, Steps: 4}, 0, api.ErrFail},
		{"one that stands aside", bath.Works{Ranges: ranges(to(0, 10), to(5, 20), to(30, 40)), Room: 6, Steps: 4}, 0, api.ErrFail},
		{"one heat is the same", bath.Works{Ranges: ranges(to(0, 1000), to(1000, 1000)), Room: 2, Steps: 1}, 1, api.OK},
		{"no works", bath.Works{}, 0, api.ErrArg},
		{"too many instruments", alike(7, 2, 1), 0, api.ErrLimit},
	} {
		plan, e := bath.Plan(x.w)
		if len(plan) != x.many || e != x.e || e == api.OK && !bath.ProvePlan(x.w, plan, x.many) {
			t.Errorf("%s: %v, %v, not %d dips, %v", x.name, plan, e, x.many, x.e)
		}
	}
}

// P5.6
func TestProvePlan(t *testing.T) {
	plan := []bath.Dip{dip(90, 0, 1, 3), dip(150, 1, 2)}
	tooFar := exampleWorks(3)
	tooFar.Steps = 1
	for _, x := range []struct {
		name string
		w    bath.Works
		plan []bath.Dip
		many int
		want bool
	}{
		{"a right plan", exampleWorks(3), plan, 2, true},
		{"of more dips than it may have", exampleWorks(3), plan, 1, false},
		{"of fewer than none", alike(1, 2, 1), nil, -1, false},
		{"of none", alike(1, 2, 1), nil, 0, true},
		{"not all are known", exampleWorks(3), plan[:1], 2, false},
		{"not by so few steps", tooFar, plan, 2, false},
		{"no Room for one of its dips", exampleWorks(2), plan, 2, false},
		{"a dip that is none", exampleWorks(3), append(plan, dip(90, 0)), 3, false},
		{"a works that is none", bath.Works{Ranges: ranges(to(0, 0)), Room: 2, Steps: 0}, nil, 0, false},
		{"too many instruments", alike(7, 6, 4), []bath.Dip{dip(0, 0, 1, 2, 3, 4, 5), dip(0, 0, 6)}, 2, false},
		{"a far Room", alike(2, math.MaxInt, 1), []bath.Dip{dip(0, 0, 1)}, 1, false},
	} {
		if got := bath.ProvePlan(x.w, x.plan, x.many); got != x.want {
			t.Errorf("%s: %v", x.name, got)
		}
	}
}
