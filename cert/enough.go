package cert

import (
	"meniscus/api"
	"meniscus/bore"
)

// picked tells which readings are believed.
type picked struct {
	believed [api.MaxBoreReadings]bool
}

func (p picked) but(number int) picked {
	p.believed[number] = false
	return p
}

func (p picked) numbers() []int {
	var list []int
	for number, is := range p.believed {
		if is {
			list = append(list, number)
		}
	}
	return list
}

func (p picked) of(l []bore.Reading) []bore.Reading {
	var list []bore.Reading
	for _, number := range p.numbers() {
		list = append(list, l[number])
	}
	return list
}

// judged is a use that is kept on a day by all readings, and keeps what was found
// out about fewer of them.
type judged struct {
	asked
	day  int
	kept map[picked]bool
}

func (j judged) all() picked {
	var p picked
	for number := range j.Readings {
		p.believed[number] = true
	}
	return p
}

// with has these readings alone. Fewer readings than those that do not
// contradict each other do not, either, so there is no error.
func (j judged) with(p picked) asked {
	fewer := j.Instrument
	fewer.Readings = p.of(j.Readings)
	r, _ := read(fewer)
	return asked{readInstrument: r, Use: j.Use}
}

func (j judged) areEnough(p picked) bool {
	kept, known := j.kept[p]
	if !known {
		kept = j.with(p).isKept(j.day)
		j.kept[p] = kept
	}
	return kept
}

// hangsOn are the numbers of the readings on which the use hangs.
func (j judged) hangsOn() []int {
	var list []int
	for number := range j.Readings {
		if !j.areEnough(j.all().but(number)) {
			list = append(list, number)
		}
	}
	return list
}

// enough asks first for the lists with each reading, so that of the lists of one
// length the least one is found first; and it turns back as soon as those that
// are left are not enough, as fewer of them are not, either.
func (j judged) enough() []int {
	var shortest picked
	var search func(p picked, number, many int) bool
	search = func(p picked, number, many int) bool {
		if !j.areEnough(p) {
			return false
		}
		if number == len(j.Readings) {
			shortest = p
			return many == 0
		}
		return many > 0 && search(p, number+1, many-1) || search(p.but(number), number+1, many)
	}
lengths:
	for many := range len(j.Readings) + 1 {
		if search(j.all(), 0, many) {
			break lengths
		}
	}
	return shortest.numbers()
}
