package point

import "meniscus/api"

// readOn is an entry, read on a scale.
type readOn struct {
	scale Scale
	entry Entry
}

// explained reports whether the scale explains the entry. As what is known ends
// at whole thousandths, both ends of what the reading allows may be taken inward
// to whole ones before they are compared, even if they pass each other then.
func (r readOn) explained() bool {
	u := r.scale.upright()
	h := u.halves(Range{Lo: r.entry.Reads, Hi: r.entry.Reads})
	within := inward().of(u.height(whole*h.Lo), u.height(whole*h.Hi))
	return within.Lo <= r.entry.Known.Hi && r.entry.Known.Lo <= within.Hi
}

// judged keeps what was found out, as scales and entries can come several times.
type judged map[readOn]bool

func (j judged) explains(s Scale, e Entry) bool {
	r := readOn{scale: s, entry: e}
	explained, known := j[r]
	if !known {
		explained = r.explained()
		j[r] = explained
	}
	return explained
}

// wrong are the numbers of the entries that the scale does not explain.
func (j judged) wrong(s Scale, diary []Entry) []int {
	var numbers []int
	for number, e := range diary {
		if !j.explains(s, e) {
			numbers = append(numbers, number)
		}
	}
	return numbers
}

// explaining are the numbers of the scales that explain the whole diary.
func explaining(l []Scale, diary []Entry) []int {
	var numbers []int
	j := judged{}
search:
	for number, s := range l {
		for _, e := range diary {
			if !j.explains(s, e) {
				continue search
			}
		}
		numbers = append(numbers, number)
	}
	return numbers
}

// leastWrong is the first scale of those that leave the fewest entries
// unexplained, and these entries.
func leastWrong(l []Scale, diary []Entry) (scale int, entries []int) {
	var counts [api.MaxPointScales]int
	j := judged{}
	for number, s := range l {
		counts[number] = len(j.wrong(s, diary))
	}
	for number := range l {
		if counts[number] < counts[scale] {
			scale = number
		}
	}
	return scale, j.wrong(l[scale], diary)
}
