package bore

// contradict reports whether the readings with these numbers do.
func contradict(t Tube, l []Reading, numbers []int) bool {
	picked := make([]Reading, 0, len(numbers))
	for _, number := range numbers {
		picked = append(picked, l[number])
	}
	_, ok := read(t, picked)
	return !ok
}

// knotOf leaves out of a list of readings that contradict each other what it
// can do without.
func knotOf(t Tube, l []Reading, numbers []int) []int {
search:
	for {
		for at := range numbers {
			if fewer := without(numbers, at); contradict(t, l, fewer) {
				numbers = fewer
				continue search
			}
		}
		break search
	}
	return numbers
}

// fewest asks of each reading first whether it is blamed, so that of the lists
// of one length the least one is found first; and it turns back as soon as
// those that are believed contradict each other.
func fewest(t Tube, l []Reading) []int {
	var blamed []int
	var search func(b readTube, number, left int) bool
	search = func(b readTube, number, left int) bool {
		if number == len(l) {
			return left == 0
		}
		if left > 0 {
			blamed = append(blamed, number)
			if search(b, number+1, left-1) {
				return true
			}
			blamed = blamed[:len(blamed)-1]
		}
		more, ok := b.with(l[number])
		return ok && search(more, number+1, left)
	}
	many := 0
	for !search(unread(t), 0, many) {
		many++
	}
	return blamed
}
