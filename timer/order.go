package timer

// entry is one that is set. The heap moves it about, and so it knows its place.
type entry struct{ name, tick, place int }

// order is a heap of those that are set, the one that is due first ahead. Its methods are what container/heap asks for.
type order []*entry

func (o order) Len() int { return len(o) }

func (o order) Less(i, j int) bool {
	if o[i].tick != o[j].tick {
		return o[i].tick < o[j].tick
	}
	return o[i].name < o[j].name
}

func (o order) Swap(i, j int) {
	o[i], o[j] = o[j], o[i]
	o[i].place, o[j].place = i, j
}

// Push is handed entries alone.
func (o *order) Push(x any) {
	e := x.(*entry)
	e.place = len(*o)
	*o = append(*o, e)
}

// Pop answers the last one. Its room serves again, and so is cleared: it would hold on to the entry.
func (o *order) Pop() any {
	last := len(*o) - 1
	e := (*o)[last]
	(*o)[last] = nil
	*o = (*o)[:last]
	return e
}
