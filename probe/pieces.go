package probe

import "slices"

// Cut is a list in pieces, cut at these places.
func Cut[T unit](l []T, at ...int) [][]T {
	var pieces [][]T
	from := 0
	for _, to := range at {
		pieces = append(pieces, l[from:to])
		from = to
	}
	return append(pieces, l[from:])
}

// RoomyPieces are pieces with spare room behind each, and behind the list of them; left tells whether all of it is as it was.
func RoomyPieces(pieces ...[]byte) (given [][]byte, left func() bool) {
	var wholes, were [][]byte
	for _, b := range pieces {
		part, whole := Roomy(b)
		given, wholes, were = append(given, part), append(wholes, whole), append(were, slices.Clone(whole))
	}
	count := len(pieces)
	list := append(given, []byte("spare"), []byte("room"))
	return list[:count], func() bool {
		return slices.EqualFunc(wholes, were, slices.Equal) &&
			slices.EqualFunc(list[:count], pieces, slices.Equal) &&
			string(list[count]) == "spare" && string(list[count+1]) == "room"
	}
}

// ScribblePieces writes over pieces, the spare room behind them and the list.
func ScribblePieces(pieces [][]byte, with byte) {
	for i, b := range pieces {
		Scribble(b, with)
		pieces[i] = nil
	}
}
