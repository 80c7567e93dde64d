package lang

import (
	"iter"
	"slices"

	"masthead/api"
)

// checkPieces says whether a message is one, however long it is when it is written.
func checkPieces(m Message) api.Errno {
	switch {
	case anyNested(m, func(n nested) bool { return !isFormed(n) }):
		return api.ErrForm
	case anyNested(m, func(n nested) bool { return slices.ContainsFunc(n.pieces, hasWrongText) }):
		return api.ErrByte
	case anyNested(m, func(n nested) bool { return slices.ContainsFunc(n.pieces, hasWayTwice) }):
		return api.ErrTwice
	case anyNested(m, func(n nested) bool { return n.depth > api.MaxDeep }):
		return api.ErrDeep
	case countPieces(m) > MaxPieces:
		return api.ErrLarge
	}
	return api.OK
}

// nested is a whole message, or one that is in it.
type nested struct {
	pieces  []Piece
	depth   int
	counted bool // within a Count
}

// messages goes through a message and all that are in it. They can be nested deeper than calls can be: what is left is kept in a list.
func messages(m Message) iter.Seq[nested] {
	return func(yield func(nested) bool) {
		for left := []nested{{pieces: m.Pieces, depth: 1}}; len(left) > 0; {
			last := left[len(left)-1]
			left = left[:len(left)-1]
			if !yield(last) {
				return
			}
			for _, p := range last.pieces {
				for _, w := range p.Ways {
					left = append(left, nested{pieces: w.Pieces, depth: last.depth + 1, counted: last.counted || p.Kind == Count})
				}
			}
		}
	}
}

func anyNested(m Message, is func(n nested) bool) bool {
	for n := range messages(m) {
		if is(n) {
			return true
		}
	}
	return false
}

func countPieces(m Message) int {
	n := 0
	for inner := range messages(m) {
		n += len(inner.pieces)
	}
	return n
}

// isFormed says whether all pieces of a message are of their Kinds, but not those in them.
func isFormed(n nested) bool {
	for i, p := range n.pieces {
		if !fitsKind(p) || p.Kind == Hash && !n.counted {
			return false
		}
		if i > 0 && p.Kind == Plain && n.pieces[i-1].Kind == Plain {
			return false
		}
	}
	return true
}

// fitsKind says whether a piece has what its Kind uses, and nothing else.
func fitsKind(p Piece) bool {
	switch p.Kind {
	case Plain:
		return p.Text != "" && len(p.Ways) == 0
	case Insert:
		return isKey(p.Text) && len(p.Ways) == 0
	case Hash:
		return p.Text == "" && len(p.Ways) == 0
	case Choose:
		return isKey(p.Text) && len(p.Ways) > 1 && waysFit(p, isChooseWay)
	case Count:
		return isKey(p.Text) && waysFit(p, isCountWay)
	}
	return false
}

// waysFit says whether all ways of a piece are right, and just the last one is for all others.
func waysFit(p Piece, right func(w Way) bool) bool {
	last := len(p.Ways) - 1
	for i, w := range p.Ways {
		if !right(w) || isOther(p.Kind, w) != (i == last) {
			return false
		}
	}
	return last >= 0
}

func isChooseWay(w Way) bool {
	return (w.Word == "" || isWord(w.Word)) && w.Exact == 0 && w.Form == 0
}

func isCountWay(w Way) bool {
	return w.Word == "" && w.Form >= -1 && w.Form <= otherForm && (w.Form == -1 || w.Exact == 0)
}

func hasWrongText(p Piece) bool {
	for i := range len(p.Text) {
		if isControl(p.Text[i]) {
			return true
		}
	}
	return false
}

// hasWayTwice says whether two ways of a piece are for the same.
func hasWayTwice(p Piece) bool {
	there := map[head]bool{}
	for _, w := range p.Ways {
		if there[headOf(w)] {
			return true
		}
		there[headOf(w)] = true
	}
	return false
}
