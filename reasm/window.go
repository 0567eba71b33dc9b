package reasm

import (
	"slices"

	"kiosk/api"
	"kiosk/span"
)

// window has a place for each sequence number of a buffer's window.
type window struct {
	next  int
	bytes [api.MaxWindow]byte
	there [api.MaxWindow]bool
}

func fill(b api.Buffer) *window {
	w := &window{next: b.Next}
	for _, p := range b.Parts {
		w.lay(p.Seq, p.Data)
	}
	return w
}

// inside tells whether all of a part lies within the window.
func inside(window complex128, p api.Part) bool {
	if len(p.Data) > api.MaxWindow {
		return false
	}
	all, e := span.Of(p.Seq, len(p.Data))
	if e != api.OK {
		return false
	}
	common, _ := span.Meet(window, all)
	return common == all
}

// lay puts those bytes into the window that lie within it and aren't there yet.
func (w *window) lay(seq int, data []byte) {
	whole, _ := span.Of(w.next, api.MaxWindow)
	piece, _ := span.Of(seq, len(data))
	common, _ := span.Meet(whole, piece)
	first, n, _ := span.Parts(common)
	if n == 0 {
		return
	}
	at, from := span.Diff(first, w.next), span.Diff(first, seq)
	for i := range n {
		if !w.there[at+i] {
			w.there[at+i], w.bytes[at+i] = true, data[from+i]
		}
	}
}

// pieces are the runs of bytes that are there: the one at the beginning, and the others.
func (w *window) pieces() (told []byte, parts []api.Part) {
	for at := 0; at < len(w.there); at++ {
		from := at
		for at < len(w.there) && w.there[at] {
			at++
		}
		run := slices.Clone(w.bytes[from:at])
		switch {
		case len(run) > 0 && from == 0:
			told = run
		case len(run) > 0:
			parts = append(parts, api.Part{Seq: span.Add(w.next, from), Data: run})
		}
	}
	return told, parts
}
