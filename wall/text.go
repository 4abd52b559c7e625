package wall

import (
	"strconv"
	"strings"

	"crux/api"
	"crux/exact"
	"crux/space"
)

// Print returns the text of a wall.
func Print(w Wall) (string, api.Errno) {
	if e := CheckWall(w); e != api.OK {
		return "", e
	}
	var text strings.Builder
	line := func(words ...string) {
		text.WriteString(strings.Join(words, " ") + "\n")
	}
	line("wall", w.Name)
	for _, p := range w.Panels {
		line("panel", printPlaces(p.Corners...))
		line("grid", printPlaces(p.Origin, p.U, p.V))
	}
	for _, e := range w.Frame {
		line("frame", printPlaces(e.A, e.B))
	}
	for _, h := range w.Holds {
		line("hold", h.Name, strconv.Itoa(h.Panel), strconv.Itoa(h.I), strconv.Itoa(h.J))
	}
	if text.Len() > api.MaxText {
		return "", api.ErrLong
	}
	return text.String(), api.OK
}

func printPlaces(l ...api.Place) string {
	var words []string
	for _, a := range l {
		words = append(words, strconv.Itoa(a.X)+","+strconv.Itoa(a.Y)+","+strconv.Itoa(a.Z))
	}
	return strings.Join(words, " ")
}

// Parse returns the wall with a text, or the line of the first error.
func Parse(s string) (Wall, int, api.Errno) {
	switch {
	case len(s) > api.MaxText:
		return Wall{}, 0, api.ErrLong
	case !strings.HasSuffix(s, "\n"):
		return Wall{}, 0, api.ErrTorn
	}
	lines := strings.Split(strings.TrimSuffix(s, "\n"), "\n")
	r := reader{}
	for i, line := range lines {
		if !r.line(line) {
			return Wall{}, i + 1, api.ErrSyntax
		}
	}
	if r.last == "panel" {
		return Wall{}, len(lines) + 1, api.ErrSyntax
	}
	if e := CheckWall(r.wall); e != api.OK {
		return Wall{}, 0, e
	}
	return r.wall, 0, api.OK
}

// reader is a wall whose text has been read up to a line that begins with the word last.
type reader struct {
	wall Wall
	last string
}

// line reads a line, and reports whether it has the form of a line there.
func (r *reader) line(line string) bool {
	words := strings.Split(line, " ")
	word, rest := words[0], words[1:]
	if !mayFollow(r.last, word) {
		return false
	}
	r.last = word
	readers := map[string]func(words []string) bool{"wall": r.name, "panel": r.panel, "grid": r.grid, "frame": r.frame, "hold": r.hold}
	return readers[word](rest)
}

// mayFollow reports whether a line that begins with a word may stand behind one that begins with the word last, or first if this is empty.
func mayFollow(last, word string) bool {
	switch word {
	case "wall":
		return last == ""
	case "panel":
		return last == "wall" || last == "grid"
	case "grid":
		return last == "panel"
	case "frame":
		return last == "wall" || last == "grid" || last == "frame"
	case "hold":
		return last != "" && last != "panel"
	}
	return false
}

func (r *reader) name(words []string) bool {
	if len(words) != 1 || words[0] == "" {
		return false
	}
	r.wall.Name = words[0]
	return true
}

func (r *reader) panel(words []string) bool {
	corners, ok := readPlaces(words)
	r.wall.Panels = append(r.wall.Panels, Panel{Corners: corners})
	return ok
}

func (r *reader) grid(words []string) bool {
	l, ok := readPlaces(words)
	if !ok || len(l) != 3 {
		return false
	}
	p := &r.wall.Panels[len(r.wall.Panels)-1]
	p.Origin, p.U, p.V = l[0], l[1], l[2]
	return true
}

func (r *reader) frame(words []string) bool {
	l, ok := readPlaces(words)
	if !ok || len(l) != 2 {
		return false
	}
	r.wall.Frame = append(r.wall.Frame, Edge{A: l[0], B: l[1]})
	return true
}

func (r *reader) hold(words []string) bool {
	if len(words) != 4 || words[0] == "" {
		return false
	}
	l, ok := readIntegers(words[1:])
	if !ok {
		return false
	}
	r.wall.Holds = append(r.wall.Holds, Hold{Name: words[0], Panel: l[0], I: l[1], J: l[2]})
	return true
}

func readPlaces(words []string) ([]api.Place, bool) {
	var places []api.Place
	for _, word := range words {
		l, ok := readIntegers(strings.Split(word, ","))
		if !ok || len(l) != space.Axes {
			return nil, false
		}
		places = append(places, space.Vector(l).Place())
	}
	return places, true
}

func readIntegers(words []string) ([]int, bool) {
	var l []int
	for _, word := range words {
		n, ok := exact.ReadShort(word)
		if !ok {
			return nil, false
		}
		l = append(l, n)
	}
	return l, true
}
