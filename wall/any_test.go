package wall

import (
	"math"
	"math/rand"
	"testing"

	"crux/api"
)

// anyNumbers are integers of every kind.
func anyNumbers() []int {
	return []int{0, 1, -1, 3, 1000, 1001, -1001, 100000, -100000, 100001, -100001, 999999999, math.MaxInt, math.MinInt}
}

// P1: every function terminates and never panics, whatever the panels are.
func TestAnyPanels(t *testing.T) {
	r := rand.New(rand.NewSource(14))
	numbers := anyNumbers()
	number := func() int { return numbers[r.Intn(len(numbers))] }
	for k := range 20000 {
		n := number
		if k%2 == 0 { // a chance of a panel without errors
			n = func() int { return r.Intn(3) }
		}
		some := func() api.Place { return place(n(), n(), n()) }
		var p Panel
		for range r.Intn(6) {
			p.Corners = append(p.Corners, some())
		}
		p.Origin, p.U, p.V = some(), some(), some()
		want(t, "CheckPanel twice", CheckPanel(p), CheckPanel(p))
		Normal(p)
		Area(p)
		Steepness(p)
		On(p, some())
		Hole(p, number(), number())
		Holes(p)
	}
}

// P1: the same for walls.
func TestAnyWalls(t *testing.T) {
	r := rand.New(rand.NewSource(15))
	numbers := anyNumbers()
	number := func() int { return numbers[r.Intn(len(numbers))] }
	some := func() api.Place { return place(number(), number(), number()) }
	names := []string{"", "a", "b", "z", "\xff", "a b"}
	for range 300 {
		w := randomWall(r)
		switch r.Intn(8) {
		case 0:
			w.Name = names[r.Intn(len(names))]
		case 1:
			w.Panels = append(w.Panels, Panel{})
		case 2:
			w.Panels = append(w.Panels, w.Panels...)
		case 3:
			w.Frame = append(w.Frame, Edge{some(), some()})
		case 4:
			w.Holds = append(w.Holds, Hold{names[r.Intn(len(names))], number(), number(), number()})
		case 5:
			w.Panels = nil
		}
		e := CheckWall(w)
		for _, name := range names {
			_, x := Spot(w, name)
			want(t, "Spot, with the error of the wall", x == e || e == api.OK, true)
			Distance(w, name, "a")
			Within(w, name, number())
			Sees(w, "a", name)
		}
		Find(w, some())
		Neighbours(w)
		Loose(w)
		Bend(w, number(), number())
		Bend(w, 0, 1)
		Blocks(w, some(), some())
		Moved(w, some())
		Turned(w, number())
		Mirrored(w)
		Print(w)
		Picture(w, number())
		Picture(w, 0)
	}
}

// P1: the same for texts.
func TestAnyTexts(t *testing.T) {
	r := rand.New(rand.NewSource(16))
	words := []string{"wall", "panel", "grid", "frame", "hold", "a", "0", "-1", "0,0,0", "1,0,0", "0,1,0", " ", "\n", "\n", "", "\x00", "99999999999999999999"}
	for range 20000 {
		s := ""
		for range r.Intn(20) {
			s += words[r.Intn(len(words))]
			if r.Intn(3) > 0 {
				s += " "
			}
		}
		w, line, e := Parse(s + "\n")
		if e != api.OK {
			want(t, "beside an error", w, Wall{})
		}
		want(t, "a line", line >= 0, true)
	}
}
