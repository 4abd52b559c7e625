package wall

import (
	"math/rand"
	"strings"
	"testing"

	"crux/api"
)

// exampleText is the text of the chapter's wall, with a frame.
const exampleText = `wall w
panel 0,0,0 4000,0,0 4000,0,3000 0,0,3000
grid 500,0,500 500,0,0 0,0,500
panel 0,0,3000 4000,0,3000 4000,-3000,7000 0,-3000,7000
grid 500,0,3000 500,0,0 0,-300,400
frame 0,0,0 4000,0,0
frame 1,2,3 4,5,6
hold a 0 1 1
hold b 0 1 5
hold c 1 1 5
`

// P2.5: Print.
func TestPrint(t *testing.T) {
	s, e := Print(framedExample())
	want(t, "Print", []any{s, e}, []any{exampleText, api.OK})
	s, e = Print(Wall{"W_9", []Panel{gridded(3, 3).with(func(p *Panel) { p.Origin = place(2, 0, 2) })}, nil, []Hold{{"x", 0, -2, -1}}})
	want(t, "with numbers below 0", []any{s, e}, []any{"wall W_9\npanel 0,0,0 2,0,0 2,0,2 0,0,2\ngrid 2,0,2 1,0,0 0,0,1\nhold x 0 -2 -1\n", api.OK})
	for extra, e := range map[int]api.Errno{0: api.OK, 1: api.ErrLong} {
		w := longWall(api.MaxText + extra)
		s, errno := Print(w)
		want(t, "a long text", errno, e)
		want(t, "a long text", len(s), map[api.Errno]int{api.OK: api.MaxText}[e])
	}
}

// longWall returns a wall whose text has n bytes.
func longWall(n int) Wall {
	w := Wall{Name: "w", Panels: apart(1)}
	size := len(longText(w))
	const line = len("frame 0,0,0 0,0,10\n")
	for i := 0; size+2*line < n; i++ {
		w.Frame = append(w.Frame, Edge{A: place(0, 0, 0), B: place(0, i%9+1, i/9+10)})
		size += line
	}
	last := Edge{A: place(0, 0, 0), B: place(1, 1, 1)}
	for len(longText(w.with(func(w *Wall) { w.Frame = append(w.Frame, last) }))) < n {
		switch {
		case last.A.X < 10000:
			last.A.X = max(10*last.A.X, 1)
		case last.A.Y < 10000:
			last.A.Y = max(10*last.A.Y, 10)
		case last.A.Z < 10000:
			last.A.Z = max(10*last.A.Z, 10)
		case last.B.X < 10000:
			last.B.X *= 10
		case last.B.Y < 10000:
			last.B.Y *= 10
		default:
			last.B.Z *= 10
		}
	}
	w.Frame = append(w.Frame, last)
	return w
}

// longText is the text of a wall with frame edges, of any length.
func longText(w Wall) string {
	frame := w.Frame
	w.Frame = nil
	s, _ := Print(w)
	for _, e := range frame {
		s += "frame " + printPlaces(e.A, e.B) + "\n"
	}
	return s
}

// P2.5: Parse of the texts of walls.
func TestParse(t *testing.T) {
	w, line, e := Parse(exampleText)
	want(t, "Parse", []any{w, line, e}, []any{framedExample(), 0, api.OK})
	w, line, e = Parse("wall w\npanel 0,0,0 1,0,0 0,1,0\ngrid 0,0,0 1,0,0 0,1,0\n")
	want(t, "Parse", []any{line, e}, []any{0, api.OK})
	want(t, "Parse", w, Wall{"w", []Panel{{at(0, 0, 0, 1, 0, 0, 0, 1, 0), place(0, 0, 0), place(1, 0, 0), place(0, 1, 0)}}, nil, nil})
	s, _ := Print(longWall(api.MaxText))
	_, line, e = Parse(s)
	want(t, "the longest text", []any{line, e}, []any{0, api.OK})
}

// P2.5: Parse of other texts.
func TestParseErrors(t *testing.T) {
	const start = "wall w\npanel 0,0,0 1,0,0 0,1,0\ngrid 0,0,0 1,0,0 0,1,0\n"
	for _, row := range []struct {
		s    string
		line int
		e    api.Errno
	}{
		{strings.Repeat("x", 4097), 0, api.ErrLong},
		{strings.Repeat("\n", 4097), 0, api.ErrLong},
		{strings.Repeat("x", 4096), 0, api.ErrTorn},
		{strings.Repeat("\n", 4096), 1, api.ErrSyntax},
		{"", 0, api.ErrTorn},
		{"wall w", 0, api.ErrTorn},
		{start + "x", 0, api.ErrTorn},
		{"wall w\r", 0, api.ErrTorn},
		{"\n", 1, api.ErrSyntax},
		{"\n" + start, 1, api.ErrSyntax},
		{start[7:], 1, api.ErrSyntax},
		{start + "\n", 4, api.ErrSyntax},
		{start + start, 4, api.ErrSyntax},
		{"walls w\n", 1, api.ErrSyntax},
		{"Wall w\n", 1, api.ErrSyntax},
		{"wall\n", 1, api.ErrSyntax},
		{"wall \n", 1, api.ErrSyntax},
		{"wall  w\n", 1, api.ErrSyntax},
		{" wall w\n", 1, api.ErrSyntax},
		{"wall w \n", 1, api.ErrSyntax},
		{"wall w w\n", 1, api.ErrSyntax},
		{"wall\tw\n", 1, api.ErrSyntax},
		{"wall w\n", 0, api.ErrEmpty},
		{"wall 1\n", 0, api.ErrName},
		{"wall w\t\n", 0, api.ErrName},
		{"wall w\r\n", 0, api.ErrName},
		{"wall \xff\n", 0, api.ErrName},
		{"wall 1\nx\n", 2, api.ErrSyntax},
		{"wall w\nwall w\n", 2, api.ErrSyntax},
		{"wall w\ngrid 0,0,0 0,0,0 0,0,0\n", 2, api.ErrSyntax},
		{"wall w\nframe 0,0,0 0,0,1\n", 0, api.ErrEmpty},
		{"wall w\nhold a 0 0 0\n", 0, api.ErrEmpty},
		{"wall w\nhold a 0 0 0\nframe 0,0,0 0,0,1\n", 3, api.ErrSyntax},
		{"wall w\nframe 0,0,0 0,0,1\npanel\n", 3, api.ErrSyntax},
		{"wall w\nhold a 0 0 0\npanel\n", 3, api.ErrSyntax},
		{"wall w\npanel\n", 3, api.ErrSyntax},
		{"wall w\npanel\npanel\n", 3, api.ErrSyntax},
		{"wall w\npanel\nframe 0,0,0 0,0,1\n", 3, api.ErrSyntax},
		{"wall w\npanel\nhold a 0 0 0\n", 3, api.ErrSyntax},
		{"wall w\npanel\ngrid 0,0,0 0,0,0 0,0,0\n", 0, api.ErrShape},
		{"wall w\npanel \ngrid 0,0,0 0,0,0 0,0,0\n", 2, api.ErrSyntax},
		{"wall w\npanel 0,0,0\ngrid 0,0,0 0,0,0 0,0,0\n", 0, api.ErrShape},
		{"wall w\npanel" + strings.Repeat(" 0,0,0", 17) + "\ngrid 0,0,0 0,0,0 0,0,0\n", 0, api.ErrMany},
		{"wall w\n" + strings.Repeat("panel\ngrid 0,0,0 0,0,0 0,0,0\n", 33), 0, api.ErrMany},
		{start + "grid 0,0,0 1,0,0 0,1,0\n", 4, api.ErrSyntax},
		{start + "frame 0,0,0\n", 4, api.ErrSyntax},
		{start + "frame 0,0,0 1,1,1 2,2,2\n", 4, api.ErrSyntax},
		{start + "frame\n", 4, api.ErrSyntax},
		{start + "frame 0,0,0 0,0,0\n", 0, api.ErrZero},
		{start + "frame 0,0,0 0,0,1\ngrid 0,0,0 1,0,0 0,1,0\n", 5, api.ErrSyntax},
		{start + "hold a 0 0\n", 4, api.ErrSyntax},
		{start + "hold a 0 0 0 0\n", 4, api.ErrSyntax},
		{start + "hold  0 0 0\n", 4, api.ErrSyntax},
		{start + "hold a 0,0,0\n", 4, api.ErrSyntax},
		{start + "hold a x 0 0\n", 4, api.ErrSyntax},
		{start + "hold a 0  0\n", 4, api.ErrSyntax},
		{start + "hold 1 0 0 0\n", 0, api.ErrName},
		{start + "hold a -1 0 0\n", 0, api.ErrUnknown},
		{start + "hold a 0 2 0\n", 0, api.ErrPlane},
		{start + "hold a 0 999999999 0\n", 0, api.ErrRange},
		{start + "hold a 0 -999999999 0\n", 0, api.ErrRange},
		{start + "hold a 0 1000000000 0\n", 4, api.ErrSyntax},
		{start + "hold a 0 0 -1000000000\n", 4, api.ErrSyntax},
		{start + "hold a 0 0 99999999999999999999\n", 4, api.ErrSyntax},
		{start + "hold a 0 0 01\n", 4, api.ErrSyntax},
		{start + "hold a 0 0 -0\n", 4, api.ErrSyntax},
		{start + "hold a 0 0 +1\n", 4, api.ErrSyntax},
		{start + "hold a 0 0 --1\n", 4, api.ErrSyntax},
		{start + "hold a 0 0 -\n", 4, api.ErrSyntax},
		{start + "hold a 0 0 1_0\n", 4, api.ErrSyntax},
		{start + "hold a 0 0 \u0661\n", 4, api.ErrSyntax},
		{start + "hold a 0 0 0\nhold a 0 0 0\n", 0, api.ErrTwice},
		{start + "hold a 0 0 0\nframe 0,0,0 0,0,1\n", 5, api.ErrSyntax},
		{start + "hold a 0 0 0\nhold b 0 0\n", 5, api.ErrSyntax},
		{start + "frame 0,0,0 200000,0,0\n", 0, api.ErrRange},
		{start + "frame 0,0,0 999999999,0,0\n", 0, api.ErrRange},
		{start + "frame 0,0,0 1000000000,0,0\n", 4, api.ErrSyntax},
		{start + "frame 0,0,0 0,0\n", 4, api.ErrSyntax},
		{start + "frame 0,0,0 0,0,0,0\n", 4, api.ErrSyntax},
		{start + "frame 0,0,0 0,0,\n", 4, api.ErrSyntax},
		{start + "frame 0,0,0 ,,\n", 4, api.ErrSyntax},
		{start + "frame 0,0,0 0,0,00\n", 4, api.ErrSyntax},
		{start + "frame 0,0,0 0,-0,1\n", 4, api.ErrSyntax},
		{start + "frame 0,0,0 0,0,1 \n", 4, api.ErrSyntax},
		{start + "frame 0,0,0  0,0,1\n", 4, api.ErrSyntax},
		{"wall w\npanel 0,0,0 x\ngrid\n", 2, api.ErrSyntax},
		{"wall w\npanel 0,0,0 1,0,0 0,1,0\ngrid 0,0,0 1,0,0\n", 3, api.ErrSyntax},
		{"wall w\npanel 0,0,0 1,0,0 0,1,0\ngrid 0,0,0 1,0,0 0,1,0 0,1,0\n", 3, api.ErrSyntax},
		{"wall w\npanel 0,0,0 1,0,0 0,1,0\ngrid 0,0,0 1,0,0 x\n", 3, api.ErrSyntax},
		{"wall w\npanel 0,0,0 1,0,0 0,1,0\ngrid 0,0,1 1,0,0 0,1,0\n", 0, api.ErrPlane},
		{"wall w\npanel 0,0,0 1,0,0 0,1,0\ngrid 0,0,0 1,0,0 1,0,0\n", 0, api.ErrSingular},
		{start + start[7:], 0, api.ErrConflict},
	} {
		w, line, e := Parse(row.s)
		want(t, row.s, []any{w, line, e}, []any{Wall{}, row.line, row.e})
	}
}

// P2.6: the text of a wall is read as this wall.
func TestTexts(t *testing.T) {
	r := rand.New(rand.NewSource(8))
	for range 200 {
		w := randomWall(r)
		s, e := Print(w)
		want(t, "Print", e, api.OK)
		again, line, e := Parse(s)
		want(t, "Parse", []any{line, e}, []any{0, api.OK})
		want(t, "Parse", again.with(func(*Wall) {}), w.with(func(*Wall) {}))
		for range 20 { // texts that are nearly right
			i := r.Intn(len(s))
			text := s[:i] + string("0-, \nwphx"[r.Intn(9)]) + s[i+r.Intn(2):]
			if w, _, e := Parse(text); e == api.OK {
				back, e := Print(w)
				want(t, "Print", []any{back, e}, []any{text, api.OK})
			}
		}
	}
}
