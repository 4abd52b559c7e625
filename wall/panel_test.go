package wall

import (
	"math"
	"math/big"
	"math/rand"
	"testing"

	"crux/api"
	"crux/number"
)

// far are coordinates that no place has.
func far() []int {
	return []int{api.MaxPlace + 1, -api.MaxPlace - 1, math.MaxInt, math.MinInt}
}

// circle returns n corners of a convex panel in the plane Z = 0.
func circle(n int) []api.Place {
	var l []api.Place
	for i := range n {
		angle := 2 * math.Pi * float64(i) / float64(n)
		l = append(l, place(int(10000*math.Cos(angle)), int(10000*math.Sin(angle)), 0))
	}
	return l
}

// wrongPanels are panels with the errors of CheckPanel, each one with the errors behind it, too.
func wrongPanels() map[string]struct {
	p Panel
	e api.Errno
} {
	type row = struct {
		p Panel
		e api.Errno
	}
	corners := func(l ...int) Panel { return standing().with(func(p *Panel) { p.Corners = at(l...) }) }
	m := map[string]row{
		"nothing":                     {Panel{}, api.ErrShape},
		"two corners, far away":       {corners(200000, 0, 0, 0, 0, 0), api.ErrShape},
		"17 corners, far away":        {Panel{Corners: append(circle(16), place(200000, 0, 0))}, api.ErrMany},
		"17 corners":                  {Panel{Corners: circle(17)}, api.ErrMany},
		"all corners at one place":    {corners(1, 2, 3, 1, 2, 3, 1, 2, 3), api.ErrShape},
		"the first three on a line":   {corners(0, 0, 0, 1000, 0, 0, 2000, 0, 0, 0, 7, 3000), api.ErrShape},
		"a spike at the second one":   {corners(0, 0, 0, 2000, 0, 0, 1000, 0, 0, 0, 7, 3000), api.ErrShape},
		"a corner off the plane":      {corners(0, 0, 0, 4000, 0, 0, 4000, 0, 3000, 0, 1, 3000), api.ErrPlane},
		"off the plane, not convex":   {corners(0, 0, 0, 4000, 0, 0, 4000, 0, 3000, 5000, 0, 1000, 0, 1, 3000), api.ErrPlane},
		"a corner that is no corner":  {corners(0, 0, 0, 4000, 0, 0, 4000, 0, 3000, 2000, 0, 3000, 0, 0, 3000), api.ErrShape},
		"the last one is no corner":   {corners(0, 0, 0, 4000, 0, 0, 4000, 0, 3000, 0, 0, 3000, 0, 0, 1000), api.ErrShape},
		"no dent":                     {corners(0, 0, 0, 4000, 0, 0, 4000, 0, 3000, 2000, 0, 1501), api.OK},
		"a line instead of a dent":    {corners(0, 0, 0, 4000, 0, 0, 4000, 0, 3000, 2000, 0, 1500), api.ErrShape},
		"a dent":                      {corners(0, 0, 0, 4000, 0, 0, 4000, 0, 3000, 2000, 0, 1499), api.ErrShape},
		"the same corner twice":       {corners(0, 0, 0, 4000, 0, 0, 4000, 0, 3000, 4000, 0, 3000), api.ErrShape},
		"the first one again":         {corners(0, 0, 0, 4000, 0, 0, 4000, 0, 3000, 0, 0, 0), api.ErrShape},
		"edges that cross each other": {corners(0, 0, 0, 4000, 0, 0, 0, 0, 3000, 4000, 0, 3000), api.ErrShape},
		"twice around":                {corners(0, 0, 0, 4000, 0, 0, 0, 0, 3000, 0, 0, 0, 4000, 0, 0, 0, 0, 3000), api.ErrShape},
		"a star with five points":     {corners(0, 0, 0, 4000, 0, 3000, -2000, 0, 3000, 2000, 0, 0, 1000, 0, 5000), api.ErrShape},
		"not convex, Origin off":      {corners(0, 0, 0, 4000, 0, 0, 4000, 0, 3000, 3000, 0, 1000).with(func(p *Panel) { p.Origin.Y = 1 }), api.ErrShape},
		"Origin off the plane":        {standing().with(func(p *Panel) { p.Origin.Y = 1 }), api.ErrPlane},
		"U off the plane":             {standing().with(func(p *Panel) { p.U.Y = 1 }), api.ErrPlane},
		"V off the plane":             {standing().with(func(p *Panel) { p.V.Y = -1 }), api.ErrPlane},
		"U off the plane, V 0":        {standing().with(func(p *Panel) { p.U.Y, p.V = 1, api.Place{} }), api.ErrPlane},
		"U is 0":                      {standing().with(func(p *Panel) { p.U = api.Place{} }), api.ErrSingular},
		"V is 0":                      {standing().with(func(p *Panel) { p.V = api.Place{} }), api.ErrSingular},
		"U and V are the same":        {standing().with(func(p *Panel) { p.U = p.V }), api.ErrSingular},
		"U and V are opposite":        {standing().with(func(p *Panel) { p.U, p.V = place(2, 0, -4), place(-3, 0, 6) }), api.ErrSingular},
	}
	for _, n := range far() {
		m["a corner: X"+big.NewInt(int64(n)).String()] = row{standing().with(func(p *Panel) { p.Corners[3].X = n }), api.ErrRange}
		m["a corner: Y"+big.NewInt(int64(n)).String()] = row{standing().with(func(p *Panel) { p.Corners[0].Y = n }), api.ErrRange}
		m["a corner: Z"+big.NewInt(int64(n)).String()] = row{standing().with(func(p *Panel) { p.Corners[1].Z = n }), api.ErrRange}
		m["Origin"+big.NewInt(int64(n)).String()] = row{standing().with(func(p *Panel) { p.Origin.X = n }), api.ErrRange}
		m["U"+big.NewInt(int64(n)).String()] = row{standing().with(func(p *Panel) { p.U.Y = n }), api.ErrRange}
		m["V, and a vector of 0"+big.NewInt(int64(n)).String()] = row{corners(0, 0, 0, 0, 0, 0, 0, 0, 0).with(func(p *Panel) { p.V.Z = n }), api.ErrRange}
	}
	return m
}

// P2.1: CheckPanel has the errors in their order, and so have the other functions of panels.
func TestWrongPanels(t *testing.T) {
	for name, row := range wrongPanels() {
		want(t, name, CheckPanel(row.p), row.e)
		if row.e == api.OK {
			continue
		}
		n, e := Normal(row.p)
		want(t, name+": Normal", []any{n, e}, []any{api.Place{}, row.e})
		a, e := Area(row.p)
		want(t, name+": Area", []any{a, e}, []any{api.Span{}, row.e})
		s, e := Steepness(row.p)
		want(t, name+": Steepness", []any{s, e}, []any{api.Rat(""), row.e})
		k, e := On(row.p, place(200000, 0, 0))
		want(t, name+": On", []any{k, e}, []any{0, row.e})
		h, e := Hole(row.p, 2000, 0)
		want(t, name+": Hole", []any{h, e}, []any{api.Place{}, row.e})
		l, e := Holes(row.p)
		want(t, name+": Holes", []any{l, e}, []any{[][2]int(nil), row.e})
		want(t, name+": CheckWall", CheckWall(Wall{"w", []Panel{row.p}, make([]Edge, 300), nil}), row.e)
	}
}

// P2.1: CheckPanel of panels without errors.
func TestRightPanels(t *testing.T) {
	for name, p := range map[string]Panel{
		"standing":                  standing(),
		"leaning":                   leaning(),
		"16 corners":                {circle(16), place(0, 0, 0), place(1, 0, 0), place(0, 1, 0)},
		"as far as places go":       {at(-100000, -100000, -100000, 100000, -100000, -100000, 100000, 100000, 100000, -100000, 100000, 100000), place(0, 100000, 100000), place(100000, 0, 0), place(-100000, 100000, 100000)},
		"Origin outside":            standing().with(func(p *Panel) { p.Origin = place(-99999, 0, 100000) }),
		"U and V not at right ways": standing().with(func(p *Panel) { p.U, p.V = place(1, 0, 2), place(1, 0, 1) }),
		"V before U":                standing().with(func(p *Panel) { p.U, p.V = p.V, p.U }),
		"clockwise from behind":     {at(0, 0, 3000, 4000, 0, 3000, 4000, 0, 0, 0, 0, 0), place(0, 0, 0), place(1, 0, 0), place(0, 0, 1)},
	} {
		want(t, name, CheckPanel(p), api.OK)
	}
	r := rand.New(rand.NewSource(1))
	for _, size := range []int{1, 3, 100, 7000} {
		for range 200 {
			want(t, "a random panel", CheckPanel(randomPanel(r, size)), api.OK)
		}
	}
}

// P2.1: Normal, Area and Steepness of the chapter's examples and of edge cases.
func TestPanels(t *testing.T) {
	upside := standing().with(func(p *Panel) { p.Corners = at(0, 0, 0, 0, 0, 3000, 4000, 0, 3000, 4000, 0, 0) })
	ceiling := Panel{at(0, 0, 0, 0, 10, 0, 10, 0, 0), place(0, 0, 0), place(1, 0, 0), place(0, 1, 0)}
	for _, row := range []struct {
		name   string
		p      Panel
		normal api.Place
		area   api.Span
		steep  api.Rat
	}{
		{"standing", standing(), place(0, -1, 0), api.Span{Low: "12000000", High: "12000000"}, "0"},
		{"leaning", leaning(), place(0, -4, -3), api.Span{Low: "20000000", High: "20000000"}, "-9/25"},
		{"from behind", upside, place(0, 1, 0), api.Span{Low: "12000000", High: "12000000"}, "0"},
		{"floor", floor3(), place(0, 0, 1), api.Span{Low: "50", High: "50"}, "1"},
		{"ceiling", ceiling, place(0, 0, -1), api.Span{Low: "50", High: "50"}, "-1"},
		{"half a millimetre", Panel{at(0, 0, 0, 1, 0, 0, 0, 1, 0), place(0, 0, 0), place(1, 0, 0), place(0, 1, 0)}, place(0, 0, 1), api.Span{Low: "1/2", High: "1/2"}, "1"},
		{"corner of a cube", Panel{at(1, 0, 0, 0, 1, 0, 0, 0, 1), place(1, 0, 0), place(1, -1, 0), place(0, 1, -1)}, place(1, 1, 1), api.Span{Low: "433/500", High: "867/1000"}, "1/3"},
		{"as large as can be", Panel{at(-100000, -100000, -100000, 100000, -100000, -100000, 100000, 100000, 100000, -100000, 100000, 100000), place(0, 0, 0), place(1, 0, 0), place(0, 1, 1)}, place(0, -1, 1), api.Span{Low: "56568542494923/1000", High: "14142135623731/250"}, "1/2"},
	} {
		n, e := Normal(row.p)
		want(t, row.name+": Normal", []any{n, e}, []any{row.normal, api.OK})
		a, e := Area(row.p)
		want(t, row.name+": Area", []any{a, e}, []any{row.area, api.OK})
		s, e := Steepness(row.p)
		want(t, row.name+": Steepness", []any{s, e}, []any{row.steep, api.OK})
	}
}

// bigArea returns four times the square of the area of a panel, as a fan of triangles from a corner.
func bigArea(p Panel, corner int) *big.Rat {
	sum := slices3(api.Place{})
	first := slices3(p.Corners[corner])
	for i, a := range p.Corners {
		b := p.Corners[(i+1)%len(p.Corners)]
		part := bigCross(bigMinus(slices3(a), first), bigMinus(slices3(b), first))
		for k := range sum {
			sum[k] = new(big.Rat).Add(sum[k], part[k])
		}
	}
	return bigDot(sum, sum)
}

// P2.1: Normal, Area and Steepness of any panels; P2.6: the area does not depend on the corner.
func TestRandomPanels(t *testing.T) {
	r := rand.New(rand.NewSource(2))
	for k := range 600 {
		p := randomPanel(r, []int{2, 50, 7000}[k%3])
		v := bigVector(p)
		n, e := Normal(p)
		want(t, "Normal", e, api.OK)
		m := slices3(n)
		want(t, "along the vector", bigDot(bigCross(v, m), bigCross(v, m)).Sign(), 0)
		want(t, "to the climbers", bigDot(v, m).Sign(), 1)
		d := new(big.Int).GCD(nil, nil, new(big.Int).Abs(m[0].Num()), new(big.Int).Abs(m[1].Num()))
		want(t, "shortest", d.GCD(nil, nil, d, new(big.Int).Abs(m[2].Num())).String(), "1")
		steep := new(big.Rat).Quo(new(big.Rat).Mul(m[2], new(big.Rat).Abs(m[2])), bigDot(m, m))
		s, e := Steepness(p)
		want(t, "Steepness", []any{s, e}, []any{api.Rat(steep.RatString()), api.OK})
		a, e := Area(p)
		want(t, "Area", e, api.OK)
		for corner := range p.Corners {
			square := new(big.Rat).Quo(bigArea(p, corner), big.NewRat(4, 1))
			root, _ := number.Root(api.Rat(square.RatString()))
			want(t, "Area", a, root)
		}
	}
}

// P2.1: On.
func TestOn(t *testing.T) {
	for _, row := range []struct {
		p  Panel
		at api.Place
		on int
		e  api.Errno
	}{
		{standing(), place(1, 0, 1), 1, api.OK},
		{standing(), place(0, 0, 0), 0, api.OK},
		{standing(), place(4000, 0, 3000), 0, api.OK},
		{standing(), place(4000, 0, 1500), 0, api.OK},
		{standing(), place(3999, 0, 2999), 1, api.OK},
		{standing(), place(4001, 0, 1500), -1, api.OK},
		{standing(), place(5000, 0, 0), -1, api.OK}, // in line with an edge
		{standing(), place(-1, 0, -1), -1, api.OK},
		{standing(), place(100000, 0, -100000), -1, api.OK},
		{standing(), place(1, 1, 1), 0, api.ErrPlane},
		{standing(), place(1, -100000, 1), 0, api.ErrPlane},
		{standing(), place(1, 0, 100001), 0, api.ErrRange},
		{standing(), place(1, math.MinInt, 1), 0, api.ErrRange},
		{leaning(), place(17, -3, 3004), 1, api.OK},
		{leaning(), place(17, -3, 3005), 0, api.ErrPlane},
		{floor3(), place(5, 5, 0), 0, api.OK},
		{floor3(), place(5, 4, 0), 1, api.OK},
		{floor3(), place(5, 6, 0), -1, api.OK},
	} {
		on, e := On(row.p, row.at)
		want(t, "On", []any{on, e}, []any{row.on, row.e})
	}
	r := rand.New(rand.NewSource(3))
	for k := range 60 {
		f := randomFlat(r, []int{1, 40, 6000}[k%3])
		p := f.panel(randomPoints(r, f.spread))
		for i := -7; i <= 7; i++ {
			for j := -7; j <= 7; j++ {
				spot := f.at(i, j)
				on, e := On(p, spot)
				want(t, "On", []any{on, e}, []any{bigOn(p, slices3(spot)), api.OK})
			}
		}
	}
}
