package office_test

import (
	"math"
	"strconv"
	"strings"
	"testing"

	"crux/api"
	"crux/office"
)

// P10.3: example 2.
func TestExampleOfVectors(t *testing.T) {
	all := sure(office.Published(four(), "hall"))
	gives(t, "the vector", []office.Mark{mark("hall", 4)})(office.Vector(all))
	gives(t, "no gaps", []office.Mark(nil))(office.Gaps(all))
	some := archive(all.Entries[0], all.Entries[1], all.Entries[3])
	gives(t, "the vector of three entries", []office.Mark{mark("hall", 2)})(office.Vector(some))
	gives(t, "the gap", []office.Mark{mark("hall", 3)})(office.Gaps(some))
	gives(t, "what is lacking", all.Entries[2:])(office.Lacking(all, []office.Mark{mark("hall", 2)}))
}

// P10.3: each desk has a mark, and the first gap of each one counts.
func TestVectors(t *testing.T) {
	for _, row := range []struct {
		what         string
		l            []office.Entry
		vector, gaps []office.Mark
	}{
		{"nothing", nil, nil, nil},
		{"one entry", []office.Entry{at("gym", 1, 9)}, []office.Mark{mark("gym", 1)}, nil},
		{"the first one is missing", []office.Entry{at("gym", 2, 9)}, []office.Mark{mark("gym", 0)}, []office.Mark{mark("gym", 1)}},
		{"only the last one", []office.Entry{at("gym", 1000, 9)}, []office.Mark{mark("gym", 0)}, []office.Mark{mark("gym", 1)}},
		{"two gaps", []office.Entry{at("gym", 1, 1), at("gym", 3, 2), at("gym", 6, 3)}, []office.Mark{mark("gym", 1)}, []office.Mark{mark("gym", 2)}},
		{"a long gap", []office.Entry{at("gym", 1, 1), at("gym", 2, 2), at("gym", 9, 3), at("gym", 10, 4)}, []office.Mark{mark("gym", 2)}, []office.Mark{mark("gym", 3)}},
		{"several desks", []office.Entry{
			at("A", 1, 1), at("A", 2, 5), at("a", 2, 1), at("a", 3, 2), at("b", 1, 1), at("b", 3, 2), at("c", 1, 7), at("d", 1, 1), at("d", 2, 2), at("d", 4, 4),
		}, []office.Mark{mark("A", 2), mark("a", 0), mark("b", 1), mark("c", 1), mark("d", 2)}, []office.Mark{mark("a", 1), mark("b", 2), mark("d", 3)}},
		{"all numbers", long("gym", 1000), []office.Mark{mark("gym", 1000)}, nil},
		{"all numbers but one", append(long("gym", 998), at("gym", 1000, 1000)), []office.Mark{mark("gym", 998)}, []office.Mark{mark("gym", 999)}},
	} {
		a := archive(row.l...)
		gives(t, "the vector: "+row.what, row.vector)(office.Vector(a))
		gives(t, "the gaps: "+row.what, row.gaps)(office.Gaps(a))
		gives(t, "the vector of the model: "+row.what, row.vector)(modelVector(a))
		gives(t, "the gaps of the model: "+row.what, row.gaps)(modelGaps(a))
	}
}

// P10.3: what is above the mark of its desk is lacking, in order.
func TestLacking(t *testing.T) {
	l := []office.Entry{at("a", 1, 1), at("a", 3, 2), at("b", 1, 1), at("b", 2, 2), at("b", 5, 3), at("c", 7, 1)}
	for _, row := range []struct {
		what    string
		v       []office.Mark
		lacking []office.Entry
	}{
		{"no marks", nil, l},
		{"marks of 0", []office.Mark{mark("a", 0), mark("b", 0), mark("c", 0)}, l},
		{"marks of others", []office.Mark{mark("A", 9), mark("aa", 9), mark("d", 9)}, l},
		{"everything", []office.Mark{mark("a", 3), mark("b", 5), mark("c", 7)}, nil},
		{"the greatest marks", []office.Mark{mark("a", 1000), mark("b", 1000), mark("c", 1000)}, nil},
		{"some", []office.Mark{mark("a", 2), mark("b", 1)}, []office.Entry{l[1], l[3], l[4], l[5]}},
		{"just below", []office.Mark{mark("a", 1), mark("b", 4), mark("c", 6)}, []office.Entry{l[1], l[4], l[5]}},
		{"a desk without a mark", []office.Mark{mark("b", 9)}, []office.Entry{l[0], l[1], l[5]}},
	} {
		gives(t, row.what, row.lacking)(office.Lacking(archive(l...), row.v))
	}
	gives(t, "nothing to lack", []office.Entry(nil))(office.Lacking(archive(), []office.Mark{mark("a", 1)}))
}

// P10.3: the errors of vectors in their order.
func TestErrorsOfVectors(t *testing.T) {
	desks := func(n int) []office.Mark {
		var v []office.Mark
		for i := range n {
			v = append(v, mark("d"+strconv.Itoa(10000+i), i%1001))
		}
		return v
	}
	for _, row := range []struct {
		what string
		v    []office.Mark
		e    api.Errno
	}{
		{"the most marks", desks(1000), api.OK},
		{"too many marks", desks(1001), api.ErrMany},
		{"too many marks before a wrong one", make([]office.Mark, 1001), api.ErrMany},
		{"no name", []office.Mark{mark("", 1)}, api.ErrName},
		{"the longest name", []office.Mark{mark(longName, 1)}, api.OK},
		{"a name that is too long", []office.Mark{mark(tooLong, 1)}, api.ErrName},
		{"the name before the number", []office.Mark{mark("a-b", -1)}, api.ErrName},
		{"the number 0", []office.Mark{mark("a", 0)}, api.OK},
		{"a number below", []office.Mark{mark("a", -1)}, api.ErrRange},
		{"the greatest number", []office.Mark{mark("a", 1000)}, api.OK},
		{"a number above", []office.Mark{mark("a", 1001)}, api.ErrRange},
		{"the greatest integer", []office.Mark{mark("a", math.MaxInt)}, api.ErrRange},
		{"the least integer", []office.Mark{mark("a", math.MinInt)}, api.ErrRange},
		{"by bytes", []office.Mark{mark("Z", 1), mark("a", 1), mark("a1", 1), mark("aA", 1), mark("a_", 1), mark("aa", 1)}, api.OK},
		{"another order", []office.Mark{mark("b", 1), mark("a", 1)}, api.ErrOrder},
		{"small letters before great ones", []office.Mark{mark("a", 1), mark("B", 2)}, api.ErrOrder},
		{"a desk twice", []office.Mark{mark("a", 1), mark("a", 2)}, api.ErrOrder},
		{"the number before the order", []office.Mark{mark("a", 1), mark("a", -2)}, api.ErrRange},
		{"the name before the order", []office.Mark{mark("a", 1), mark("", 2)}, api.ErrName},
		{"the first one with an error", []office.Mark{mark("b", 1), mark("a", 1), mark("", 1)}, api.ErrOrder},
	} {
		fails(t, row.what, row.e)(office.Lacking(archive(long("gym", 9)...), row.v))
		fails(t, "of nothing: "+row.what, row.e)(office.Lacking(archive(), row.v))
		want(t, "the model: "+row.what, modelMarks(row.v), row.e)
	}
	fails(t, "a name without an end", api.ErrName)(office.Lacking(archive(), []office.Mark{mark(strings.Repeat("a", 1000000), 1)}))
}

// P10.3: vectors as in the model.
func TestVectorsLikeModel(t *testing.T) {
	d := draw(3)
	for range 5000 {
		a, b := d.archive(), d.archive()
		gives(t, "the vector", sure(modelVector(a)))(office.Vector(a))
		gives(t, "the gaps", sure(modelGaps(a)))(office.Gaps(a))
		v := sure(office.Vector(b))
		gives(t, "what is lacking", sure(modelLacking(a, v)))(office.Lacking(a, v))
	}
}
