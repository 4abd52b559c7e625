package route

import (
	"math"
	"math/rand"
	"slices"
	"strings"
	"testing"

	"crux/api"
)

// notes is the list of the chapter's example.
func notes() []Note {
	return []Note{{"ann", 7, 0}, {"ben", 5, 0}, {"ann", 6, 1}, {"ben", 4, 1}}
}

// P3.7: the errors of notes, in their order, beside zero values.
func TestWrongNotes(t *testing.T) {
	ann := Note{"ann", 7, 0}
	for _, row := range []struct {
		name string
		l    []Note
		e    api.Errno
	}{
		{"257 notes", slices.Repeat([]Note{ann}, 257), api.ErrMany},
		{"257 notes with errors", make([]Note, 257), api.ErrMany},
		{"no climber", []Note{ann, {"", 0, -1}, {"ann", 100, 0}}, api.ErrName},
		{"a climber that is no name", []Note{{"1", 5, 0}}, api.ErrName},
		{"a climber with a name that is too long", []Note{{strings.Repeat("a", 25), 5, 0}}, api.ErrName},
		{"the grade 0", []Note{ann, {"ann", 0, 0}, {"", 5, 0}}, api.ErrRange},
		{"the grade 100", []Note{{"ann", 100, 0}}, api.ErrRange},
		{"the last grade of all", []Note{{"ann", math.MaxInt, 0}}, api.ErrRange},
		{"the first grade of all", []Note{{"ann", math.MinInt, 0}}, api.ErrRange},
		{"Replaces is -1", []Note{ann, {"ann", 5, -1}, {"", 5, 0}}, api.ErrRange},
		{"Replaces is 257", []Note{{"ann", 5, 257}}, api.ErrRange},
		{"the last note of all", []Note{{"ann", 5, math.MaxInt}}, api.ErrRange},
		{"the first note of all", []Note{{"ann", 5, math.MinInt}}, api.ErrRange},
	} {
		inForce, aside, e := InForce(row.l)
		want(t, row.name, []any{len(inForce), len(aside), e}, []any{0, 0, row.e})
		grade, e := Grade(row.l)
		want(t, row.name, []any{grade, e}, []any{api.Rat(""), row.e})
	}
}

// P3.7: InForce and Grade.
func TestNotes(t *testing.T) {
	long := strings.Repeat("a", 24)
	for _, row := range []struct {
		name           string
		l              []Note
		inForce, aside []int
		grade          api.Rat
		e              api.Errno
	}{
		{"of the chapter", notes(), []int{2, 3}, []int{4}, "11/2", api.OK},
		{"none", nil, nil, nil, "", api.ErrNone},
		{"one", []Note{{"ann", 7, 0}}, []int{1}, nil, "7", api.OK},
		{"two of one climber", []Note{{"ann", 7, 0}, {"ann", 8, 0}}, []int{1, 2}, nil, "15/2", api.OK},
		{"a third", []Note{{"ann", 1, 0}, {"ben", 1, 0}, {"cem", 2, 0}}, []int{1, 2, 3}, nil, "4/3", api.OK},
		{"the least and the greatest grade", []Note{{"ann", 1, 0}, {long, 99, 0}}, []int{1, 2}, nil, "50", api.OK},
		{"a chain", []Note{{"ann", 7, 0}, {"ann", 6, 1}, {"ann", 5, 2}, {"ann", 4, 3}}, []int{4}, nil, "4", api.OK},
		{"a note that is not in force any more", []Note{{"ann", 7, 0}, {"ann", 6, 1}, {"ann", 5, 1}}, []int{2}, []int{3}, "6", api.OK},
		{"a note that is set aside", []Note{{"ann", 7, 0}, {"ben", 6, 1}, {"ben", 5, 2}}, []int{1}, []int{2, 3}, "7", api.OK},
		{"itself", []Note{{"ann", 7, 1}}, nil, []int{1}, "", api.ErrNone},
		{"a note behind it", []Note{{"ann", 7, 2}, {"ann", 6, 0}, {"ann", 5, 2}}, []int{3}, []int{1}, "5", api.OK},
		{"a note that is not there", []Note{{"ann", 7, 0}, {"ann", 6, 256}}, []int{1}, []int{2}, "7", api.OK},
		{"of another climber", []Note{{"ann", 7, 0}, {"Ann", 6, 1}}, []int{1}, []int{2}, "7", api.OK},
		{"and after that of the same one", []Note{{"ann", 7, 0}, {"ben", 6, 1}, {"ann", 5, 1}}, []int{3}, []int{2}, "5", api.OK},
		{"in another order", []Note{{"ann", 9, 0}, {"ben", 9, 0}, {"ben", 1, 2}, {"ann", 2, 1}, {"ann", 3, 4}}, []int{3, 5}, nil, "2", api.OK},
	} {
		inForce, aside, e := InForce(row.l)
		want(t, row.name, e, api.OK)
		want(t, row.name+": in force", inForce, row.inForce)
		want(t, row.name+": set aside", aside, row.aside)
		grade, e := Grade(row.l)
		want(t, row.name, []any{grade, e}, []any{row.grade, row.e})
	}
	many := slices.Repeat([]Note{{"ann", 7, 0}}, 256)
	many[255] = Note{"ann", 8, 255}
	inForce, aside, e := InForce(many)
	want(t, "256 notes", []any{len(inForce), inForce[254], len(aside), e}, []any{255, 256, 0, api.OK})
	grade, _ := Grade(many)
	want(t, "256 notes", grade, api.Rat("1786/255"))
}

// P3.7: notes at random, sorted out as the chapter has it.
func TestNotesAtRandom(t *testing.T) {
	r := rand.New(rand.NewSource(12))
	for range 2000 {
		var l []Note
		for i := range r.Intn(12) {
			l = append(l, Note{[]string{"ann", "ben"}[r.Intn(2)], 1 + r.Intn(99), r.Intn(i + 3)})
		}
		holds := map[int]bool{}
		var out []int
		for i, n := range l {
			number := i + 1
			if n.Replaces != 0 {
				if n.Replaces >= number || !holds[n.Replaces] || l[n.Replaces-1].Climber != n.Climber {
					out = append(out, number)
					continue
				}
				holds[n.Replaces] = false
			}
			holds[number] = true
		}
		var in []int
		for i := range l {
			if holds[i+1] {
				in = append(in, i+1)
			}
		}
		given := slices.Clone(l)
		inForce, aside, e := InForce(l)
		want(t, "InForce", e, api.OK)
		want(t, "in force", inForce, in)
		want(t, "set aside", aside, out)
		want(t, "the argument stays", l, given)
	}
}
