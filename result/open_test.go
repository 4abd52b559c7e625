package result_test

import (
	"math"
	"slices"
	"testing"

	"crux/api"
	"crux/result"
)

// bar returns a bar.
func bar(from, to int, reason string) result.Bar {
	return result.Bar{From: from, To: to, Reason: reason}
}

// P7.4: the errors of open values, of the number of a climber, and of a rank, in their order.
func TestErrorsOfOpenValues(t *testing.T) {
	for _, row := range []struct {
		what string
		l    []result.Open
		e    api.Errno
	}{
		{"nobody", nil, api.ErrEmpty},
		{"example 5", three(), api.OK},
		{"the most climbers", opens(160), api.OK},
		{"one more", opens(161), api.ErrMany},
		{"too many before a wrong name", append(opens(160), open("", 0, 0)), api.ErrMany},
		{"no name", []result.Open{open("", 0, 0)}, api.ErrName},
		{"the longest name", []result.Open{open(longName, 0, 0)}, api.OK},
		{"a name that is too long", []result.Open{open(tooLong, 0, 0)}, api.ErrName},
		{"a name twice", []result.Open{open("a", 0, 0), open("b", 0, 0), open("a", 1, 1)}, api.ErrTwice},
		{"the least and the greatest end", []result.Open{open("a", 0, 99999)}, api.OK},
		{"a low end below", []result.Open{open("a", -1, 5)}, api.ErrRange},
		{"a high end above", []result.Open{open("a", 1, 100000)}, api.ErrRange},
		{"both above", []result.Open{open("a", 100000, 100000)}, api.ErrRange},
		{"both below", []result.Open{open("a", -1, -1)}, api.ErrRange},
		{"one value", []result.Open{open("a", 7, 7)}, api.OK},
		{"the wrong order", []result.Open{open("a", 7, 6)}, api.ErrOrder},
		{"the name before the range", []result.Open{open("", -1, 0)}, api.ErrName},
		{"twice before the range", []result.Open{open("a", 0, 0), open("a", -1, 0)}, api.ErrTwice},
		{"the range before the order", []result.Open{open("a", 5, -1)}, api.ErrRange},
		{"the range before the order", []result.Open{open("a", 100000, 4)}, api.ErrRange},
		{"the first one with an error", []result.Open{open("a", 1, 0), open("", 0, 0)}, api.ErrOrder},
	} {
		want(t, "CheckOpen: "+row.what, result.CheckOpen(row.l), row.e)
		for _, e := range questions(row.l, -1, 0) {
			want(t, "the error before that of the climber: "+row.what, e, first(row.e, api.ErrUnknown))
		}
	}
	for _, row := range []struct {
		climber, rank int
		e             api.Errno
	}{
		{-1, 1, api.ErrUnknown},
		{3, 1, api.ErrUnknown},
		{math.MinInt, 0, api.ErrUnknown},
		{math.MaxInt, 9, api.ErrUnknown},
		{0, 0, api.ErrRange},
		{2, 4, api.ErrRange},
		{1, -1, api.ErrRange},
		{1, math.MaxInt, api.ErrRange},
	} {
		_, e := result.Ranks(three(), row.climber)
		want(t, "the error of Ranks", e, first(when(row.e == api.ErrUnknown, row.e)))
		for _, e := range questions(three(), row.climber, row.rank)[1:] {
			want(t, "the error of a climber or a rank", e, row.e)
		}
	}
}

// questions returns the errors of Ranks, Witness, CheckWitness, Excluded and CheckExcluded, the last ones without values or bars.
func questions(l []result.Open, climber, rank int) []api.Errno {
	_, ranks := result.Ranks(l, climber)
	_, witness := result.Witness(l, climber, rank)
	_, excluded := result.Excluded(l, climber, rank)
	return []api.Errno{ranks, witness, result.CheckWitness(l, climber, rank, nil), excluded, result.CheckExcluded(l, climber, rank, nil)}
}

// P7.4: the ranks that are possible, with witnesses and bars.
func TestRanks(t *testing.T) {
	for _, row := range []struct {
		what    string
		l       []result.Open
		climber int
		ranks   []int
	}{
		{"one", opens(1), 0, []int{1}},
		{"example 5", three(), 0, []int{1, 3}},
		{"example 5 for another climber", three(), 1, []int{1, 2}},
		{"all are equal", []result.Open{open("a", 5, 5), open("b", 5, 5), open("c", 5, 5)}, 1, []int{1}},
		{"all are open", opens(4), 2, []int{1, 2, 3, 4}},
		{"the order is fixed", []result.Open{open("a", 1, 2), open("b", 3, 4), open("c", 5, 6)}, 1, []int{2}},
		{"two gaps", []result.Open{open("a", 0, 9), open("b", 3, 3), open("c", 3, 3), open("d", 6, 6), open("e", 6, 6)}, 0, []int{1, 3, 5}},
		{"the high end of another one is the low end", []result.Open{open("a", 5, 9), open("b", 1, 5)}, 0, []int{1}},
		{"the low end of another one is the high end", []result.Open{open("a", 1, 5), open("b", 5, 9)}, 0, []int{1, 2}},
		{"the ends of all", []result.Open{open("a", 0, 99999), open("b", 99999, 99999), open("c", 0, 0)}, 0, []int{1, 2}},
		{"only with a value in the middle", []result.Open{open("a", 0, 9), open("b", 4, 4), open("c", 5, 5)}, 0, []int{1, 2, 3}},
	} {
		ranks, e := result.Ranks(row.l, row.climber)
		want(t, "the ranks: "+row.what, ranks, row.ranks)
		want(t, "the error of Ranks: "+row.what, e, api.OK)
		wantCertificates(t, row.l, row.climber, row.ranks)
	}
}

// wantCertificates reports ranks that have no witness though they are possible, or no bars though they are not.
func wantCertificates(t *testing.T, l []result.Open, climber int, ranks []int) {
	t.Helper()
	for i := range l {
		rank, witnessError, excludedError := i+1, api.OK, api.ErrNone
		if !slices.Contains(ranks, rank) {
			witnessError, excludedError = api.ErrInfeasible, api.OK
		}
		values, e := result.Witness(l, climber, rank)
		want(t, "the error of Witness", e, witnessError)
		if e == api.OK {
			want(t, "CheckWitness", result.CheckWitness(l, climber, rank, values), api.OK)
			want(t, "a witness by the model", modelWitness(l, climber, rank, values), api.OK)
		}
		bars, e := result.Excluded(l, climber, rank)
		want(t, "the error of Excluded", e, excludedError)
		if e == api.OK {
			want(t, "CheckExcluded", result.CheckExcluded(l, climber, rank, bars), api.OK)
			want(t, "bars by the model", modelExcluded(l, climber, rank, bars), api.OK)
		}
	}
}

// P7.4: any values with which the climber has the rank, and no others.
func TestCheckWitness(t *testing.T) {
	for _, row := range []struct {
		what          string
		climber, rank int
		values        []int
		e             api.Errno
	}{
		{"the first rank", 0, 1, []int{6, 5, 5}, api.OK},
		{"the first rank with equal values", 0, 1, []int{5, 5, 5}, api.OK},
		{"the third rank", 0, 3, []int{4, 5, 5}, api.OK},
		{"another rank", 0, 3, []int{5, 5, 5}, api.ErrProof},
		{"another rank", 0, 1, []int{4, 5, 5}, api.ErrProof},
		{"an impossible rank", 0, 2, []int{4, 5, 5}, api.ErrProof},
		{"another climber", 1, 2, []int{6, 5, 5}, api.OK},
		{"another climber", 2, 1, []int{5, 5, 5}, api.OK},
		{"too few values", 0, 1, []int{6, 5}, api.ErrShape},
		{"too many values", 0, 1, []int{6, 5, 5, 5}, api.ErrShape},
		{"a value below", 0, 3, []int{3, 5, 5}, api.ErrRange},
		{"a value above", 0, 1, []int{7, 5, 5}, api.ErrRange},
		{"another value above", 0, 3, []int{4, 5, 6}, api.ErrRange},
		{"another value below", 0, 1, []int{4, 4, 4}, api.ErrRange},
		{"the shape before the range", 0, 1, []int{7}, api.ErrShape},
		{"the range before another rank", 0, 2, []int{math.MaxInt, 5, 5}, api.ErrRange},
		{"an unknown climber", 3, 1, []int{7}, api.ErrUnknown},
		{"a rank out of range", 2, 4, []int{7}, api.ErrRange},
	} {
		want(t, "CheckWitness: "+row.what, result.CheckWitness(three(), row.climber, row.rank, row.values), row.e)
	}
}

// P7.4: any bars that prove that a rank is impossible, and no others.
func TestCheckExcluded(t *testing.T) {
	const a, b = "above", "below"
	for _, row := range []struct {
		what          string
		climber, rank int
		bars          []result.Bar
		e             api.Errno
	}{
		{"example 5", 0, 2, []result.Bar{bar(4, 4, a), bar(5, 6, b)}, api.OK},
		{"more parts", 0, 2, []result.Bar{bar(4, 4, a), bar(5, 5, b), bar(6, 6, b)}, api.OK},
		{"no bars", 0, 2, nil, api.ErrEmpty},
		{"a wrong reason", 0, 2, []result.Bar{bar(4, 4, "Above"), bar(5, 6, b)}, api.ErrKind},
		{"no reason", 0, 2, []result.Bar{bar(4, 4, a), bar(5, 6, "")}, api.ErrKind},
		{"a begin that is too low", 0, 2, []result.Bar{bar(3, 4, a), bar(5, 6, b)}, api.ErrOrder},
		{"a begin that is too high", 0, 2, []result.Bar{bar(5, 6, b)}, api.ErrOrder},
		{"an end before the begin", 0, 2, []result.Bar{bar(4, 3, a), bar(4, 4, a), bar(5, 6, b)}, api.ErrOrder},
		{"a second end before the begin", 0, 2, []result.Bar{bar(4, 4, a), bar(5, 4, b), bar(5, 6, b)}, api.ErrOrder},
		{"a gap", 0, 2, []result.Bar{bar(4, 4, a), bar(6, 6, b)}, api.ErrOrder},
		{"an overlap", 0, 2, []result.Bar{bar(4, 4, a), bar(5, 6, b), bar(6, 6, b)}, api.ErrOrder},
		{"a part twice", 0, 2, []result.Bar{bar(4, 4, a), bar(4, 4, a), bar(5, 6, b)}, api.ErrOrder},
		{"above for too much", 0, 2, []result.Bar{bar(4, 5, a), bar(6, 6, b)}, api.ErrProof},
		{"below for too much", 0, 2, []result.Bar{bar(4, 6, b)}, api.ErrProof},
		{"a possible rank, above", 0, 3, []result.Bar{bar(4, 6, a)}, api.ErrProof},
		{"a possible rank, below", 0, 3, []result.Bar{bar(4, 6, b)}, api.ErrProof},
		{"another possible rank", 0, 1, []result.Bar{bar(4, 4, a), bar(5, 6, b)}, api.ErrProof},
		{"an end that is too low", 0, 2, []result.Bar{bar(4, 4, a), bar(5, 5, b)}, api.ErrShape},
		{"the first part alone", 0, 2, []result.Bar{bar(4, 4, a)}, api.ErrShape},
		{"an end that is too high", 0, 2, []result.Bar{bar(4, 4, a), bar(5, 7, b)}, api.ErrShape},
		{"a part behind the end", 0, 2, []result.Bar{bar(4, 4, a), bar(5, 6, b), bar(7, 9, b)}, api.ErrShape},
		{"the greatest end", 0, 2, []result.Bar{bar(4, 4, a), bar(5, math.MaxInt, b)}, api.ErrShape},
		{"behind the greatest end", 0, 2, []result.Bar{bar(4, 4, a), bar(5, math.MaxInt, b), bar(math.MinInt, 6, b)}, api.ErrOrder},
		{"behind the greatest end, above", 0, 2, []result.Bar{bar(4, 4, a), bar(5, math.MaxInt, b), bar(math.MinInt, 4, a)}, api.ErrOrder},
		{"the least begin", 0, 2, []result.Bar{bar(math.MinInt, math.MaxInt, b)}, api.ErrOrder},
		{"the reason before the order", 0, 2, []result.Bar{bar(3, 2, "x")}, api.ErrKind},
		{"the order before the proof", 0, 2, []result.Bar{bar(3, 6, b)}, api.ErrOrder},
		{"the first bar with an error", 0, 2, []result.Bar{bar(4, 6, b), bar(4, 4, "x")}, api.ErrProof},
		{"an error before the last end", 0, 2, []result.Bar{bar(4, 4, a), bar(6, 7, b)}, api.ErrOrder},
		{"others alone count: the third rank of bea", 1, 3, []result.Bar{bar(5, 5, b)}, api.OK},
		{"others alone count: the second rank of bea", 1, 2, []result.Bar{bar(5, 5, b)}, api.ErrProof},
		{"an unknown climber", 3, 2, nil, api.ErrUnknown},
		{"a rank out of range", 0, 4, nil, api.ErrRange},
	} {
		want(t, "CheckExcluded: "+row.what, result.CheckExcluded(three(), row.climber, row.rank, row.bars), row.e)
		want(t, "the model: "+row.what, modelExcluded(three(), row.climber, row.rank, row.bars), row.e)
	}
}

// P7.4: the reason above needs as many others as the rank says, and below at most two fewer.
func TestReasonsOfBars(t *testing.T) {
	l := []result.Open{open("a", 3, 5), open("b", 6, 8), open("c", 6, 6), open("d", 0, 4), open("e", 0, 3)}
	for _, row := range []struct {
		rank int
		bar  result.Bar
		e    api.Errno
	}{
		{1, bar(3, 5, "above"), api.OK},
		{2, bar(3, 5, "above"), api.OK},
		{3, bar(3, 5, "above"), api.ErrProof},
		{1, bar(3, 6, "above"), api.ErrProof},
		{3, bar(3, 5, "below"), api.ErrProof},
		{4, bar(3, 5, "below"), api.ErrProof},
		{5, bar(3, 5, "below"), api.OK},
		{1, bar(3, 5, "below"), api.ErrProof},
	} {
		want(t, "CheckExcluded", result.CheckExcluded(l, 0, row.rank, []result.Bar{row.bar}), row.e)
	}
}

// P7.4: all functions of open values against all values, and against the model.
func TestOpenValuesOfAnyKind(t *testing.T) {
	d := draw(4)
	for range 2000 {
		l := d.opens(5, 4)
		climber := d.Intn(len(l))
		ranks, e := result.Ranks(l, climber)
		want(t, "the ranks", ranks, modelRanks(l, climber))
		want(t, "the error of Ranks", e, api.OK)
		wantCertificates(t, l, climber, ranks)
	}
	for range 100 {
		l := d.opens(160, 99999)
		climber := d.Intn(len(l))
		ranks, _ := result.Ranks(l, climber)
		wantCertificates(t, l, climber, ranks)
	}
}

// P7.4: CheckWitness and CheckExcluded against the model, with values and bars of any kind.
func TestCertificatesOfAnyKind(t *testing.T) {
	d := draw(5)
	errors := map[api.Errno]int{}
	for range 30000 {
		l := d.opens(4, 6)
		climber, rank := d.Intn(len(l)), 1+d.Intn(len(l))
		var values []int
		for _, o := range l {
			values = append(values, o.Low+d.Intn(o.High-o.Low+1))
		}
		want(t, "CheckWitness", result.CheckWitness(l, climber, rank, values), modelWitness(l, climber, rank, values))
		var bars []result.Bar
		next := l[climber].Low
		for range 1 + d.Intn(3) {
			b := bar(next, next+d.Intn(3), []string{"above", "below"}[d.Intn(2)])
			if d.Intn(3) == 0 {
				b.To = l[climber].High
			}
			if d.Intn(20) == 0 {
				b = bar(d.Intn(7), d.Intn(7), "above")
			}
			bars = append(bars, b)
			next = b.To + 1
		}
		e := result.CheckExcluded(l, climber, rank, bars)
		want(t, "CheckExcluded", e, modelExcluded(l, climber, rank, bars))
		errors[e]++
	}
	want(t, "how many different errors of bars", len(errors), 4)
}
