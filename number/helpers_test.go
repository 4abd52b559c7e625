package number

import (
	"math/big"
	"math/rand"
	"reflect"
	"strings"
	"testing"

	"crux/api"
)

// want reports a result that is not the wanted one. Nil and empty lists are equal.
func want(t *testing.T, what string, got, wanted any) {
	t.Helper()
	x, y := reflect.ValueOf(got), reflect.ValueOf(wanted)
	if x.Kind() == reflect.Slice && x.Type() == y.Type() && x.Len() == 0 && y.Len() == 0 {
		return
	}
	if !reflect.DeepEqual(got, wanted) {
		t.Errorf("%s: got %v, want %v", what, got, wanted)
	}
}

// nines returns the text of n digits 9.
func nines(n int) api.Rat {
	return api.Rat(strings.Repeat("9", n))
}

// power returns the text of 10 to the power of n, which has n + 1 digits.
func power(n int) api.Rat {
	return api.Rat("1" + strings.Repeat("0", n))
}

func span(low, high api.Rat) api.Span {
	return api.Span{Low: low, High: high}
}

// bigRat returns the number with a text.
func bigRat(t *testing.T, a api.Rat) *big.Rat {
	t.Helper()
	x, ok := new(big.Rat).SetString(string(a))
	if !ok {
		t.Fatalf("%q is not a number", a)
	}
	return x
}

func textOf(a *big.Rat) api.Rat {
	return api.Rat(a.RatString())
}

// randomRat returns a number whose numerator and denominator have up to n digits; often it is a small one.
func randomRat(r *rand.Rand, n int) *big.Rat {
	digits := 1 + r.Intn(n)
	if r.Intn(2) == 0 {
		digits = 1
	}
	limit := new(big.Int).Exp(big.NewInt(10), big.NewInt(int64(digits)), nil)
	num, den := new(big.Int).Rand(r, limit), new(big.Int).Rand(r, limit)
	if r.Intn(2) == 0 {
		num.Neg(num)
	}
	return new(big.Rat).SetFrac(num, den.Add(den, big.NewInt(1)))
}

// randomSpan returns a span.
func randomSpan(r *rand.Rand, n int) api.Span {
	x, y := randomRat(r, n), randomRat(r, n)
	if x.Cmp(y) > 0 {
		x, y = y, x
	}
	return span(textOf(x), textOf(y))
}

// fits reports whether a number has at most MaxDigits digits in its numerator and its denominator.
func fits(a *big.Rat) bool {
	return len(new(big.Int).Abs(a.Num()).String()) <= api.MaxDigits && len(a.Denom().String()) <= api.MaxDigits
}

// wrongNumbers are texts with the errors that Check has for them.
func wrongNumbers() map[api.Rat]api.Errno {
	return map[api.Rat]api.Errno{
		"":                            api.ErrForm,
		"-":                           api.ErrForm,
		"+1":                          api.ErrForm,
		" 1":                          api.ErrForm,
		"1 ":                          api.ErrForm,
		"1\n":                         api.ErrForm,
		"a":                           api.ErrForm,
		"1.5":                         api.ErrForm,
		"1e3":                         api.ErrForm,
		"0x1":                         api.ErrForm,
		"1_000":                       api.ErrForm,
		"\u0661":                      api.ErrForm, // a digit, but not a decimal one of ASCII
		"\xff":                        api.ErrForm,
		"-0":                          api.ErrForm,
		"00":                          api.ErrForm,
		"01":                          api.ErrForm,
		"-01":                         api.ErrForm,
		"--1":                         api.ErrForm,
		"/":                           api.ErrForm,
		"/2":                          api.ErrForm,
		"1/":                          api.ErrForm,
		"-/2":                         api.ErrForm,
		"1//2":                        api.ErrForm,
		"1/2/3":                       api.ErrForm,
		"1/-2":                        api.ErrForm,
		"1/+2":                        api.ErrForm,
		"1/02":                        api.ErrForm,
		"01/2":                        api.ErrForm,
		"1/0":                         api.ErrForm,
		"1/1":                         api.ErrForm,
		"0/1":                         api.ErrForm,
		"0/5":                         api.ErrForm,
		"-0/5":                        api.ErrForm,
		"2/4":                         api.ErrForm,
		"-6/9":                        api.ErrForm,
		"5/5":                         api.ErrForm,
		nines(601):                    api.ErrLarge,
		"-" + nines(601):              api.ErrLarge,
		power(600):                    api.ErrLarge,
		"1/" + nines(601):             api.ErrLarge,
		nines(601) + "/2":             api.ErrLarge,
		"0/" + nines(601):             api.ErrLarge, // digits are looked at ahead of common divisors
		"2/" + power(600):             api.ErrLarge,
		nines(601) + "/" + power(10):  api.ErrLarge,
		"0" + nines(601):              api.ErrForm, // and behind the form
		nines(601) + "/1":             api.ErrForm,
		nines(601) + "/0":             api.ErrForm,
		"-0/" + nines(601):            api.ErrForm,
		nines(601) + "x":              api.ErrForm,
		nines(600) + "/" + nines(600): api.ErrForm,
		nines(600) + "/" + nines(300): api.ErrForm,
	}
}
