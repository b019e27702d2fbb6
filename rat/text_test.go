package rat_test

import (
	"math"
	"math/big"
	"math/rand"
	"strings"
	"testing"

	"tallymark/api"
	"tallymark/nat"
	"tallymark/rat"
	"tallymark/whole"
)

// P7.3: what is above the line, and "/" and what is below it but of whole
// numbers; and back.
func TestText(t *testing.T) {
	for _, x := range samples() {
		want := value(x).RatString()
		if got := x.Text(); got != want {
			t.Errorf("Text %s, not %s", got, want)
		}
		back(t, x)
	}
	chance := rand.New(rand.NewSource(5))
	for range 500 {
		back(t, some(chance, 12))
	}
}

func back(t *testing.T, x rat.Rat) {
	t.Helper()
	y, e := rat.Parse(x.Text())
	if e != api.OK || rat.Cmp(x, y) != 0 || y.Text() != x.Text() {
		t.Fatalf("%s: %s, %d", x.Text(), y.Text(), e)
	}
	is(t, "back", y, value(x))
}

// P7.3: texts that are known.
func TestTextKnown(t *testing.T) {
	for _, x := range []struct {
		x    rat.Rat
		want string
	}{
		{rat.Rat{}, "0"}, {rat.Of(1), "1"}, {rat.Of(-1), "-1"}, {frac(6, 3), "2"}, {frac(-6, 3), "-2"},
		{frac(1, 2), "1/2"}, {frac(-1, 2), "-1/2"}, {frac(1, -2), "-1/2"}, {frac(10, 4), "5/2"},
		{rat.Of(math.MinInt), "-9223372036854775808"}, {frac(1, math.MinInt), "-1/9223372036854775808"},
		{rat.Nat(nat.Of(0, 1)), "18446744073709551616"},
	} {
		if got := x.x.Text(); got != x.want {
			t.Errorf("Text %s, not %s", got, x.want)
		}
		y, e := rat.Parse(x.want)
		if e != api.OK || rat.Cmp(x.x, y) != 0 {
			t.Errorf("Parse(%s): %s, %d", x.want, y.Text(), e)
		}
	}
}

// P7.3: of all short texts just those are read that are a Text.
func TestParseShort(t *testing.T) {
	const bytes = "-/0123x"
	texts := []string{""}
	for range 5 {
		var longer []string
		for _, s := range texts {
			x, e := rat.Parse(s)
			if want, ok := read(s); ok {
				if e != api.OK || x.Text() != s {
					t.Fatalf("Parse(%q): %s, %d", s, x.Text(), e)
				}
				is(t, "Parse", x, want)
			} else {
				none(t, s, x, e, api.ErrForm)
			}
			for _, c := range bytes {
				longer = append(longer, s+string(c))
			}
		}
		texts = longer
	}
}

// read asks the library whether a text is one of a fraction.
func read(s string) (*big.Rat, bool) {
	x, ok := new(big.Rat).SetString(s)
	return x, ok && x.RatString() == s
}

// P7.3: what isn't just a Text.
func TestParseErrors(t *testing.T) {
	for _, s := range []string{
		"", "/", "//", "1/", "/1", "-/1", "-1/", "/-", "-", "--1", "--1/2",
		"2/4", "-2/4", "6/3", "6/4", "1/1", "-1/1", "0/1", "0/5", "2/1", "0/0", "1/0", "-1/0", "2/2", "18446744073709551616/2",
		"-0", "-0/1", "-0/5", "1/-2", "-1/-2", "1/-0", "1/+2", "+1/2", "+1", "1/--2",
		"1/2/3", "1//2", "1/2/", "/1/2", "1/1/2", "5/3/1",
		"01", "00", "-01", "01/2", "1/02", "00/1", "1/00", "-01/2", "1/01",
		" 1/2", "1/2 ", "1 /2", "1/ 2", "1.5", "1/2.0", "1e3", "0x1", "1_0", "½", "1÷2", "1\x00/2", "1/2\x00", "a/b", "1:2", "−1/2",
		strings.Repeat("1", 1999) + "x", "1/" + strings.Repeat("0", 2000), "1/" + strings.Repeat("2", 1999) + "/", "2/" + strings.Repeat("2", 2000),
	} {
		x, e := rat.Parse(s)
		none(t, s, x, e, api.ErrForm)
	}
}

// P7.3: layer 5 reads 2000 bytes above the line, behind a -, and as many below
// it; its errors, above the line first, go ahead of ErrForm.
func TestParseLong(t *testing.T) {
	long, most := strings.Repeat("7", 2001), strings.Repeat("7", 2000)
	for _, s := range []string{
		long, "-" + long, long + "x", long + "/", long + "/2", long + "/0", long + "/x", long + "/" + long, "-" + long + "/2",
		strings.Repeat("x", 2001), strings.Repeat("0", 2001), strings.Repeat("-", 2002), strings.Repeat("x", 2001) + "/2",
		"1/" + long, "-1/" + long, "7/" + long, "0/" + long, most + "/" + long, "1/" + strings.Repeat("x", 2001), "1/" + strings.Repeat("0", 2001), "1/-" + most,
	} {
		x, e := rat.Parse(s)
		none(t, s, x, e, api.ErrSize)
	}
	for _, s := range []string{"x/" + long, "/" + long, "-/" + long, "-0/" + long, "01/" + long, "1x/" + strings.Repeat("x", 2001)} {
		x, e := rat.Parse(s)
		none(t, s, x, e, api.ErrForm)
	}
	for _, s := range []string{most, "-" + most, "1/" + most, "-1/" + most, most + "/2", "-" + most[1:] + "8/" + most[1:] + "9", most[1:] + "8/" + most} {
		want, ok := read(s)
		x, e := rat.Parse(s)
		if !ok || e != api.OK || x.Text() != s {
			t.Fatalf("%d bytes: %v, %d", len(s), ok, e)
		}
		is(t, "Parse", x, want)
	}
}

// P7.3: a Text that is longer than layer 5 reads is told, and isn't read.
func TestTextLong(t *testing.T) {
	ten, e := nat.Pow(nat.Of(10), 1999)
	if e != api.OK {
		t.Fatal(e)
	}
	x := rat.Nat(ten)
	back(t, x)
	more := rat.Mul(x, rat.Of(-10))
	if s := more.Text(); s != "-1"+strings.Repeat("0", 2000) {
		t.Errorf("Text has %d bytes", len(s))
	}
	y, e := rat.Parse(more.Text())
	none(t, "10 to the 2000", y, e, api.ErrSize)
	less, _ := rat.Frac(whole.Of(1), more.Num())
	y, e = rat.Parse(less.Text())
	none(t, "1 by 10 to the 2000", y, e, api.ErrSize)
}
