package scaled_test

import (
	"math"
	"strconv"
	"strings"
	"testing"

	"galley/api"
	"galley/scaled"
)

// reading: a text, and what is read of it.
type reading struct {
	text string
	want answer
}

func tryReadings(t *testing.T, name string, read func(string) (int, api.Errno), l []reading) {
	t.Helper()
	for _, x := range l {
		if got := one(read(x.text)); got != x.want {
			t.Errorf("%s(%q) = %v; want %v", name, x.text, got, x.want)
		}
	}
}

func tryWrong(t *testing.T, name string, read func(string) (int, api.Errno), e api.Errno, texts ...string) {
	t.Helper()
	for _, x := range texts {
		if got := one(read(x)); got != wrong(e) {
			t.Errorf("%s(%q) = %v; want the error %d alone", name, x, got, e)
		}
	}
}

func TestP105(t *testing.T) {
	tryReadings(t, "Decimals", scaled.Decimals, []reading{
		{"", one(0, api.OK)},
		{"0", one(0, api.OK)},
		{"5", one(32768, api.OK)},
		{"50", one(32768, api.OK)},
		{"05", one(3277, api.OK)},
		{"25", one(16384, api.OK)},
		{"1", one(6554, api.OK)},
		{"9", one(58982, api.OK)},
		{"99", one(64881, api.OK)},
		{"00002", one(1, api.OK)},
		{"00001", one(1, api.OK)},
		{"000007", one(0, api.OK)},
		{"000008", one(1, api.OK)},
		{"99998", one(65535, api.OK)},
		{"99999", one(65535, api.OK)},
		{"999992", one(65535, api.OK)},
		{"999993", one(65536, api.OK)},
		{"1234567890", one(8091, api.OK)},
		{"00000762939453125", one(1, api.OK)},
		{"00000762939453124", one(0, api.OK)},
		{"0000076293945312", one(0, api.OK)},
		{"000007629394531249", one(0, api.OK)},
		{"00000762939453124999999999999", one(0, api.OK)},
		{"99999999999999999", one(65536, api.OK)},
		{strings.Repeat("9", 5000), one(65536, api.OK)},
		{strings.Repeat("0", 16) + "9", one(0, api.OK)},
	})
	tryWrong(t, "Decimals", scaled.Decimals, api.ErrDimen, "x", "5x", "x5", "5.", ".5", "-5", "+5", " 5", "5 ", "5\x00", "/", ":", "5\xff", "é", "٣", "5é", "0000000000000000000x", strings.Repeat("9", 17)+"-")
}

func TestP106(t *testing.T) {
	for _, x := range []struct {
		s    int
		want string
	}{
		{0, "0.0"}, {1, "0.00002"}, {-1, "-0.00002"}, {2, "0.00003"}, {3, "0.00005"}, {7, "0.0001"},
		{65536, "1.0"}, {-65536, "-1.0"}, {-98304, "-1.5"}, {65535, "0.99998"}, {65537, "1.00002"}, {65543, "1.0001"},
		{655360, "10.0"}, {6553600, "100.0"}, {4736286, "72.26999"}, {218453, "3.33333"}, {21845, "0.33333"},
		{api.MaxDimen, "16383.99998"}, {-api.MaxDimen, "-16383.99998"}, {api.MaxDimen + 1, "16384.0"},
		{api.MaxNumber, "32767.99998"}, {-api.MaxNumber, "-32767.99998"},
		{api.MaxNumber + 1, ""}, {-api.MaxNumber - 1, ""}, {math.MaxInt, ""}, {math.MinInt, ""},
	} {
		if got := scaled.Print(x.s); got != x.want {
			t.Errorf("Print(%d) = %q; want %q", x.s, got, x.want)
		}
	}
}

// fractionByTheChapter: the digits behind the point, in the steps that P106 names.
func fractionByTheChapter(f int) string {
	var out []byte
	for x, delta := 10*f+5, 10; ; {
		if delta > 65536 {
			x += 32768 - 50000
		}
		out = append(out, "0123456789"[x/65536])
		x, delta = 10*(x%65536), 10*delta
		if x <= delta {
			return string(out)
		}
	}
}

func TestP106Digits(t *testing.T) {
	for f := 0; f < api.Unity; f++ {
		if got, want := scaled.Print(7*api.Unity+f), "7."+fractionByTheChapter(f); got != want {
			t.Fatalf("Print(%d) = %q; want %q", 7*api.Unity+f, got, want)
		}
	}
}

func TestP107(t *testing.T) {
	noughts := strings.Repeat("0", 3000)
	tryReadings(t, "Parse", scaled.Parse, []reading{
		{"0", one(0, api.OK)}, {"-0", one(0, api.OK)}, {"-0.0", one(0, api.OK)}, {"0.00002", one(1, api.OK)}, {"-0.00002", one(-1, api.OK)},
		{"1", one(65536, api.OK)}, {"1.", one(65536, api.OK)}, {".5", one(32768, api.OK)}, {"-.5", one(-32768, api.OK)}, {"-1.", one(-65536, api.OK)},
		{"12.25", one(802816, api.OK)}, {"-12.25", one(-802816, api.OK)}, {"0.99999999", one(65536, api.OK)},
		{noughts + "7", one(7*65536, api.OK)}, {"7." + noughts, one(7*65536, api.OK)}, {"-" + noughts + ".5" + noughts, one(-32768, api.OK)}, {noughts + "." + noughts, one(0, api.OK)}, {"1." + noughts + "9", one(65536, api.OK)},
		{"16383.99998", one(api.MaxDimen, api.OK)}, {"16383.999992", one(api.MaxDimen, api.OK)}, {"-16383.99998", one(-api.MaxDimen, api.OK)}, {"000016383", one(16383*65536, api.OK)},
	})
	tryWrong(t, "Parse", scaled.Parse, api.ErrArith, "16384", "-16384", "16383.999993", "-16383.999993", "16384.", "16384.0", "32768", "65536", "2147483647", "2147483648", "4294967296", "281474976710656", "9223372036854775807", "9223372036854775808", "18446744073709551616", "18446744073709551617", "-18446744073709551617.5", strings.Repeat("9", 4000), "1"+noughts+".5")
	tryWrong(t, "Parse", scaled.Parse, api.ErrDimen, "", "-", ".", "-.", "--1", "+1", "1-", "- 1", " 1", "1 ", "1..", "1.2.3", "..1", "1,5", "1.-5", "1.5-", "-+1", "x", "1x", "1.x", "1.5x", "x1", "1pt", "1e3", "0x10", "1_000", "1\n", "\x001", "\xff", "1\xff", "1.5\xff", "٣", "1.٣", strings.Repeat("9", 40)+"x", "16384pt", strings.Repeat("9", 40)+".5.")
}

func TestP108Units(t *testing.T) {
	tryReadings(t, "Dimen", scaled.Dimen, []reading{
		{"1pt", one(65536, api.OK)}, {"1in", one(4736286, api.OK)}, {"1pc", one(786432, api.OK)}, {"1cm", one(1864679, api.OK)}, {"1mm", one(186467, api.OK)},
		{"1bp", one(65781, api.OK)}, {"1dd", one(70124, api.OK)}, {"1cc", one(841489, api.OK)}, {"1sp", one(1, api.OK)},
		{"12.34567pt", one(809086, api.OK)}, {"12.34567in", one(58472645, api.OK)}, {"12.34567pc", one(9709032, api.OK)}, {"12.34567cm", one(23020726, api.OK)}, {"12.34567mm", one(2302072, api.OK)},
		{"12.34567bp", one(812120, api.OK)}, {"12.34567dd", one(865729, api.OK)}, {"12.34567cc", one(10388748, api.OK)}, {"12.34567sp", one(12, api.OK)},
		{"0.00002pt", one(1, api.OK)}, {"0.00002in", one(72, api.OK)}, {".00002pc", one(12, api.OK)}, {".00002cm", one(28, api.OK)}, {".00002mm", one(2, api.OK)}, {".00002bp", one(1, api.OK)}, {".00002dd", one(1, api.OK)}, {".00002cc", one(12, api.OK)},
		{"3.999999pt", one(262144, api.OK)}, {"3.999999in", one(18945146, api.OK)}, {"3.999999mm", one(745871, api.OK)}, {"3.999999dd", one(280496, api.OK)},
		{"2.5cm", one(4661699, api.OK)}, {"-2.5cm", one(-4661699, api.OK)}, {"-1bp", one(-65781, api.OK)}, {"-1.mm", one(-186467, api.OK)}, {"-.5pt", one(-32768, api.OK)}, {"0in", one(0, api.OK)}, {"-0in", one(0, api.OK)},
		{"3.7sp", one(3, api.OK)}, {"-3.7sp", one(-3, api.OK)}, {".9sp", one(0, api.OK)}, {"3.99999999sp", one(3, api.OK)}, {"-0sp", one(0, api.OK)},
		{strings.Repeat("0", 3000) + "1in", one(4736286, api.OK)}, {"1." + strings.Repeat("0", 3000) + "in", one(4736286, api.OK)},
	})
}

func TestP108Limits(t *testing.T) {
	tryReadings(t, "Dimen", scaled.Dimen, []reading{
		{"16383.99998pt", one(api.MaxDimen, api.OK)}, {"-16383.99998pt", one(-api.MaxDimen, api.OK)}, {"226.7054in", one(1073741768, api.OK)}, {"1365.33333pc", one(1073741820, api.OK)},
		{"575.83174cm", one(1073741822, api.OK)}, {"5758.31742mm", one(1073741822, api.OK)}, {"16322.78954bp", one(api.MaxDimen, api.OK)}, {"-16322.78954bp", one(-api.MaxDimen, api.OK)}, {"15312.02584dd", one(1073741822, api.OK)}, {"1276.00215cc", one(1073741821, api.OK)},
		{"1073741823sp", one(api.MaxDimen, api.OK)}, {"-1073741823sp", one(-api.MaxDimen, api.OK)}, {"1073741823.99999999sp", one(api.MaxDimen, api.OK)}, {"-1073741823.9sp", one(-api.MaxDimen, api.OK)},
	})
	tryWrong(t, "Dimen", scaled.Dimen, api.ErrArith, "16384pt", "-16384pt", "16383.999993pt", "226.70541in", "1365.33334pc", "575.83175cm", "5758.31743mm", "16322.78955bp", "15312.02585dd", "1276.00216cc", "1073741824sp", "-1073741824sp", "1073741824.5sp", "32768pt", "-226.70541in")
	for _, unit := range []string{"pt", "in", "pc", "cm", "mm", "bp", "dd", "cc", "sp"} {
		for _, number := range []string{"2147483647", "2147483648", "4294967296", "281474976710656", "9223372036854775808", "18446744073709551616", "18446744073709551617.5", strings.Repeat("9", 4000)} {
			tryWrong(t, "Dimen", scaled.Dimen, api.ErrArith, number+unit, "-"+number+unit)
		}
	}
}

func TestP108Wrong(t *testing.T) {
	tryWrong(t, "Dimen", scaled.Dimen, api.ErrDimen, "", "-", ".", "pt", "-pt", ".pt", "-.pt", "1", "1.5", "1xx", "1 pt", "1pt ", " 1pt", "1ptx", "1ptpt", "1p", "1t", "1PT", "1Pt", "1em", "1ex", "1truept", "1in.", "1.5.in", "--1pt", "+1pt", "1-pt", "1pt-", "1,5pt", "1pt\x00", "1\xffpt", "1.٣pt", "16384", "16384xx", strings.Repeat("9", 40)+"xx", strings.Repeat("9", 40), "99999999999pt ")
}

// romanDigits: a number's Roman letters, digit by digit.
func romanDigits(n int) string {
	digit := func(d int, low, half, high string) string {
		return []string{"", low, low + low, low + low + low, low + half, half, half + low, half + low + low, half + low + low + low, low + high}[d]
	}
	return strings.Repeat("m", n/1000) + digit(n/100%10, "c", "d", "m") + digit(n/10%10, "x", "l", "c") + digit(n%10, "i", "v", "x")
}

func TestP109(t *testing.T) {
	for n, want := range map[int]string{1994: "mcmxciv", 1: "i", 4: "iv", 9: "ix", 14: "xiv", 40: "xl", 49: "xlix", 90: "xc", 400: "cd", 444: "cdxliv", 900: "cm", 999: "cmxcix", 3888: "mmmdccclxxxviii", 4000: "mmmm", 9000: "mmmmmmmmm", 20000: strings.Repeat("m", 20), 0: "", -1: "", 20001: "", math.MinInt: "", math.MaxInt: ""} {
		if got := scaled.Roman(n); got != want {
			t.Errorf("Roman(%d) = %q; want %q", n, got, want)
		}
	}
	for n := 1; n <= 20000; n++ {
		if got, want := scaled.Roman(n), romanDigits(n); got != want {
			t.Fatalf("Roman(%d) = %q; want %q", n, got, want)
		}
	}
}

func TestP111Back(t *testing.T) {
	for f := 0; f < api.Unity; f++ {
		for _, points := range []int{0, 1, 9, 10, 16383} {
			s := points*api.Unity + f
			for _, s := range []int{s, -s} {
				text := scaled.Print(s)
				if got, e := scaled.Parse(text); got != s || e != api.OK {
					t.Fatalf("Print(%d) = %q; of that Parse makes %d, %d", s, text, got, e)
				}
			}
		}
	}
}

// shortest: of each number of 2^-16 below 1, how many digits it needs; found by going through all decimals.
func shortest(t *testing.T) map[int]int {
	need := map[int]int{}
	for many, tens := 1, 10; many <= 5; many, tens = many+1, 10*tens {
		for n := 0; n < tens; n++ {
			digits := strconv.Itoa(tens + n)[1:]
			f, e := scaled.Decimals(digits)
			if e != api.OK {
				t.Fatalf("Decimals(%q): %d", digits, e)
			}
			if need[f] == 0 {
				need[f] = many
			}
		}
	}
	return need
}

func TestP111Short(t *testing.T) {
	need := shortest(t)
	for f := 0; f < api.Unity; f++ {
		text := scaled.Print(f)
		_, digits, pointed := strings.Cut(text, ".")
		if !pointed || len(digits) != need[f] {
			t.Fatalf("Print(%d) = %q; %d digits are enough", f, text, need[f])
		}
	}
}

// someNumbers: that stand ahead of a unit.
func someNumbers() []string {
	l := []string{"0", "0.00001", "0.00002", "0.0001", ".5", "1", "1.", "1.99999", "2.5", "99.99999", "226.7", "575.8", "1276", "1365.3", "5758", "15312", "16322", "16383.99998", "16384", "99999", "9999999999999"}
	for n := 1; n < api.MaxDimen; n = 3*n + 7 {
		l = append(l, scaled.Print(n))
	}
	return l
}

func TestP113(t *testing.T) {
	for _, n := range someNumbers() {
		for _, n := range []string{n, "-" + n} {
			if got, want := one(scaled.Dimen(n+"pt")), one(scaled.Parse(n)); got != want {
				t.Errorf("Dimen(%spt) = %v; Parse: %v", n, got, want)
			}
		}
		last := api.MaxDimen
		for _, unit := range []string{"in", "cm", "cc", "pc", "mm", "dd", "bp", "pt"} {
			got, e := scaled.Dimen(n + unit)
			if e == api.ErrArith {
				continue
			}
			if e != api.OK || got > last {
				t.Errorf("Dimen(%s%s) = %d, %d; of the unit ahead: %d", n, unit, got, e, last)
			}
			last = got
		}
	}
}
