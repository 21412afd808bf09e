package num_test

import (
	"math/big"
	"regexp"
	"strconv"
	"strings"
	"testing"

	"platen/api"
	"platen/num"
)

// The forms as the document states them.
const (
	digits   = `[0-9](?:_?[0-9])*`
	integer  = `0|[1-9](?:_?[0-9])*`
	exponent = `[eE][+-]?(` + digits + `)`
)

var (
	wholeForm    = regexp.MustCompile(`^(?:` + integer + `)(?:\.(?:` + digits + `)?)?(?:` + exponent + `)?$`)
	fractionForm = regexp.MustCompile(`^\.` + digits + `(?:` + exponent + `)?$`)
	bigForm      = regexp.MustCompile(`^(?:` + integer + `)n$`)
	basedForm    = regexp.MustCompile(`^(?:0[xX][0-9a-fA-F](?:_?[0-9a-fA-F])*|0[oO][0-7](?:_?[0-7])*|0[bB][01](?:_?[01])*)n?$`)
	decimalParts = regexp.MustCompile(`^([0-9]*)(?:\.([0-9]*))?(?:e\+?(-?[0-9]+))?$`)
)

// literal tells whether s has one of the forms.
func literal(s string) bool {
	for _, form := range []*regexp.Regexp{wholeForm, fractionForm} {
		if found := form.FindStringSubmatch(s); found != nil {
			return len(strings.TrimLeft(strings.ReplaceAll(found[1], "_", ""), "0")) <= 9
		}
	}
	return bigForm.MatchString(s) || basedForm.MatchString(s)
}

// number is what a literal denotes: mantissa times ten to the power.
type number struct {
	base     int
	big      bool
	mantissa *big.Int
	power    int
}

// read works out what the literal s denotes.
func read(t *testing.T, s string) number {
	t.Helper()
	plain, isBig := strings.CutSuffix(strings.ToLower(strings.ReplaceAll(s, "_", "")), "n")
	for prefix, base := range map[string]int{"0x": 16, "0o": 8, "0b": 2} {
		if rest, ok := strings.CutPrefix(plain, prefix); ok {
			return number{base, isBig, whole(t, rest, base), 0}
		}
	}
	found := decimalParts.FindStringSubmatch(plain)
	if found == nil {
		t.Fatalf("%q: no parts", s)
	}
	power := 0
	if found[3] != "" {
		power = int(whole(t, found[3], 10).Int64())
	}
	return number{10, isBig, whole(t, found[1]+found[2], 10), power - len(found[2])}
}

func whole(t *testing.T, text string, base int) *big.Int {
	t.Helper()
	n, ok := new(big.Int).SetString(text, base)
	if !ok {
		t.Fatalf("%q: no number of base %d", text, base)
	}
	return n
}

// canon is the normal form of n.
func canon(n number) string {
	end := ""
	if n.big {
		end = "n"
	}
	if prefix, ok := map[int]string{16: "0x", 8: "0o", 2: "0b"}[n.base]; ok {
		return prefix + n.mantissa.Text(n.base) + end
	}
	mantissa, ten := n.mantissa, big.NewInt(10)
	if mantissa.Sign() == 0 {
		return "0" + end
	}
	for {
		quotient, rest := new(big.Int).QuoRem(mantissa, ten, new(big.Int))
		if rest.Sign() != 0 {
			return mantissa.String() + "e" + strconv.Itoa(n.power) + end
		}
		mantissa, n.power = quotient, n.power+1
	}
}

// printed makes the changes that the document lists, one after the other.
func printed(s string) string {
	if basedForm.MatchString(s) {
		upper := strings.ToUpper(s[2:])
		if strings.HasSuffix(upper, "N") {
			upper = upper[:len(upper)-1] + "n"
		}
		return strings.ToLower(s[:2]) + upper
	}
	s = strings.ReplaceAll(strings.ToLower(s), "+", "")
	if s[0] == '.' {
		s = "0" + s
	}
	mantissa, power, hasPower := strings.Cut(s, "e")
	if strings.Contains(mantissa, ".") {
		for mantissa[len(mantissa)-1] == '0' || mantissa[len(mantissa)-1] == '_' {
			mantissa = mantissa[:len(mantissa)-1]
		}
		mantissa = strings.TrimSuffix(mantissa, ".")
	}
	if hasPower {
		return mantissa + "e" + power
	}
	return mantissa
}

// check holds the three calls against what they should answer.
func check(t *testing.T, s, canon, print string, code api.Errno) {
	t.Helper()
	if got := num.Check(s); got != code {
		t.Fatalf("Check(%q) = %d, want %d", s, got, code)
	}
	if got, gotCode := num.Canon(s); got != canon || gotCode != code {
		t.Fatalf("Canon(%q) = %q, %d; want %q, %d", s, got, gotCode, canon, code)
	}
	if got, gotCode := num.Print(s); got != print || gotCode != code {
		t.Fatalf("Print(%q) = %q, %d; want %q, %d", s, got, gotCode, print, code)
	}
}

// checkAgainstForms holds the three calls against the forms of the document.
func checkAgainstForms(t *testing.T, s string) {
	t.Helper()
	if !literal(s) {
		check(t, s, "", "", api.ErrNumForm)
		return
	}
	check(t, s, canon(read(t, s)), printed(s), api.OK)
}

// each calls do with every text of at most most bytes of alphabet.
func each(alphabet string, most int, do func(string)) {
	text := make([]byte, 0, most)
	var grow func()
	grow = func() {
		do(string(text))
		if len(text) == most {
			return
		}
		for i := range len(alphabet) {
			text = append(text, alphabet[i])
			grow()
			text = text[:len(text)-1]
		}
	}
	grow()
}

func TestLiterals(t *testing.T) {
	for _, c := range []struct{ s, canon, print string }{
		// Integer parts.
		{"0", "0", "0"}, {"1", "1e0", "1"}, {"9", "9e0", "9"}, {"10", "1e1", "10"}, {"1200", "12e2", "1200"},
		{"1_0", "1e1", "1_0"}, {"1_2_3", "123e0", "1_2_3"}, {"1_000_000", "1e6", "1_000_000"},
		{"12345678901234567890123", "12345678901234567890123e0", "12345678901234567890123"},
		// Fractions.
		{"0.", "0", "0"}, {"0.0", "0", "0"}, {".0", "0", "0"}, {"5.", "5e0", "5"}, {"50.", "5e1", "50"}, {".5", "5e-1", "0.5"},
		{"0.5", "5e-1", "0.5"}, {".05", "5e-2", "0.05"}, {"1.5", "15e-1", "1.5"}, {"1.50", "15e-1", "1.5"}, {"1.00", "1e0", "1"},
		{"10.00", "1e1", "10"}, {"10.01", "1001e-2", "10.01"}, {".00100", "1e-3", "0.001"}, {"1_000.50", "10005e-1", "1_000.5"},
		{"1.2_0", "12e-1", "1.2"}, {"1.2_00", "12e-1", "1.2"}, {"1.20_00", "12e-1", "1.2"}, {"1.2_0_0", "12e-1", "1.2"},
		{"1.0_0", "1e0", "1"}, {"1.0_0_0", "1e0", "1"}, {".0_0", "0", "0"}, {"1.0_2", "102e-2", "1.0_2"}, {"0.0_1", "1e-2", "0.0_1"},
		{"1_0.0", "1e1", "1_0"}, {"1.2_3", "123e-2", "1.2_3"},
		// Exponents.
		{"1e3", "1e3", "1e3"}, {"1E3", "1e3", "1e3"}, {"1e+3", "1e3", "1e3"}, {"1E-3", "1e-3", "1e-3"}, {"1.0e3", "1e3", "1e3"},
		{"5.e3", "5e3", "5e3"}, {"5.E+3", "5e3", "5e3"}, {".5E+10", "5e9", "0.5e10"}, {".5e-1", "5e-2", "0.5e-1"}, {"0e0", "0", "0e0"},
		{"0.0e9", "0", "0e9"}, {"0E-9", "0", "0e-9"}, {"1e0", "1e0", "1e0"}, {"1e-0", "1e0", "1e-0"}, {"1e+0", "1e0", "1e0"},
		{"1e00", "1e0", "1e00"}, {"1e+007", "1e7", "1e007"}, {"1e1_0", "1e10", "1e1_0"}, {"1e-1_0", "1e-10", "1e-1_0"},
		{"1e0_1", "1e1", "1e0_1"}, {"1000e-3", "1e0", "1000e-3"}, {"12.50e1", "125e0", "12.5e1"}, {"12.5e-1", "125e-2", "12.5e-1"},
		{"1e10", "1e10", "1e10"}, {"1.e1_0", "1e10", "1e1_0"}, {"9e99", "9e99", "9e99"},
		{"1e999999999", "1e999999999", "1e999999999"}, {"1E-999999999", "1e-999999999", "1e-999999999"},
		{"10e999999999", "1e1000000000", "10e999999999"}, {".1e-999999999", "1e-1000000000", "0.1e-999999999"},
		{"1e+0000999999999", "1e999999999", "1e0000999999999"}, {"1e999_999_999", "1e999999999", "1e999_999_999"},
		{"1e0_0_9_99999999", "1e999999999", "1e0_0_9_99999999"}, {"1e00000000000000", "1e0", "1e00000000000000"},
		{"1e100000000", "1e100000000", "1e100000000"},
		// Bases.
		{"0x0", "0x0", "0x0"}, {"0X0", "0x0", "0x0"}, {"0XfF", "0xff", "0xFF"}, {"0xabcdefABCDEF", "0xabcdefabcdef", "0xABCDEFABCDEF"},
		{"0x00", "0x0", "0x00"}, {"0x00a0", "0xa0", "0x00A0"}, {"0x0_0a_B", "0xab", "0x0_0A_B"}, {"0x1e5", "0x1e5", "0x1E5"},
		{"0xE", "0xe", "0xE"}, {"0xb1", "0xb1", "0xB1"}, {"0Xb", "0xb", "0xB"}, {"0o0", "0o0", "0o0"}, {"0O17", "0o17", "0o17"},
		{"0o0_7", "0o7", "0o0_7"}, {"0b0", "0b0", "0b0"}, {"0B1", "0b1", "0b1"}, {"0b0010", "0b10", "0b0010"}, {"0b1_0_1", "0b101", "0b1_0_1"},
		{"0xffffffffffffffffffffff", "0xffffffffffffffffffffff", "0xFFFFFFFFFFFFFFFFFFFFFF"},
		// Big ones.
		{"0n", "0n", "0n"}, {"1n", "1e0n", "1n"}, {"12n", "12e0n", "12n"}, {"1_000n", "1e3n", "1_000n"}, {"0x0n", "0x0n", "0x0n"},
		{"0XAbn", "0xabn", "0xABn"}, {"0o0_1n", "0o1n", "0o0_1n"}, {"0B1n", "0b1n", "0b1n"}, {"0b0n", "0b0n", "0b0n"},
	} {
		check(t, c.s, c.canon, c.print, api.OK)
	}
}

func TestNoLiterals(t *testing.T) {
	for _, s := range []string{
		"", " ", "_", ".", "-", "+", "e", "n", "x", "a", "_1", "+1", "-1", " 1", "1 ", "1\n", "1\x00", "\x001", "1\xff", "\xff",
		// Leading zeros.
		"00", "01", "08", "007", "00.5", "09.5", "01e5", "00n", "01n", "00x1",
		// Where _ may not stand.
		"1_", "1__0", "0_", "0_1", "0_0", "0_.5", "1_.5", "1._5", "1.5_", "1.5__0", "._5", ".5_", "._", "1_e3", "1._e3", "1.5_e3", "1e_3",
		"1e3_", "1e3__0", "1e+_3", "1e_+3", "0_x1", "0x_", "0x_1", "0x1_", "0x1__0", "0b_1", "0o_7", "1_n", "0_n", "0x1_n", "0x_n",
		// What is left out, or stands too often.
		"1.e", "1e", "1E", "1e+", "1e-", ".e1", "e5", ".n", "0x", "0o", "0b", "0xn", "0on", "0bn", "0X", "1..", "1..5", "1.5.", ".5.5",
		"..5", "1e5.5", "1e5.", "1e+-5", "1e++5", "1e5e5", "1e5+", "1ee5", "1nn", "0x1nn", "0x0x1", "0xx1",
		// Digits that the base doesn't have, and points and exponents behind a base.
		"0b2", "0b12", "0b1a", "0o8", "0o18", "0o7f", "0xg", "0x1g", "0x1.5", "0x.5", "0x1.", "0x1e+5", "0b1e1", "0o1e1", "0b1.0",
		"1a", "1x", "1x1", "1o1", "1b1", "0a", "0z", "0c1", "0y1", "0p1", "2b1", "10x1",
		// Big ones that are none.
		"1N", "0x1N", "1.0n", "1.n", ".5n", "1e3n", "1e0n", "0e0n", "1n0", "1n.", "1n_", "1ne1", "0.n", "0N", "n1",
		// Exponents of more than nine digits.
		"1e1000000000", "1e-1000000000", "1e1_000_000_000", "1e0001000000000", "1e+0_1000000000", "1e9999999999", "0e1000000000", "0.0e1234567890",
		"1e1_0_0_0_0_0_0_0_0_0", "1e18446744073709551616", "1e99999999999999999999999999",
		// Characters that are digits elsewhere.
		"\uff11", "1\uff11", "\u0661", "1\u0660", "0x\uff21", "1\u2028", "\ufeff1", "1\u00a0", "\u2212" + "1",
		"Infinity", "NaN", "0x1p3", "1f", "1L", "1,000", "1'000", "#1", "$1", "1$",
	} {
		check(t, s, "", "", api.ErrNumForm)
	}
}

func TestShortTextsOfAllBytes(t *testing.T) {
	for a := range 256 {
		checkAgainstForms(t, string([]byte{byte(a)}))
		for b := range 256 {
			checkAgainstForms(t, string([]byte{byte(a), byte(b)}))
		}
	}
}

// TestOneByteInPlace puts every byte into every place of some literals, ahead
// of what stands there and instead of it.
func TestOneByteInPlace(t *testing.T) {
	for _, s := range []string{
		"0", "10", "1_0", "0.5", ".5", "5.", "12.3_0e+4_5", "1e999999999", ".1E-0_1", "12n", "0n", "0x0aF_3", "0X9n", "0o17", "0O7_0n", "0b1_0", "0B1n",
	} {
		for at := range len(s) + 1 {
			for b := range 256 {
				checkAgainstForms(t, s[:at]+string([]byte{byte(b)})+s[at:])
				if at < len(s) {
					checkAgainstForms(t, s[:at]+string([]byte{byte(b)})+s[at+1:])
				}
			}
		}
	}
}

func TestTextsOfFewBytes(t *testing.T) {
	check := func(s string) { checkAgainstForms(t, s) }
	each("0179afgAFGxXoObBeEnN_.+- ", 3, check)
	each("01_.e-n", 6, check)
	each("0xX9aFn_", 5, check)
	each("01_.", 8, check)
}

// TestExponents goes about the border of the nine digits.
func TestExponents(t *testing.T) {
	for _, ahead := range []string{"1", "0", "120.", "0.00", ".120", "1_0.0_1"} {
		for _, sign := range []string{"e", "E+", "e-"} {
			for zeros := range 12 {
				for _, digit := range []string{"1", "9"} {
					for places := range 12 {
						text := strings.Repeat("0", zeros) + strings.Repeat(digit, places)
						checkAgainstForms(t, ahead+sign+text)
						checkAgainstForms(t, ahead+sign+strings.Join(strings.Split(text, ""), "_"))
					}
				}
			}
		}
	}
}

// literals are the literals among the texts of few bytes: plenty of them
// denote the same number.
func literals() []string {
	var list []string
	keep := func(s string) {
		if literal(s) {
			list = append(list, s)
		}
	}
	each("012_.e-n", 6, keep)
	for _, prefix := range []string{"0x", "0X", "0o", "0B"} {
		each("01aA_n", 4, func(s string) { keep(prefix + s) })
	}
	return list
}

func TestPrintKeepsCanon(t *testing.T) {
	for _, s := range literals() {
		once, code := num.Print(s)
		if code != api.OK {
			t.Fatalf("Print(%q): %d", s, code)
		}
		twice, code := num.Print(once)
		if code != api.OK || twice != once {
			t.Fatalf("Print(%q) = %q, and of that %q, %d", s, once, twice, code)
		}
		before, _ := num.Canon(s)
		after, code := num.Canon(once)
		if code != api.OK || before != after {
			t.Fatalf("Canon(%q) = %q, but %q, %d of Print's %q", s, before, after, code, once)
		}
	}
}

// value tells numbers apart as fractions of whole numbers.
func value(n number) string {
	shift := new(big.Int).Exp(big.NewInt(10), big.NewInt(int64(max(n.power, -n.power))), nil)
	ratio := new(big.Rat).SetInt(n.mantissa)
	if n.power < 0 {
		ratio.Quo(ratio, new(big.Rat).SetInt(shift))
	} else {
		ratio.Mul(ratio, new(big.Rat).SetInt(shift))
	}
	return strconv.Itoa(n.base) + strconv.FormatBool(n.big) + ratio.String()
}

func TestCanonTellsNumbersApart(t *testing.T) {
	forms, values := map[string]string{}, map[string]string{}
	for _, s := range literals() {
		n := read(t, s)
		if n.power > 40 || n.power < -40 {
			continue
		}
		form, _ := num.Canon(s)
		key := value(n)
		if other, ok := forms[key]; ok && other != form {
			t.Fatalf("%q: Canon is %q, but %q for the same number", s, form, other)
		}
		if other, ok := values[form]; ok && other != key {
			t.Fatalf("%q: Canon is %q, for %s and for %s", s, form, key, other)
		}
		forms[key], values[form] = form, key
	}
	if len(forms) < 500 {
		t.Fatalf("only %d numbers", len(forms))
	}
}

func TestLongTexts(t *testing.T) {
	const size = api.MaxText
	zeros, nines := strings.Repeat("0", size), strings.Repeat("9", size)
	gaps := strings.Repeat("_0", size/2)
	power := strconv.Itoa(size)
	for _, c := range []struct{ s, canon, print string }{
		{"1" + zeros, "1e" + power, "1" + zeros},
		{nines, nines + "e0", nines},
		{nines + "n", nines + "e0n", nines + "n"},
		{"." + zeros, "0", "0"},
		{"." + zeros + "1", "1e-" + strconv.Itoa(size+1), "0." + zeros + "1"},
		{"1." + zeros + "E+1", "1e1", "1e1"},
		{"1.5" + gaps, "15e-1", "1.5"},
		{"1" + gaps, "1e" + strconv.Itoa(size/2), "1" + gaps},
		{"1e" + zeros + "7", "1e7", "1e" + zeros + "7"},
		{"1e-" + zeros + "999999999", "1e-999999999", "1e-" + zeros + "999999999"},
		{"1" + zeros + "e999999999", "1e" + strconv.Itoa(999999999+size), "1" + zeros + "e999999999"},
		{"." + zeros + "1e-999999999", "1e-" + strconv.Itoa(1000000000+size), "0." + zeros + "1e-999999999"},
		{"0X" + zeros + "aB", "0xab", "0x" + zeros + "AB"},
		{"0x" + zeros + "n", "0x0n", "0x" + zeros + "n"},
		{"0b1" + gaps, "0b1" + strings.Repeat("0", size/2), "0b1" + gaps},
	} {
		// The texts are too long to be told.
		if form, code := num.Canon(c.s); form != c.canon || code != api.OK {
			t.Errorf("Canon(%.9q...) is wrong: %d", c.s, code)
		}
		if text, code := num.Print(c.s); text != c.print || code != api.OK {
			t.Errorf("Print(%.9q...) is wrong: %d", c.s, code)
		}
	}
	for _, s := range []string{zeros, "1e" + nines, "1e1" + zeros, "1" + gaps + "_", "0x" + nines + "g", nines + ".n", "0b" + zeros + "2"} {
		if num.Check(s) != api.ErrNumForm {
			t.Errorf("Check(%.9q...) = 0", s)
		}
	}
}
