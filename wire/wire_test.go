package wire_test

import (
	"math"
	"slices"
	"strings"
	"testing"

	"kitbag/wire"
)

// kinds are the five kinds of values: each reads one value and returns its encoding, and whether it is the zero value.
var kinds = map[string]func(r *wire.Reader) (encoding string, zero bool){
	"Num":   func(r *wire.Reader) (string, bool) { n := r.Num(); return wire.Num(n), n == 0 },
	"Int":   func(r *wire.Reader) (string, bool) { n := r.Int(); return wire.Int(n), n == 0 },
	"Text":  func(r *wire.Reader) (string, bool) { s := r.Text(); return wire.Text(s), s == "" },
	"Nums":  func(r *wire.Reader) (string, bool) { l := r.Nums(); return wire.Nums(l), len(l) == 0 },
	"Texts": func(r *wire.Reader) (string, bool) { l := r.Texts(); return wire.Texts(l), len(l) == 0 },
}

// checkFailed checks that a reader has failed, and that every later call says so (P1.2).
func checkFailed(t *testing.T, what string, r *wire.Reader) {
	t.Helper()
	for range 2 {
		if r.Left() != 0 || r.Done() || r.Rest() != "" {
			t.Errorf("%s: the reader has not failed", what)
		}
		for name, read := range kinds {
			if _, zero := read(r); !zero || r.Left() != 0 || r.Done() {
				t.Errorf("%s: %s of a failed reader", what, name)
			}
		}
	}
}

// P1.1

func TestNumIsWritten(t *testing.T) {
	for n, want := range map[int]string{0: "0;", 7: "7;", 10: "10;", 300: "300;", math.MaxInt: "9223372036854775807;", -1: "", -300: "", math.MinInt: ""} {
		if got := wire.Num(n); got != want {
			t.Errorf("Num(%d) = %q, want %q", n, got, want)
		}
	}
}

func TestIntIsWritten(t *testing.T) {
	for n, want := range map[int]string{0: "0;", 7: "7;", -7: "-7;", -10: "-10;", 1 << 40: "1099511627776;", math.MaxInt: "9223372036854775807;", math.MinInt: "-9223372036854775808;"} {
		if got := wire.Int(n); got != want {
			t.Errorf("Int(%d) = %q, want %q", n, got, want)
		}
	}
}

func TestTextIsWritten(t *testing.T) {
	for s, want := range map[string]string{
		"":                       "0:,",
		"a,b":                    "3:a,b,",
		"3:a,b,":                 "6:3:a,b,,",
		"2[1;-1;]":               "8:2[1;-1;],",
		"\u00e9":                 "2:\u00e9,", // the length counts bytes
		"\x00\xff\n":             "3:\x00\xff\n,",
		strings.Repeat("x", 123): "123:" + strings.Repeat("x", 123) + ",",
	} {
		if got := wire.Text(s); got != want {
			t.Errorf("Text(%q) = %q, want %q", s, got, want)
		}
	}
}

func TestListsAreWritten(t *testing.T) {
	for _, c := range []struct{ got, want string }{
		{wire.Nums(nil), "0[]"},
		{wire.Nums([]int{}), "0[]"},
		{wire.Nums([]int{1, -1}), "2[1;-1;]"},
		{wire.Nums([]int{math.MinInt, 0, math.MaxInt}), "3[-9223372036854775808;0;9223372036854775807;]"},
		{wire.Nums(make([]int, 12)), "12[" + strings.Repeat("0;", 12) + "]"},
		{wire.Nums([]int{5, 6, 7}[:1]), "1[5;]"}, // what is beyond the length is not written (P3)
		{wire.Texts(nil), "0[]"},
		{wire.Texts([]string{}), "0[]"},
		{wire.Texts([]string{""}), "1[0:,]"},
		{wire.Texts([]string{"b", "", "]"}), "3[1:b,0:,1:],]"},
		{wire.Texts([]string{"x", "y"}[:1]), "1[1:x,]"},
	} {
		if c.got != c.want {
			t.Errorf("got %q, want %q", c.got, c.want)
		}
	}
}

// P1.2

func TestValuesAreReadInOrder(t *testing.T) {
	const s = "12;0;-12;0;3:a,b,0:,2[1;-1;]0[]2[0:,1:],]0[]rest"
	r := wire.Open(s)
	at := 0
	check := func(ok bool, next int) {
		t.Helper()
		at += next
		if !ok || r.Left() != len(s)-at || r.Done() {
			t.Errorf("before the byte %d: %v, %d bytes left", at, ok, r.Left())
		}
	}
	check(true, 0)
	check(r.Num() == 12, 3)
	check(r.Num() == 0, 2)
	check(r.Int() == -12, 4)
	check(r.Int() == 0, 2)
	check(r.Text() == "a,b", 6)
	check(r.Text() == "", 3)
	check(slices.Equal(r.Nums(), []int{1, -1}), 8)
	check(len(r.Nums()) == 0, 3)
	check(slices.Equal(r.Texts(), []string{"", "]"}), 10)
	check(len(r.Texts()) == 0, 3)
	if r.Rest() != "rest" || r.Left() != 0 || !r.Done() || r.Rest() != "" || !r.Done() {
		t.Error("the rest")
	}
	if r.Int() != 0 {
		t.Error("an int after the end")
	}
	checkFailed(t, "after the end", r)
}

func TestLimitsAreRead(t *testing.T) {
	r := wire.Open("9223372036854775807;-9223372036854775808;9223372036854775807;2[-9223372036854775808;9223372036854775807;]")
	if r.Num() != math.MaxInt || r.Int() != math.MinInt || r.Int() != math.MaxInt || !slices.Equal(r.Nums(), []int{math.MinInt, math.MaxInt}) || !r.Done() {
		t.Error("the least and the greatest int")
	}
}

func TestWhatIsNoEncodingFails(t *testing.T) {
	badInts := []string{"", ";", "-;", "--1;", "-0;", "00;", "01;", "007;", "-01;", "+1;", "+0;", " 1;", "1 ;", "1_0;", "0x1;", "1e1;", "1.0;", "1", "12", "1,", "1:", "a1;", "1a;",
		"9223372036854775808;", "-9223372036854775809;", "18446744073709551617;", "123456789012345678901234;", "00000000000000000000000001;", "\u0661;"}
	badTexts := []string{"", ":", ",", ":,", "1", "1:", "1:a", "1:a;", "1:ab", "2:a,", "0:", "0,", "0;", "0:a,", "01:a,", "00:,", "-0:,", "-1:a,", "-1:,", "+1:a,", "1;a,", "1[a,", "a:b,",
		"9223372036854775807:,", "9223372036854775807:a,", "9223372036854775808:,", "-9223372036854775808:,", "18446744073709551617:a,"}
	badLists := []string{"", "[", "[]", "0", "0[", "0]", "0;", "1[]", "00[]", "01[0;]", "-0[]", "-1[]", "+0[]", "0[)", "0[ ]", "9223372036854775807[]", "9223372036854775808[]", "-9223372036854775808[]"}
	badNums := append([]string{"1[1;", "1[1", "1[1;,", "1[1;2;]", "2[1;]", "2[1;", "2[1;2", "1[01;]", "1[-0;]", "1[1:a,]", "1[1,]", "1:1;]", "0[1;]", "2[x;1;]", "2[1;x;]", "2[1;2;}", "9223372036854775807[1;]"}, badLists...)
	badStrings := append([]string{"1[0:,", "1[0:", "1[0:,,", "1[1:a,1:b,]", "2[1:a,]", "2[1:a,", "2[1:a,1:b", "1[01:a,]", "1[1;]", "1[1:]", "1[-1:a,]", "0[0:,]", "2[x:,0:,]", "2[0:,2:x,]", "9223372036854775807[0:,]"}, badLists...)
	for name, l := range map[string][]string{"Num": append([]string{"-1;", "-9223372036854775808;"}, badInts...), "Int": badInts, "Text": badTexts, "Nums": badNums, "Texts": badStrings} {
		for _, s := range l {
			// What follows does not help, unless it completes what has no end.
			for _, after := range []string{"", "|1;0:,0[]"} {
				r := wire.Open(s + after)
				if _, zero := kinds[name](r); !zero {
					t.Errorf("%s of %q returns a value", name, s+after)
				}
				checkFailed(t, name+" of "+s+after, r)
			}
		}
	}
}

func TestAFailureIsForEver(t *testing.T) {
	r := wire.Open("1;2[7;x]5;1:a,0[]")
	if r.Num() != 1 || r.Left() != 15 || len(r.Nums()) != 0 {
		t.Error("a list with an element that is none")
	}
	checkFailed(t, "after a list", r)
}

func TestTheLongestListThatIsMissingFailsAtOnce(t *testing.T) {
	for range 1000 {
		if r := wire.Open("9223372036854775807[1;1;"); len(r.Nums()) != 0 || r.Done() {
			t.Fatal("nums")
		}
		if r := wire.Open("9223372036854775807[0:,0:,"); len(r.Texts()) != 0 || r.Done() {
			t.Fatal("texts")
		}
	}
}

func TestRestAndDone(t *testing.T) {
	if r := wire.Open(""); !r.Done() || r.Left() != 0 || r.Rest() != "" || !r.Done() {
		t.Error("an empty string")
	}
	if r := wire.Open("x\xff"); r.Done() || r.Left() != 2 || r.Rest() != "x\xff" || r.Left() != 0 || !r.Done() {
		t.Error("the rest of what is no encoding")
	}
	r := wire.Open("x")
	if r.Num() != 0 {
		t.Error("a number that is none")
	}
	checkFailed(t, "rest", r)
}

// P1.3

func TestArgumentsAreNotModified(t *testing.T) {
	nums, texts := []int{3, -1, 2}, []string{"b", "", "a"}
	wire.Nums(nums[:2])
	wire.Texts(texts[:2])
	if !slices.Equal(nums, []int{3, -1, 2}) || !slices.Equal(texts, []string{"b", "", "a"}) {
		t.Error(nums, texts)
	}
}

func TestResultsAreFresh(t *testing.T) {
	const s = "2[1;2;]2[3;4;]2[1:a,1:b,]2[1:c,1:d,]"
	r, other := wire.Open(s), wire.Open(s)
	n1, n2, t1, t2 := r.Nums(), r.Nums(), r.Texts(), r.Texts()
	if !slices.Equal(n1, []int{1, 2}) || !slices.Equal(t1, []string{"a", "b"}) {
		t.Fatal(n1, t1)
	}
	n1[1], t1[1] = 9, "z"
	_, _ = append(n1, 8), append(t1, "y")
	if !slices.Equal(n2, []int{3, 4}) || !slices.Equal(t2, []string{"c", "d"}) {
		t.Error("two results share memory")
	}
	if !slices.Equal(other.Nums(), []int{1, 2}) || other.Left() != len(s)-7 {
		t.Error("two readers share memory")
	}
}

// P1.4

// stringsOf calls f with all strings of at most n of the bytes.
func stringsOf(bytes string, n int, f func(s string)) {
	f("")
	if n == 0 {
		return
	}
	for i := range len(bytes) {
		stringsOf(bytes, n-1, func(s string) { f(bytes[i:i+1] + s) })
	}
}

func TestWhatIsReadIsItsEncoding(t *testing.T) {
	for name, read := range kinds {
		values := 0
		stringsOf("01-;:,[]a", 5, func(s string) {
			r := wire.Open(s)
			encoding, zero := read(r)
			failed := !r.Done() && r.Left() == 0
			if failed && !zero || !failed && encoding != s[:len(s)-r.Left()] {
				t.Errorf("%s of %q is the value of %q, %d bytes are left", name, s, encoding, r.Left())
			}
			if !failed {
				values++
			}
		})
		if values == 0 {
			t.Errorf("%s reads nothing", name)
		}
	}
}

var someInts = []int{0, 1, 2, 9, 10, 11, 12, 99, 100, 101, 123, 1 << 20, 1 << 40, math.MaxInt, -1, -2, -9, -10, -11, -100, -123, math.MinInt + 1, math.MinInt}

var someTexts = []string{"", "a", "b", "ab", ",", ":", ";", "0", "0:", "0:,", "1:a,", "0;", "-1;", "0[]", "1[0;]", "]", "a,b", "\x00", "\xff\xfe", "\u00e9\U0001f41d", strings.Repeat("x", 9), strings.Repeat(",", 10), strings.Repeat("1;", 50)}

// lists returns the lists of at most two of the elements.
func lists[T any](l []T) [][]T {
	all := [][]T{nil}
	for _, a := range l {
		all = append(all, []T{a})
		for _, b := range l {
			all = append(all, []T{a, b})
		}
	}
	return all
}

func TestReadingInvertsWriting(t *testing.T) {
	for _, n := range someInts {
		if r := wire.Open(wire.Int(n)); r.Int() != n || !r.Done() {
			t.Errorf("Int %d", n)
		}
		if r := wire.Open(wire.Num(n)); n >= 0 && (r.Num() != n || !r.Done()) {
			t.Errorf("Num %d", n)
		}
	}
	for _, s := range someTexts {
		if r := wire.Open(wire.Text(s)); r.Text() != s || !r.Done() {
			t.Errorf("Text %q", s)
		}
	}
	for _, l := range lists(someInts) {
		if r := wire.Open(wire.Nums(l)); !slices.Equal(r.Nums(), l) || !r.Done() {
			t.Errorf("Nums %d", l)
		}
	}
	for _, l := range lists(someTexts) {
		if r := wire.Open(wire.Texts(l)); !slices.Equal(r.Texts(), l) || !r.Done() {
			t.Errorf("Texts %q", l)
		}
	}
}

// all returns the encodings of the values.
func all[T any](values []T, write func(T) string) []string {
	var l []string
	for _, v := range values {
		l = append(l, write(v))
	}
	return l
}

func TestNoEncodingIsAPrefix(t *testing.T) {
	natural := slices.DeleteFunc(slices.Clone(someInts), func(n int) bool { return n < 0 })
	for name, l := range map[string][]string{
		"Num":   all(natural, wire.Num),
		"Int":   all(someInts, wire.Int),
		"Text":  all(someTexts, wire.Text),
		"Nums":  all(lists(someInts), wire.Nums),
		"Texts": all(lists(someTexts), wire.Texts),
	} {
		// In this order a prefix stands right before something that it is a prefix of.
		slices.Sort(l)
		for i := range len(l) - 1 {
			if strings.HasPrefix(l[i+1], l[i]) {
				t.Errorf("%s: %q and %q", name, l[i], l[i+1])
			}
		}
	}
}

// P1.5

func TestEncodingsAreConcatenatedAndNested(t *testing.T) {
	inner := wire.Int(-5) + wire.Texts([]string{"0:,", "]"}) + wire.Nums([]int{1, -1})
	middle := wire.Text(inner) + wire.Texts([]string{inner, wire.Text(inner), ""})
	r := wire.Open(wire.Text(middle) + middle + wire.Text(""))
	if r.Text() != middle || r.Text() != inner || !slices.Equal(r.Texts(), []string{inner, wire.Text(inner), ""}) || r.Text() != "" || !r.Done() {
		t.Error("the middle")
	}
	r = wire.Open(inner)
	if r.Int() != -5 || !slices.Equal(r.Texts(), []string{"0:,", "]"}) || !slices.Equal(r.Nums(), []int{1, -1}) || !r.Done() {
		t.Error("the inner")
	}
	deep := "x"
	for range 100 {
		deep = wire.Texts([]string{deep})
	}
	for range 100 {
		r := wire.Open(deep)
		if l := r.Texts(); len(l) != 1 || !r.Done() {
			t.Fatal("deep")
		} else {
			deep = l[0]
		}
	}
	if deep != "x" {
		t.Errorf("%q", deep)
	}
}

func TestLongLists(t *testing.T) {
	nums, texts := make([]int, 100000), make([]string, 100000)
	for i := range nums {
		nums[i] = i * (1 - i%2*2)
		texts[i] = wire.Int(i)
	}
	r := wire.Open(wire.Nums(nums) + wire.Texts(texts))
	if !slices.Equal(r.Nums(), nums) || !slices.Equal(r.Texts(), texts) || !r.Done() {
		t.Error("long lists")
	}
}

// P1 and P4: every order of calls on every text ends, without a panic, with the same results.
func TestAllCallsOnAllTexts(t *testing.T) {
	texts := append(all(lists(someTexts), wire.Texts), all(lists(someInts), wire.Nums)...)
	texts = append(append(texts, someTexts...), all(someInts, wire.Int)...)
	for _, s := range texts {
		for name, first := range kinds {
			for next, second := range kinds {
				var got [2]string
				for i := range got {
					r := wire.Open(s)
					a, _ := first(r)
					b, _ := second(r)
					got[i] = a + b + wire.Int(r.Left()) + r.Rest()
				}
				if got[0] != got[1] {
					t.Errorf("%s and %s of %q: %q and %q", name, next, s, got[0], got[1])
				}
			}
		}
	}
}
