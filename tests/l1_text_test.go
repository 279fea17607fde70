package tests

import (
	"regexp"
	"slices"
	"strconv"
	"strings"
	"testing"

	"loop.example/g01275/impl"
)

func TestCommitteeText(t *testing.T) {
	for _, x := range []struct {
		c    impl.Committee
		want string
	}{
		{committee(5, 3, 2, 2, 1), "5:3,2,2,1"},
		{committee(1, 1), "1:1"},
		{committee(1000, 1000), "1000:1000"},
		{committee(10, 0, 10, 0), "10:0,10,0"},
		{committee(1, 0, 0, 0, 0, 0, 0, 0, 0, 100), "1:0,0,0,0,0,0,0,0,100"},
		{committee(9000, ofWeight(1000, 9)...), "9000:1000,1000,1000,1000,1000,1000,1000,1000,1000"},
	} {
		if s, ok := impl.CommitteeText(x.c); !ok || s != x.want {
			t.Errorf("CommitteeText(%v) = %q, %v", x.c, s, ok)
		}
		if c, ok := impl.ParseCommittee(x.want); !ok || !sameCommittee(c, x.c) {
			t.Errorf("ParseCommittee(%q) = %v, %v", x.want, c, ok)
		}
	}
}

func TestTextsComeBack(t *testing.T) {
	for _, c := range manyCommittees() {
		s, ok := impl.CommitteeText(c)
		if !ok {
			t.Fatalf("CommitteeText(%v) fails", c)
		}
		if back, ok := impl.ParseCommittee(s); !ok || !sameCommittee(back, c) {
			t.Fatalf("%v comes back from %q as %v, %v", c, s, back, ok)
		}
	}
}

// noCommitteeTexts are no CommitteeTexts, each for one reason.
func noCommitteeTexts() []string {
	return []string{
		"", ":", ",", "5", "5:", ":3", "5:3,", "5:,3", "5:3,,2", "5::3,2", ":5:3,2", ",5:3,2", "5:3:2", "5,3:2", "5,3,2", "3,2:5",
		"05:3,2", "5:03,2", "5:3,02", "5:3,2,00", "00:1", "1:00", "1:1,00", "1:01",
		"+5:3,2", "-5:3,2", "5:+3,2", "5:-3,9", "5:3,-0", "5:3,+2",
		" 5:3,2", "5 :3,2", "5: 3,2", "5:3, 2", "5:3,2 ", "5:3,2\n", "\n5:3,2", "5:3,2\r\n", "5:3\t,2", "\t5:3,2",
		"5;3,2", "5:3;2", "5:3.2", "5.3,2", "5=3,2", "5:3 2", "5/3,2", "5:3/2", "5:a", "a:5", "5:0x5", "5:5e0", "5:1_0", "5:5.0",
		"0:1", "0:0", "1:0", "1:0,0", "6:3,2", "9:3,2,2,1", "2:1", "1000:999", "9001:1000,1000,1000,1000,1000,1000,1000,1000,1000",
		"1:1001", "1001:1001", "5:3,1001", "1:9999", "1:10000", "10000:10000",
		"1:1,1,1,1,1,1,1,1,1,1", "1:0,0,0,0,0,0,0,0,0,1", "1:1,1,1,1,1,1,1,1,1,", "1:1,1,1,1,1,1,1,1,1:1",
		"9223372036854775807:1", "9223372036854775808:1", "18446744073709551617:1", "1:18446744073709551617", "4294967297:1", "1:4294967297", "1:1,18446744073709551616",
		"\u0665:3,2", "5:\u0663,2", "\uff15:3,2", "5\uff1a3,2", "5:3\uff0c2", "5:3\u00b2", "\ufeff5:3,2", "5:3,2\ufeff", "\u0135:3,2",
		"\xff", "\xff5:3,2", "5:3,2\xff", "5:\xff3,2", "5\xff:3,2", "5:3,2\ufffd", "5:3,2\x00", "\x005:3,2", "5:3\x00,2",
		strings.Repeat("0", 100000), strings.Repeat("9", 100000) + ":1", "1:" + strings.Repeat("9", 100000), "1:" + strings.Repeat("1,", 100000) + "1", strings.Repeat(":", 100000), strings.Repeat("1:", 1000),
	}
}

func TestNoCommitteeTexts(t *testing.T) {
	for _, s := range noCommitteeTexts() {
		callOf("ParseCommittee", impl.ParseCommittee, s).mustFail(t)
	}
}

var looksLikeText = regexp.MustCompile(`\A(0|[1-9][0-9]*):(0|[1-9][0-9]*)(,(0|[1-9][0-9]*))*\z`)

// committeeFromText follows the document's words with other means than the program.
func committeeFromText(s string) (impl.Committee, bool) {
	if !looksLikeText.MatchString(s) {
		return impl.Committee{}, false
	}
	quota, weights, _ := strings.Cut(s, ":")
	c := impl.Committee{}
	sum := 0
	for _, word := range strings.Split(weights, ",") {
		w, err := strconv.Atoi(word)
		if err != nil || w > 1000 {
			return impl.Committee{}, false
		}
		c.Weights = append(c.Weights, w)
		sum += w
	}
	q, err := strconv.Atoi(quota)
	if err != nil || q < 1 || q > sum || len(c.Weights) > 9 {
		return impl.Committee{}, false
	}
	c.Quota = q
	return c, true
}

func checkParse(t *testing.T, s string) {
	t.Helper()
	want, wantOK := committeeFromText(s)
	got, ok := impl.ParseCommittee(s)
	if ok != wantOK || !sameCommittee(got, want) {
		t.Fatalf("ParseCommittee(%q) = %v, %v, want %v, %v", s, got, ok, want, wantOK)
	}
}

// TestShortTexts parses all texts of up to six signs of a few.
func TestShortTexts(t *testing.T) {
	eachText([]string{"0", "1", "2", ":", ","}, 6, func(s string) { checkParse(t, s) })
}

func TestChangedTexts(t *testing.T) {
	for _, s := range []string{"5:3,2,2,1", "10:0,1000,7", "9000:1000,1000,1000,1000,1000,1000,1000,1000,1000"} {
		eachChange(s, func(changed string) { checkParse(t, changed) })
	}
}

// TestNumbersInTexts meets the limits of weights, quotas and members, and exceeds them by 1.
func TestNumbersInTexts(t *testing.T) {
	for n := range 12000 {
		number := strconv.Itoa(n)
		checkParse(t, "1:"+number)
		checkParse(t, number+":"+strings.Join(slices.Repeat([]string{"1000"}, 9), ","))
	}
	for members := range 12 {
		ones := strings.Join(slices.Repeat([]string{"1"}, members), ",")
		for quota := range 12 {
			checkParse(t, strconv.Itoa(quota)+":"+ones)
		}
	}
}
