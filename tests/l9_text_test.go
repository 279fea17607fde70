package tests

import (
	"regexp"
	"strconv"
	"strings"
	"sync"
	"testing"

	"loop.example/g01275/impl"
)

func TestPuzzleText(t *testing.T) {
	for _, x := range []struct {
		p    impl.Puzzle
		want string
	}{
		{puzzle(1), "1:"},
		{puzzle(2), "2:"},
		{puzzle(4), "4:"},
		{puzzle(3, clue(1, 4, 0), clue(4, 1, 0), clue(5, 1, 0)), "3:1.4.0,4.1.0,5.1.0"},
		{puzzle(1, clue(0, 0, 0)), "1:0.0.0"},
		{puzzle(4, clue(0, 15, 1)), "4:0.15.1"},
		{puzzle(1, clue(1, 15, 0)), "1:1.15.0"},
		{puzzle(4, clue(3, 3, 8), clue(2, 3, 1)), "4:3.3.8,2.3.1"},
		{puzzle(2, clue(0, 3, 1), clue(0, 3, 1)), "2:0.3.1,0.3.1"},
		{puzzle(4, clue(0, 0, 0), clue(0, 10, 1), clue(1, 10, 0), clue(2, 0, 0), clue(3, 0, 0), clue(4, 0, 0), clue(5, 0, 0), clue(5, 1, 0)), "4:0.0.0,0.10.1,1.10.0,2.0.0,3.0.0,4.0.0,5.0.0,5.1.0"},
	} {
		checkAnswer(t, callOf("PuzzleText", impl.PuzzleText, x.p), x.want)
		checkPuzzle(t, callOf("ParsePuzzle", impl.ParsePuzzle, x.want), x.p)
	}
}

func TestPuzzleTextsComeBack(t *testing.T) {
	for _, p := range manyPuzzles() {
		checkAnswer(t, callOf("PuzzleText", impl.PuzzleText, p), puzzleWord(p))
		checkPuzzle(t, callOf("ParsePuzzle", impl.ParsePuzzle, puzzleWord(p)), p)
	}
}

// noPuzzleTexts are no PuzzleTexts, each for one reason.
func noPuzzleTexts() []string {
	return []string{
		"", ":", "4", "4;", "4,", "4.", "4::", ":4", "4:4", "4 :", "4: ", " 4:", "4:\n", "\n4:", "4:\t", "4:\r\n",
		"0:", "5:", "9:", "04:", "00:", "10:", "14:", "40:", "44:", "+4:", "-4:", "4.0:", "a:", "/:", ";:", "::", "4a:",
		"4:0", "4:0.", "4:0.0", "4:0.0.", "4:0..0", "4:.0.0", "4:..", "4:...", "4:0.0.0.", "4:.0.0.0", "4:0.0.0.0", "4:0,0,0", "4:0:0:0", "4:0 0 0", "4:0,0.0",
		"4:,", "4:,,", "4:0.0.0,", "4:,0.0.0", "4:0.0.0,,0.1.0", "4:0.0.0,0", "4:0.0.0,0.1", "4:0.0.0;0.1.0", "4:0.0.0:0.1.0", "4:0.0.0.0.1.0", "4:0.0.0 0.1.0", "4:0.0.0, 0.1.0", "4:0.0.0 ,0.1.0",
		"0.0.0", "4,0.0.0", "4.0.0.0", "4;0.0.0", "40.0.0", ":0.0.0", "0:0.0.0", "5:0.0.0", "04:0.0.0", " 4:0.0.0", "4 :0.0.0", "4: 0.0.0", "4:0.0.0 ", "4:0 .0.0", "4:0. 0.0", "4:0.0 .0", "4:0.0. 0",
		"4:00.0.0", "4:0.00.0", "4:0.0.00", "4:01.1.0", "4:1.01.0", "4:0.01.1", "4:0.1.01", "4:0.015.1", "4:3.0.08",
		"4:+0.0.0", "4:0.+1.0", "4:0.1.+1", "4:-0.0.0", "4:0.-0.0", "4:0.0.-0", "4:-1.0.0", "4:0.-1.0", "4:0.0.-1", "4:1.-1.0",
		"4:0.16.0", "4:0.16.1", "4:0.1.2", "4:1.0.0", "4:1.16.0", "4:1.1.1", "4:2.4.0", "4:2.0.2", "4:3.4.0", "4:3.0.9", "4:4.2.0", "4:4.1.1", "4:5.2.0", "4:5.0.1", "4:6.0.0", "4:7.1.0", "4:10.0.0", "4:15.1.0", "4:16.1.0",
		"1:0.2.0", "2:0.4.1", "3:0.8.0", "1:2.1.0", "3:2.3.1", "2:3.2.0", "3:3.3.0", "3:1.4.0,4.1.0,5.1.0,0.8.0",
		"4:0.100.0", "4:0.150.1", "4:100.0.0", "4:0.0.100", "4:1.1000000.0", "4:0.4294967296.0", "4:0.4294967297.1", "4:4294967296.0.0", "4:0.0.4294967296", "4294967300:", "4294967300:0.0.0",
		"4:0.9223372036854775807.0", "4:0.9223372036854775808.0", "4:0.18446744073709551616.0", "4:0.18446744073709551617.1", "4:18446744073709551616.0.0", "18446744073709551620:", "4:340282366920938463463374607431768211456.0.0",
		"4:0.0.0,0.1.0,0.2.0,0.3.0,0.4.0,0.5.0,0.6.0,0.7.0,0.8.0", "1:0.0.0,0.0.0,0.0.0,0.0.0,0.0.0,0.0.0,0.0.0,0.0.0,0.0.0", "4:0.0.0,0.1.0,0.2.0,0.3.0,0.4.0,0.5.0,0.6.0,0.7.0,",
		"4:a.0.0", "4:0.a.0", "4:0.0.a", "4:0.0x1.0", "4:0.1e0.0", "4:0.1_0.0", "4:0./.0", "4:0.:.0", "4:0.0.0\n", "4:0.0.0\r\n", "4:\n0.0.0", "4:0.0.0,\n0.1.0", "4:\"0.0.0\"", "4:(0.0.0)",
		"\u0664:", "4:\u0660.0.0", "\uff14:", "4\uff1a", "4:0\uff0e0.0", "4:0.0.0\uff0c0.1.0", "\ufeff4:", "4:\ufeff", "\u0134:", "4:0.\u00b2.0", "4:0.\u0131.0",
		"\xff", "\xff4:", "4:\xff", "4\xff:", "4:0.\xb1.0", "\xb4:", "4:0.0.0\xff", "4:0.0.0\x00", "\x004:", "4\x00:", "4:0.0.0\ufffd",
		strings.Repeat("0", 100000), strings.Repeat("4", 100000) + ":", "4:" + strings.Repeat("0", 100000), "4:0." + strings.Repeat("1", 100000) + ".0", strings.Repeat(":", 100000), "4:" + strings.Repeat(",", 100000), "4:" + strings.Repeat(".", 100000), "4:" + strings.Repeat("0.0.0,", 50000) + "0.0.0", "4:0" + strings.Repeat(".0", 100000), strings.Repeat("4:", 1000),
	}
}

func TestNoPuzzleTexts(t *testing.T) {
	for _, s := range noPuzzleTexts() {
		checkFails(t, callOf("ParsePuzzle", impl.ParsePuzzle, s))
	}
}

var looksLikePuzzle = regexp.MustCompile(`\A[1-4]:([0-5]\.[0-9]+\.[0-8](,[0-5]\.[0-9]+\.[0-8])*)?\z`)

// clueWords has for each number of members the clues as they are told in a PuzzleText.
var clueWords = sync.OnceValue(func() []map[string]impl.Clue {
	all := []map[string]impl.Clue{nil}
	for members := 1; members <= 4; members++ {
		words := map[string]impl.Clue{}
		for _, c := range allClues(members) {
			words[clueWord(c)] = c
		}
		all = append(all, words)
	}
	return all
})

// puzzleFromText looks each part of a text up among the texts of all clues.
func puzzleFromText(s string) (impl.Puzzle, bool) {
	if !looksLikePuzzle.MatchString(s) {
		return impl.Puzzle{}, false
	}
	p := puzzle(int(s[0] - '0'))
	if len(s) == 2 {
		return p, true
	}
	for _, part := range strings.Split(s[2:], ",") {
		c, ok := clueWords()[p.Members][part]
		if !ok || len(p.Clues) == 8 {
			return impl.Puzzle{}, false
		}
		p.Clues = append(p.Clues, c)
	}
	return p, true
}

func checkParsePuzzle(t *testing.T, s string) {
	t.Helper()
	want, wantOK := puzzleFromText(s)
	got, ok := impl.ParsePuzzle(s)
	if ok != wantOK || !samePuzzle(got, want) {
		t.Fatalf("ParsePuzzle(%q) = %v, %v, want %v, %v", s, got, ok, want, wantOK)
	}
}

// TestShortPuzzleTexts parses all texts of up to eight signs of a few.
func TestShortPuzzleTexts(t *testing.T) {
	inParts(t, []string{"", "0", "1", "4", ":", ".", ",", "1:", "4:0", "4:1", "4:0.1", "1:0.0.0,"}, func(t *testing.T, _ int, begin string) {
		eachText([]string{"0", "1", "4", ":", ".", ","}, 6, func(s string) { checkParsePuzzle(t, begin+s) })
	})
}

// TestNumbersInPuzzleTexts has all kinds, numbers and answers of clues up to some that are too great, alone and behind a clue.
func TestNumbersInPuzzleTexts(t *testing.T) {
	var numbers []string
	for n := range 21 {
		numbers = append(numbers, strconv.Itoa(n))
	}
	numbers = append(numbers, "", "-1", "+1", "00", "01", "015", "08", " 1", "1 ", "100", "150", "x", "18446744073709551617")
	inParts(t, numbers, func(t *testing.T, _ int, kind string) {
		for members := range 6 {
			head := strconv.Itoa(members) + ":"
			for _, a := range numbers {
				for _, b := range numbers {
					text := kind + "." + a + "." + b
					checkParsePuzzle(t, head+text)
					checkParsePuzzle(t, head+"1.1.0,"+text)
				}
			}
		}
	})
}

func TestChangedPuzzleTexts(t *testing.T) {
	for _, s := range []string{"3:1.4.0,4.1.0,5.1.0", "1:", "4:0.15.1,3.3.8", "4:0.0.0,0.1.0,0.2.0,0.3.0,0.4.0,0.5.0,0.6.0,0.7.0"} {
		eachChange(s, func(changed string) { checkParsePuzzle(t, changed) })
	}
}
