package tests

import (
	"slices"
	"strconv"
	"strings"
	"testing"

	"loop.example/g01275/impl"
)

func TestEmptyScript(t *testing.T) {
	checkScript(t, "", nil, desk(committee(5, 3, 2, 2, 1), game(4, "01", "23")), nil)
}

// TestNumbersOfLines has scripts of no line up to some more than MaxLines, of lines that are empty and of others.
func TestNumbersOfLines(t *testing.T) {
	for count := range 60 {
		for _, line := range []string{"", " ", "fly", "show", "of", "wins"} {
			lines := slices.Repeat([]string{line}, count)
			if count <= 50 {
				checkCourse(t, lines...)
			} else {
				checkIsScript(t, scriptOf(lines...), false)
			}
		}
	}
	// The last line of MaxLines is executed, too.
	checkScript(t, scriptOf(append(slices.Repeat([]string{""}, 49), "quota 8")...), append(slices.Repeat([]string{"what"}, 49), "8:3,2,2,1"), deskOf(t, "8:3,2,2,1", "4;01.23"), fromTo(1, 49))
	checkIsScript(t, strings.Repeat("\n", 50), true)
	checkIsScript(t, strings.Repeat("\n", 51), false)
}

// TestNumbersOfBytes has scripts of MaxScript bytes, some less and some more, in one line and in several ones.
func TestNumbersOfBytes(t *testing.T) {
	for bytes := 2990; bytes <= 3010; bytes++ {
		rest := bytes - len("show\nquota 1\n")
		for _, s := range []string{
			strings.Repeat("x", bytes-1) + "\n",
			strings.Repeat(" ", bytes-1) + "\n",
			"gain " + strings.Repeat("1", bytes-6) + "\n",
			"show\n" + strings.Repeat("x", rest-1) + "\nquota 1\n",
			strings.Repeat(strings.Repeat("y", 99)+"\n", 20) + strings.Repeat("z", bytes-2001) + "\n",
			strings.Repeat("\n", 50-1) + strings.Repeat("x", bytes-50) + "\n",
		} {
			if len(s) != bytes {
				t.Fatalf("the test makes %d bytes, not %d", len(s), bytes)
			}
			checkIsScript(t, s, bytes <= 3000)
			checkIsScript(t, s[:bytes-1], false)
			if lines, ok := linesByWords(s); ok {
				checkCourse(t, lines...)
			}
		}
	}
	checkScript(t, "show\n"+strings.Repeat("x", 3000-14)+"\nquota 1\n", []string{"5:3,2,2,1", "what", "1:3,2,2,1"}, deskOf(t, "1:3,2,2,1", "4;01.23"), []int{2})
}

// TestLinesWithoutNewlines has texts whose last line does not end, or that have other ends of lines.
func TestLinesWithoutNewlines(t *testing.T) {
	for _, s := range []string{
		"show", "s", " ", "\r", "\x00", "x", "show\nsets", "show\nsets\n ", "show\nsets\n\r", "\nshow", "\n\n\n ", "show\r", "quota 1\nquota 2\nquota 3", "fly", "show\\n", "show\u2028", "show\v", "show\f", "show\x85",
	} {
		checkIsScript(t, s, false)
		checkIsScript(t, s+"\n", true)
	}
	// Other ends of lines are bytes as others.
	checkScript(t, "show\r\nsets\n", []string{"what", "4;01.23"}, impl.FirstDesk(), []int{1})
	checkScript(t, "show\rsets\n", []string{"what"}, impl.FirstDesk(), []int{1})
	checkScript(t, "show\u2028sets\n", []string{"what"}, impl.FirstDesk(), []int{1})
	checkScript(t, "\nshow\n\n\nsets\n\n", []string{"what", "5:3,2,2,1", "what", "what", "4;01.23", "what"}, impl.FirstDesk(), []int{1, 3, 4, 6})
}

// TestLengthsOfLines executes lines of MaxScript bytes, some less and some more.
func TestLengthsOfLines(t *testing.T) {
	d := impl.FirstDesk()
	for length := 2990; length <= 3010; length++ {
		for line, reply := range map[string]string{
			strings.Repeat("x", length):                             "what",
			strings.Repeat(" ", length):                             "what",
			"show" + strings.Repeat(" ", length-4):                  "what",
			"quota " + strings.Repeat("1", length-6):                "what",
			"gain 10" + strings.Repeat(",1", (length-7)/2) + "1":    "no",
			"merge 1234" + strings.Repeat(",12345", (length-10)/6):  "no",
			"votes 1:" + strings.Repeat("1,", (length-9)/2) + "1":   "what",
			"game 9;" + strings.Repeat("8.", (length-8)/2) + "8":    "what",
			"partners " + strings.Repeat("0,", (length-10)/2) + "0": "what",
		} {
			if len(line) > length+1 || len(line) < length-6 {
				t.Fatalf("the test makes %d bytes, not %d", len(line), length)
			}
			if len(line) > 3000 {
				checkFails(t, callOf("DeskLine", impl.DeskLine, d, line))
				continue
			}
			checkLine(t, d, line, d, reply)
		}
	}
	// A list has as many numbers as there is room for.
	longest := "merge 10" + strings.Repeat(",1", 1496)
	if len(longest) != 3000 {
		t.Fatal("the test makes", len(longest), "bytes")
	}
	checkLine(t, d, longest, d, "no")
	checkLine(t, d, longest[:2999], d, "what")
	checkLine(t, d, longest[:2998], d, "no")
	checkFails(t, callOf("DeskLine", impl.DeskLine, d, longest+"1"))
}

// TestLinesWithNewlines has newlines at each place of a line.
func TestLinesWithNewlines(t *testing.T) {
	d := impl.FirstDesk()
	for _, line := range []string{"", "show", "quota 1", "votes 1:1", "fly", strings.Repeat("x", 2999), strings.Repeat("x", 3000)} {
		places := upTo(len(line) + 1)
		if len(line) > 100 {
			places = []int{0, 1, 1500, len(line) - 1, len(line)}
		}
		for _, i := range places {
			checkFails(t, callOf("DeskLine", impl.DeskLine, d, line[:i]+"\n"+line[i:]))
		}
	}
	checkFails(t, callOf("DeskLine", impl.DeskLine, d, strings.Repeat("\n", 100)))
}

// someLines have each name of a line with words that fit it, whether the line fails or not.
func someLines() []string {
	return []string{
		"votes 2:1,1,1", "merge 0,1", "split 0 1", "new 1", "give 0 1 1", "quota 3", "drop 0", "game 2;0.1", "of", "dual", "first", "without 1", "with 1",
		"show", "sets", "swings", "pivots", "orders", "least", "gain 0,1", "partners 1", "wins", "worth", "trade",
	}
}

// TestBlanksInLines puts blanks and other white space in front of each word, behind it and between two, and takes words out and adds some.
func TestBlanksInLines(t *testing.T) {
	d := impl.FirstDesk()
	for _, line := range someLines() {
		if _, reply := lineByWords(d, line); reply == "what" {
			t.Fatalf("%q is no line", line)
		}
		parts := strings.Split(line, " ")
		for i := range len(parts) + 1 {
			for _, more := range []string{"", " ", "0", "1", "x", "show", "-", "\t"} {
				checkLine(t, d, strings.Join(slices.Insert(slices.Clone(parts), i, more), " "), d, "what")
			}
		}
		for i := range parts {
			fewer := strings.Join(slices.Delete(slices.Clone(parts), i, i+1), " ")
			checkLine(t, d, fewer, d, "what")
			for _, space := range []string{"\t", "\r", "\v", "\f", "\x00", "\u00a0", "\u2003", "\ufeff", ",", ".", "_", "-"} {
				changed := slices.Clone(parts)
				changed[i] += space
				checkLine(t, d, strings.Join(changed, " "), d, "what")
				changed[i] = space + parts[i]
				checkLine(t, d, strings.Join(changed, " "), d, "what")
			}
		}
		for _, blank := range []string{"", "  ", "\t", " \t", "\u00a0", ",", ":"} {
			if len(parts) > 1 {
				checkLine(t, d, strings.Join(parts, blank), d, "what")
			}
		}
		for _, other := range []string{strings.ToUpper(line), strings.ToUpper(line[:1]) + line[1:], line[1:], line[:len(parts[0])-1] + line[len(parts[0]):], "x" + line} {
			checkLine(t, d, other, d, "what")
		}
	}
}

// TestNumbersInLines has words that are numbers and words that are none in each place for one.
func TestNumbersInLines(t *testing.T) {
	var numbers []string
	for _, n := range slices.Concat(upTo(30), []int{99, 100, 101, 999, 1000, 1001, 9000, 9999, 10000, 99999, 100000, 999998, 999999}) {
		numbers = append(numbers, strconv.Itoa(n))
	}
	none := []string{
		"", "00", "01", "000", "010", "0000001", "0999999", "-0", "-1", "+0", "+1", "--1", "1000000", "1000001", "9999999", "10000000", "4294967296", "4294967297", "9223372036854775807", "9223372036854775808", "18446744073709551616", "18446744073709551617", strings.Repeat("9", 200), strings.Repeat("0", 200),
		"x", "0x1", "1e0", "1.0", "0.", ".0", "1_0", "1,", ",1", "1;", "1:", "1/1", "'1'", "1\t", "\t1", "1\r", "1\x00", "a", "/", ":", "\u0661", "\uff11", "\u00b9", "\u0131", "\xb1", "1\xff", "\xff",
	}
	d := impl.FirstDesk()
	for _, form := range []string{"split N 1", "split 0 N", "new N", "give N 1 1", "give 0 N 1", "give 0 1 N", "quota N", "drop N", "without N", "with N", "partners N"} {
		for _, n := range numbers {
			line := strings.Replace(form, "N", n, 1)
			behind, reply := lineByWords(d, line)
			if reply == "what" {
				t.Fatalf("%q is no line", line)
			}
			checkLine(t, d, line, behind, reply)
		}
		for _, word := range append(none, "0,1", "1,1", "0,0") {
			checkLine(t, d, strings.Replace(form, "N", word, 1), d, "what")
		}
	}
	for _, form := range []string{"merge N", "gain N", "merge 0,N", "gain 0,N", "merge N,3", "gain N,3", "merge 0,N,3", "gain 0,N,3"} {
		for _, n := range append(numbers, "1,2", "2,1", "1,1,2", "1,999999,0") {
			line := strings.Replace(form, "N", n, 1)
			behind, reply := lineByWords(d, line)
			if reply == "what" {
				t.Fatalf("%q is no line", line)
			}
			checkLine(t, d, line, behind, reply)
		}
		for _, word := range append(none, ",", "1,,2", ",1,2", "1,2,", "1, 2", "1 2", "1;2", "1.2", "12,01", "1,+2", "1,1000000", "1000000,1") {
			checkLine(t, d, strings.Replace(form, "N", word, 1), d, "what")
		}
	}
}

// TestTextsInLines has words that are CommitteeTexts or GameTexts, and words that are none.
func TestTextsInLines(t *testing.T) {
	d := impl.FirstDesk()
	for _, c := range manyCommittees() {
		text := textOfCommittee(c)
		checkLine(t, d, "votes "+text, desk(c, d.Game), text)
		checkLine(t, d, "game "+text, d, "what")
	}
	for _, g := range manyGames() {
		text := word(g)
		if len(text) < 2900 {
			checkLine(t, d, "game "+text, desk(d.Committee, g), text)
			checkLine(t, d, "votes "+text, d, "what")
		}
	}
	for _, text := range slices.Concat(noCommitteeTexts(), noGameTexts()) {
		if strings.Contains(text, "\n") || len(text) > 2900 {
			checkFails(t, callOf("DeskLine", impl.DeskLine, d, "votes "+text), callOf("DeskLine", impl.DeskLine, d, "game "+text))
			continue
		}
		for _, name := range []string{"votes ", "game "} {
			behind, reply := lineByWords(d, name+text)
			checkLine(t, d, name+text, behind, reply)
		}
	}
}
