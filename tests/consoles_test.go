package tests

import (
	"fmt"
	"regexp"
	"slices"
	"strconv"
	"strings"
	"testing"

	"loop.example/g01275/impl"
)

func desk(c impl.Committee, g impl.Game) impl.Desk { return impl.Desk{Committee: c, Game: g} }

// deskOf takes a CommitteeText and a GameText.
func deskOf(t *testing.T, committee, game string) impl.Desk {
	t.Helper()
	return desk(mustParse(t, committee), gameOfWord(game))
}

func sameDesk(a, b impl.Desk) bool {
	return sameCommittee(a.Committee, b.Committee) && sameGame(a.Game, b.Game)
}

// textOfCommittee tells a committee in the way of a CommitteeText.
func textOfCommittee(c impl.Committee) string {
	return strconv.Itoa(c.Quota) + ":" + parted(c.Weights, ",")
}

// parted has the numbers with a sign between them.
func parted(numbers []int, sign string) string {
	text := strings.Trim(fmt.Sprint(numbers), "[]")
	return strings.ReplaceAll(text, " ", sign)
}

func numbersOf(text string) []int {
	var numbers []int
	for _, part := range strings.Split(text, ",") {
		n, err := strconv.Atoi(part)
		if err != nil {
			panic(text)
		}
		numbers = append(numbers, n)
	}
	return numbers
}

// A rowOfTable is what the document's table says of one line: what its words look like, and which desk and which reply the functions give that it names.
type rowOfTable struct {
	words *regexp.Regexp
	does  func(d impl.Desk, words []string) (impl.Desk, string, bool)
}

// pattern has a number for N, K and I, a list of them for L, and any word for V and G.
func pattern(line string) *regexp.Regexp {
	const number = `(?:0|[1-9][0-9]{0,5})`
	line = regexp.MustCompile(`\b[NKI]\b`).ReplaceAllString(line, "("+number+")")
	line = regexp.MustCompile(`\bL\b`).ReplaceAllString(line, "("+number+"(?:,"+number+")*)")
	line = regexp.MustCompile(`\b[VG]\b`).ReplaceAllString(line, "([^ ]*)")
	return regexp.MustCompile(`\A` + line + `\z`)
}

// changing is a row of a line whose effect is on the committee, and may be none.
func changing(line string, behind func(c impl.Committee, n []int) (impl.Committee, bool)) rowOfTable {
	return rowOfTable{pattern(line), func(d impl.Desk, words []string) (impl.Desk, string, bool) {
		c, ok := behind(d.Committee, numbersOf(strings.Join(words, ",")))
		return desk(c, d.Game), textOfCommittee(c), ok
	}}
}

// playing is a row of a line whose effect is on the game.
func playing(line string, behind func(d impl.Desk, n []int) (impl.Game, bool)) rowOfTable {
	return rowOfTable{pattern(line), func(d impl.Desk, words []string) (impl.Desk, string, bool) {
		numbers := []int{}
		if len(words) > 0 {
			numbers = numbersOf(words[0])
		}
		g, ok := behind(d, numbers)
		if !ok {
			return d, "", false
		}
		return desk(d.Committee, g), word(g), true
	}}
}

// asking is a row of a line that has no effect.
func asking(line string, reply func(d impl.Desk, words []string) (string, bool)) rowOfTable {
	return rowOfTable{pattern(line), func(d impl.Desk, words []string) (impl.Desk, string, bool) {
		text, ok := reply(d, words)
		return d, text, ok
	}}
}

func wordsOfSets(lists ...[]int) string {
	var words []string
	for _, set := range lists {
		words = append(words, parted(set, ""))
	}
	return strings.Join(words, ",")
}

func rowsOfCommittees() []rowOfTable {
	return []rowOfTable{
		changing("merge L", impl.MergeMembers),
		changing("split N K", func(c impl.Committee, n []int) (impl.Committee, bool) { return impl.SplitMember(c, n[0], n[1]) }),
		changing("new N", func(c impl.Committee, n []int) (impl.Committee, bool) { return impl.AddMember(c, n[0]) }),
		changing("give N K I", func(c impl.Committee, n []int) (impl.Committee, bool) { return impl.GiveWeight(c, n[0], n[1], n[2]) }),
		changing("quota N", func(c impl.Committee, n []int) (impl.Committee, bool) {
			other := committee(n[0], c.Weights...)
			return other, n[0] >= 1 && n[0] <= totalOf(c.Weights)
		}),
		changing("drop N", func(c impl.Committee, n []int) (impl.Committee, bool) { return impl.DropMember(c, n[0]) }),
	}
}

func rowsOfGames() []rowOfTable {
	return []rowOfTable{
		playing("of", func(d impl.Desk, _ []int) (impl.Game, bool) { return impl.GameOf(d.Committee) }),
		playing("dual", func(d impl.Desk, _ []int) (impl.Game, bool) { return impl.DualGame(d.Game) }),
		playing("first", func(d impl.Desk, _ []int) (impl.Game, bool) { return impl.FirstGame(d.Game) }),
		playing("without N", func(d impl.Desk, n []int) (impl.Game, bool) { return impl.GameWithout(d.Game, n[0]) }),
		playing("with N", func(d impl.Desk, n []int) (impl.Game, bool) { return impl.GameWith(d.Game, n[0]) }),
	}
}

func askingNumbers[T any](line string, of func(d impl.Desk) T, fn func(T) ([]int, bool)) rowOfTable {
	return asking(line, func(d impl.Desk, _ []string) (string, bool) {
		numbers, ok := fn(of(d))
		return parted(numbers, ","), ok
	})
}

func committeeOf(d impl.Desk) impl.Committee { return d.Committee }

func gameOn(d impl.Desk) impl.Game { return d.Game }

func rowsOfQuestions() []rowOfTable {
	return []rowOfTable{
		asking("show", func(d impl.Desk, _ []string) (string, bool) { return textOfCommittee(d.Committee), true }),
		asking("sets", func(d impl.Desk, _ []string) (string, bool) { return word(d.Game), true }),
		askingNumbers("swings", committeeOf, impl.SwingsOf),
		askingNumbers("pivots", committeeOf, impl.PivotCounts),
		asking("orders", func(d impl.Desk, _ []string) (string, bool) {
			shares, ok := impl.OrderPowers(d.Committee)
			text := ""
			for _, s := range shares {
				text += fmt.Sprintf(",%d/%d", s.Num, s.Den)
			}
			return text[1:], ok
		}),
		asking("least", func(d impl.Desk, _ []string) (string, bool) {
			least, ok := impl.LeastWinning(d.Committee)
			return wordsOfSets(least...), ok
		}),
		asking("gain L", func(d impl.Desk, words []string) (string, bool) {
			gain, ok := impl.UnionGain(d.Committee, numbersOf(words[0]))
			return map[int]string{-1: "less", 0: "same", 1: "more"}[gain], ok
		}),
		asking("partners N", func(d impl.Desk, words []string) (string, bool) {
			partners, ok := impl.BestPartners(d.Committee, numbersOf(words[0])[0])
			return parted(partners, ","), ok
		}),
		asking("wins", func(d impl.Desk, _ []string) (string, bool) {
			wins, ok := impl.CountWins(d.Game)
			return fmt.Sprint(wins), ok
		}),
		askingNumbers("worth", gameOn, impl.OrderOfWorth),
		asking("trade", func(d impl.Desk, _ []string) (string, bool) {
			t, ok := impl.FirstTrade(d.Game)
			return wordsOfSets(append(t.Wins, t.Loses...)...), ok
		}),
	}
}

var tableOfLines = slices.Concat(rowsOfCommittees(), rowsOfGames(), rowsOfQuestions())

// The word of one of these two lines may be any, and be no text of a committee or of a game.
var votesLine, gameLine = pattern("votes V"), pattern("game G")

// lineByWords looks a line up in the document's table.
func lineByWords(d impl.Desk, line string) (impl.Desk, string) {
	if found := votesLine.FindStringSubmatch(line); found != nil {
		if c, ok := committeeFromText(found[1]); ok {
			return desk(c, d.Game), found[1]
		}
		return d, "what"
	}
	if found := gameLine.FindStringSubmatch(line); found != nil {
		if g, ok := gameFromText(found[1]); ok {
			return desk(d.Committee, g), found[1]
		}
		return d, "what"
	}
	for _, row := range tableOfLines {
		if found := row.words.FindStringSubmatch(line); found != nil {
			if behind, reply, ok := row.does(d, found[1:]); ok {
				return behind, reply
			}
			return d, "no"
		}
	}
	return d, "what"
}

// linesByWords takes a script apart, byte by byte.
func linesByWords(s string) ([]string, bool) {
	if len(s) > 3000 {
		return nil, false
	}
	var lines []string
	first := 0
	for i := range len(s) {
		if s[i] == 10 {
			lines = append(lines, s[first:i])
			first = i + 1
		}
	}
	return lines, first == len(s) && len(lines) <= 50
}

// A course is what the lines of a script do, one after the other: the reply to each one, the desk behind it, and the numbers of those that fail.
type course struct {
	replies []string
	desks   []impl.Desk
	failed  []int
}

func (x course) last() impl.Desk {
	if len(x.desks) == 0 {
		return desk(committee(5, 3, 2, 2, 1), game(4, "01", "23"))
	}
	return x.desks[len(x.desks)-1]
}

func courseOf(lines []string) course {
	var x course
	for i, line := range lines {
		behind, reply := lineByWords(x.last(), line)
		x.replies = append(x.replies, reply)
		x.desks = append(x.desks, behind)
		if reply == "no" || reply == "what" {
			x.failed = append(x.failed, i+1)
		}
	}
	return x
}

// scriptOf ends each line with a newline.
func scriptOf(lines ...string) string {
	s := ""
	for _, line := range lines {
		s += line + "\n"
	}
	return s
}

func checkLine(t *testing.T, d impl.Desk, line string, behind impl.Desk, reply string) {
	t.Helper()
	c := callOf("DeskLine", impl.DeskLine, d, line)
	out := c.results(t, c.values())
	got, gotReply := out[0].Interface().(impl.Desk), out[1].String()
	if !out[2].Bool() || gotReply != reply || !sameDesk(got, behind) {
		t.Fatalf("%v = %v, %q, %v, want %v, %q", c, got, gotReply, out[2].Bool(), behind, reply)
	}
}

func checkReplies(t *testing.T, s string, want []string) {
	t.Helper()
	c := callOf("RunScript", impl.RunScript, s)
	out := c.results(t, c.values())
	if got := out[0].Interface().([]string); !out[1].Bool() || !slices.Equal(got, want) {
		t.Fatalf("%v = %q, %v, want %q", c, got, out[1].Bool(), want)
	}
}

func checkDeskAfter(t *testing.T, s string, want impl.Desk) {
	t.Helper()
	c := callOf("DeskAfter", impl.DeskAfter, s)
	out := c.results(t, c.values())
	if got := out[0].Interface().(impl.Desk); !out[1].Bool() || !sameDesk(got, want) {
		t.Fatalf("%v = %v, %v, want %v", c, got, out[1].Bool(), want)
	}
}

// checkScript checks all that is told of a script.
func checkScript(t *testing.T, s string, replies []string, behind impl.Desk, failed []int) {
	t.Helper()
	checkReplies(t, s, replies)
	checkDeskAfter(t, s, behind)
	checkMembersOf(t, callOf("FailedLines", impl.FailedLines, s), failed)
}

// checkCourse checks a script with the document's words.
func checkCourse(t *testing.T, lines ...string) course {
	t.Helper()
	x := courseOf(lines)
	checkScript(t, scriptOf(lines...), x.replies, x.last(), x.failed)
	return x
}

// scriptCalls has each function that takes a text.
func scriptCalls(s string) []call {
	return []call{
		callOf("RunScript", impl.RunScript, s),
		callOf("DeskAfter", impl.DeskAfter, s),
		callOf("FailedLines", impl.FailedLines, s),
	}
}

// checkIsScript checks that each function takes a text if it is a script, and fails for it otherwise.
func checkIsScript(t *testing.T, s string, is bool) {
	t.Helper()
	mustSucceedIf(t, is, scriptCalls(s)...)
}
