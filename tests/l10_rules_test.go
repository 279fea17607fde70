package tests

import (
	"fmt"
	"slices"
	"strings"
	"sync"
	"testing"

	"loop.example/g01275/impl"
)

// about is a number below n, seldom n itself or any other one.
func (z *lot) about(n int) int {
	switch z.below(12) {
	case 0:
		return n
	case 1:
		return z.below(1000000)
	}
	return z.below(max(n, 1))
}

// listBelow is a list of some of so many members, at least one, seldom one that is no set.
func (z *lot) listBelow(n int) string {
	list := slices.DeleteFunc(upTo(n), func(int) bool { return z.below(3) > 0 })
	if len(list) == 0 || z.below(9) == 0 {
		list = append(list, z.about(n))
	}
	return parted(list, ",")
}

// gamesToTake are of each number of members.
var gamesToTake = sync.OnceValue(manyGames)

// lineFor is a line that mostly has words that fit a desk.
func (z *lot) lineFor(d impl.Desk) string {
	n, total := len(d.Committee.Weights), totalOf(d.Committee.Weights)
	giver, other := z.about(n), z.about(n)
	weight := 1
	if giver < n {
		weight = d.Committee.Weights[giver] + 1
	}
	lines := []string{
		"votes " + textOfCommittee(z.committee(1+z.below(9), []int{1, 3, 9, 200, 1000}[z.below(5)])),
		"merge " + z.listBelow(n),
		fmt.Sprintf("split %d %d", giver, z.about(weight)),
		fmt.Sprintf("new %d", z.about(9)),
		fmt.Sprintf("give %d %d %d", giver, other, z.about(weight)),
		fmt.Sprintf("quota %d", z.about(total+1)),
		fmt.Sprintf("drop %d", giver),
		"game " + word(gamesToTake()[z.below(len(gamesToTake()))]),
		"of", "of", "dual", "dual", "first",
		fmt.Sprintf("without %d", z.about(d.Game.Members)),
		fmt.Sprintf("with %d", z.about(d.Game.Members)),
		"show", "sets", "swings", "pivots", "orders", "least", "wins", "worth", "worth", "trade", "trade",
		"gain " + z.listBelow(n), "gain " + z.listBelow(n),
		fmt.Sprintf("partners %d", giver),
		"", "fly", "drop 0 0", "quota 01", "gain 1,", "merge", "votes 1:0", "game 2;1.0",
	}
	return lines[z.below(len(lines))]
}

// mixedScripts are made by a rule that gives the same ones each time: of one line up to MaxLines.
func mixedScripts(count int) [][]string {
	var scripts [][]string
	z := lot(1010)
	for i := range count {
		var lines []string
		d := impl.FirstDesk()
		for range 1 + i%50 {
			line := z.lineFor(d)
			if len(scriptOf(append(lines, line)...)) > 3000 {
				break
			}
			lines = append(lines, line)
			d, _ = lineByWords(d, line)
		}
		scripts = append(scripts, lines)
	}
	return scripts
}

// TestScriptsByTheirWords compares scripts with what the document's table gives, and counts that each line has been executed, and has failed if it can.
func TestScriptsByTheirWords(t *testing.T) {
	scripts := mixedScripts(900)
	answers := map[string]int{}
	for _, lines := range scripts {
		x := courseOf(lines)
		for i, line := range lines {
			name, _, _ := strings.Cut(line, " ")
			switch x.replies[i] {
			case "no", "what", "less", "same", "more":
				name += " " + x.replies[i]
			}
			answers[name]++
		}
	}
	for _, name := range strings.Fields("votes merge split new give quota drop game of dual first without with show sets swings pivots orders least partners wins worth trade") {
		if answers[name] < 100 {
			t.Errorf("%s is executed only %d times", name, answers[name])
		}
	}
	for _, name := range []string{"gain less", "gain same", "gain more", "gain no", "merge no", "split no", "new no", "give no", "quota no", "drop no", "first no", "without no", "with no", "partners no", "worth no", "trade no"} {
		if answers[name] < 30 {
			t.Errorf("%s is a reply only %d times", name, answers[name])
		}
	}
	inParts(t, scripts, func(t *testing.T, _ int, lines []string) { checkCourse(t, lines...) })
}

// TestRepliesAreThoseOfTheirLines checks that each line is executed on the desk behind those before it, and that the first lines alone have the same replies: promise 10.
func TestRepliesAreThoseOfTheirLines(t *testing.T) {
	inParts(t, mixedScripts(300), func(t *testing.T, _ int, lines []string) {
		d := impl.FirstDesk()
		var replies []string
		var failed []int
		for i, line := range lines {
			checkScript(t, scriptOf(lines[:i]...), replies, d, failed)
			behind, reply, ok := impl.DeskLine(d, line)
			if !ok || !impl.IsDesk(behind) {
				t.Fatalf("DeskLine(%v, %q) = %v, %q, %v", d, line, behind, reply, ok)
			}
			isFailed := reply == "no" || reply == "what"
			if isFailed {
				failed = append(failed, i+1)
			}
			if isFailed && !sameDesk(behind, d) {
				t.Fatalf("DeskLine(%v, %q) fails, and gives %v", d, line, behind)
			}
			d, replies = behind, append(replies, reply)
		}
		checkScript(t, scriptOf(lines...), replies, d, failed)
	})
}

// linesFor are all lines of the table with words that fit the desk, and with some that do not.
func linesFor(d impl.Desk) []string {
	lines := []string{"of", "dual", "first", "show", "sets", "swings", "pivots", "orders", "least", "wins", "worth", "trade"}
	n, total := len(d.Committee.Weights), totalOf(d.Committee.Weights)
	for k := range n + 1 {
		for _, part := range []int{0, 1, 2, 1000} {
			lines = append(lines, fmt.Sprintf("split %d %d", k, part), fmt.Sprintf("give %d %d %d", k, (k+1)%n, part))
		}
		lines = append(lines, fmt.Sprintf("drop %d", k), fmt.Sprintf("partners %d", k), fmt.Sprintf("gain %d,%d", k, k+1), fmt.Sprintf("merge 0,%d", k))
	}
	for k := range d.Game.Members + 1 {
		lines = append(lines, fmt.Sprintf("without %d", k), fmt.Sprintf("with %d", k))
	}
	for _, number := range []int{0, 1, total / 2, total - 1, total, total + 1, 1000, 1001} {
		lines = append(lines, fmt.Sprintf("quota %d", max(number, 0)), fmt.Sprintf("new %d", max(number, 0)))
	}
	all := parted(upTo(n), ",")
	return append(lines, "merge "+all, "gain "+all, "merge "+all+","+all, "gain 0,0")
}

// TestLinesOnManyDesks executes the lines of the table on committees and games of each number of members.
func TestLinesOnManyDesks(t *testing.T) {
	var desks []impl.Desk
	games := manyGames()
	for i, c := range slices.Concat(validCommittees(), mixedCommittees(), unionCommittees()) {
		desks = append(desks, desk(c, games[i*7%len(games)]))
	}
	for i, g := range games {
		desks = append(desks, desk(committee(1+i%3, 1, 1, i%4, 2), g))
	}
	inParts(t, desks, func(t *testing.T, _ int, d impl.Desk) {
		for _, line := range linesFor(d) {
			behind, reply := lineByWords(d, line)
			// All functions of these lines give lists and sets that are not empty.
			if reply == "" || reply == "what" || slices.Contains(strings.Split(reply, ","), "") {
				t.Fatalf("%q has the reply %q", line, reply)
			}
			checkLine(t, d, line, behind, reply)
		}
	})
}
