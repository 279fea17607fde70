package tests

import (
	"math"
	"slices"
	"strings"
	"testing"

	"loop.example/g01275/impl"
)

// invalidDesks have no committee, no game, or none of both.
func invalidDesks() []impl.Desk {
	fine := impl.FirstDesk()
	list := []impl.Desk{{}}
	for _, c := range append(invalidCommittees(), committee(1, ofWeight(1, 64)...), committee(1, ofWeight(1, 5000)...)) {
		list = append(list, desk(c, fine.Game), desk(c, game(1, "0")), desk(c, impl.Game{}))
	}
	for i, g := range invalidGames() {
		list = append(list, desk(fine.Committee, g), desk(committee(1, 1), g), desk(invalidCommittees()[i%30], g))
	}
	return list
}

func TestDesks(t *testing.T) {
	for _, d := range invalidDesks() {
		if impl.IsDesk(d) {
			t.Errorf("%v is a desk", d)
		}
	}
	games := manyGames()
	for i, c := range manyCommittees() {
		if d := desk(c, games[i%len(games)]); !impl.IsDesk(d) {
			t.Errorf("%v is no desk", d)
		}
	}
	for _, g := range games {
		if d := desk(committee(1, 1), g); !impl.IsDesk(d) {
			t.Errorf("%v is no desk", d)
		}
	}
}

// TestLinesOnInvalidDesks has lines, too, after which there would be a committee or a game, and lines that are none.
func TestLinesOnInvalidDesks(t *testing.T) {
	lines := append(someLines(), "votes 1:1", "game 1;0", "", " ", "fly", "quota 1", "quota 0", "drop 9", "merge 0", "gain 0", "show\n", "\n", strings.Repeat("x", 3000), strings.Repeat("x", 3001))
	for _, d := range invalidDesks() {
		for _, line := range lines {
			checkFails(t, callOf("DeskLine", impl.DeskLine, d, line))
		}
	}
}

// TestDesksOfAnyNumbers has each number in each place of a desk.
func TestDesksOfAnyNumbers(t *testing.T) {
	for _, n := range slices.Concat(someInts, fromTo(-12, 12), []int{31, 32, 33, 999, 1000, 1001, 9000, 9001, 1<<32 + 1, 1<<32 + 4, 1 << 62}) {
		for _, x := range []struct {
			d  impl.Desk
			is bool
		}{
			{desk(committee(n, 3, 2, 2, 1), game(4, "01", "23")), n >= 1 && n <= 8},
			{desk(committee(5, n, 2, 2, 1), game(4, "01", "23")), n >= 0 && n <= 1000},
			{desk(committee(1, 3, 2, 2, n), game(4, "01", "23")), n >= 0 && n <= 1000},
			{desk(committee(n, n), game(4, "01", "23")), n >= 1 && n <= 1000},
			{desk(committee(5, 3, 2, 2, 1), game(n, "01", "23")), n >= 4 && n <= 9},
			{desk(committee(5, 3, 2, 2, 1), gameOfLists(4, []int{n, 3})), n >= 0 && n <= 2},
			{desk(committee(5, 3, 2, 2, 1), gameOfLists(9, []int{0}, []int{n})), n >= 1 && n <= 8},
			{desk(committee(n, n), gameOfLists(n, []int{n - 1})), n >= 1 && n <= 9},
			{desk(committee(n, n, n), gameOfLists(n, []int{n})), false},
		} {
			if impl.IsDesk(x.d) != x.is {
				t.Fatalf("IsDesk(%v) is %v", x.d, !x.is)
			}
			for _, line := range []string{"show", "sets", "votes 1:1", "of", "trade", "quota 0", "fly"} {
				if x.is {
					behind, reply := lineByWords(x.d, line)
					checkLine(t, x.d, line, behind, reply)
				} else {
					checkFails(t, callOf("DeskLine", impl.DeskLine, x.d, line))
				}
			}
		}
	}
}

func checkAnyLine(t *testing.T, d impl.Desk, line string) {
	t.Helper()
	if len(line) > 3000 || strings.Contains(line, "\n") {
		checkFails(t, callOf("DeskLine", impl.DeskLine, d, line))
		return
	}
	behind, reply := lineByWords(d, line)
	checkLine(t, d, line, behind, reply)
}

// TestLinesOfAnyBytes changes one byte of lines, and has lines of one byte or two.
func TestLinesOfAnyBytes(t *testing.T) {
	inParts(t, append(someLines(), "", "fly", "votes 5:3,2,2,1", "game 4;01.02.123", "gain 1,2,3", "give 3 0 1"), func(t *testing.T, _ int, line string) {
		eachChange(line, func(changed string) { checkAnyLine(t, impl.FirstDesk(), changed) })
	})
	for a := range 256 {
		for b := range 256 {
			checkAnyLine(t, impl.FirstDesk(), string([]byte{byte(a), byte(b)}))
		}
	}
}

// TestShortLines executes lines of each name with all words behind it of up to five signs.
func TestShortLines(t *testing.T) {
	names := []string{"votes", "merge", "split", "new", "give", "quota", "drop", "game", "of", "dual", "first", "without", "with", "show", "sets", "swings", "pivots", "orders", "least", "gain", "partners", "wins", "worth", "trade", ""}
	inParts(t, names, func(t *testing.T, _ int, name string) {
		eachText([]string{"0", "1", " ", ",", ":", ";"}, 5, func(s string) { checkAnyLine(t, impl.FirstDesk(), name+s) })
	})
}

// checkAnyText checks all that is told of a text, be it a script or not.
func checkAnyText(t *testing.T, s string) {
	t.Helper()
	if lines, ok := linesByWords(s); ok {
		x := courseOf(lines)
		checkScript(t, s, x.replies, x.last(), x.failed)
	} else {
		checkIsScript(t, s, false)
	}
}

func TestScriptsOfAnyBytes(t *testing.T) {
	texts := []string{"", "\n", "show\nsets\n", "quota 7\nfly\n\nof\n", "merge 0,1\ndrop 1\ndrop 0\n", "game 2;0.1\nwith 0\n"}
	inParts(t, texts, func(t *testing.T, _ int, s string) {
		eachChange(s, func(changed string) { checkAnyText(t, changed) })
	})
	eachText([]string{"\n", "of", " ", "show", "quota", "1"}, 5, func(s string) { checkAnyText(t, s) })
	z := lot(256)
	for range 3000 {
		bytes := make([]byte, z.below(40))
		for i := range bytes {
			bytes[i] = byte(z.below(256))
		}
		checkAnyText(t, string(bytes))
		checkAnyText(t, string(bytes)+"\n")
	}
}

// TestNoScripts has texts that are no scripts, each for one reason.
func TestNoScripts(t *testing.T) {
	for _, s := range []string{
		"x", "show", "show\nsets", "\n\n ", "\r", "\x00", "\xff", strings.Repeat("\n", 51), strings.Repeat("of\n", 51), strings.Repeat("of\n", 50) + "o", strings.Repeat("of\n", 50) + " ",
		strings.Repeat("x", 3000), strings.Repeat("x", 2999), strings.Repeat("x", 3000) + "\n", "show\n" + strings.Repeat("x", 3000) + "\n", strings.Repeat("x", 1500) + "\n" + strings.Repeat("x", 1499) + "\n",
		strings.Repeat("\n", 5000), strings.Repeat("show\n", 1000), strings.Repeat("show\n", 1000000), strings.Repeat("x", 1000000), strings.Repeat("\n", 1000000), strings.Repeat("\n", 49) + strings.Repeat("x", 1000000) + "\n",
	} {
		checkIsScript(t, s, false)
	}
}

// TestConsolesKeepArguments checks for calls that succeed and for calls that fail that they change, share and keep nothing.
func TestConsolesKeepArguments(t *testing.T) {
	var desks []impl.Desk
	games := knownGames()
	for i, c := range slices.Concat(validCommittees(), mixedCommittees(), unionCommittees()) {
		desks = append(desks, desk(c, games[i%len(games)]))
	}
	desks = append(desks, invalidDesks()...)
	lines := append(someLines(), "", "fly", "quota 0", "drop 9", "merge 0", "merge 0,9", "gain 0", "gain 1,0", "without 0", "with 0", "show\n", "votes 1", "game 1")
	inParts(t, desks, func(t *testing.T, _ int, d impl.Desk) {
		callOf("IsDesk", impl.IsDesk, d).mustKeepArguments(t)
		for _, line := range lines {
			callOf("DeskLine", impl.DeskLine, d, line).mustKeepArguments(t)
		}
	})
	callOf("FirstDesk", impl.FirstDesk).mustKeepArguments(t)
	for i, lines := range mixedScripts(200) {
		s := scriptOf(lines...)
		if i%3 == 0 {
			s = strings.TrimSuffix(s, "\n")
		}
		for _, c := range scriptCalls(s) {
			c.mustKeepArguments(t)
		}
	}
	for _, c := range append(scriptCalls("show"), scriptCalls("")...) {
		c.mustKeepArguments(t)
	}
}

// TestConsolesDoNotReadSpareRoom gives lists behind whose ends there is more.
func TestConsolesDoNotReadSpareRoom(t *testing.T) {
	weights, first, wins := []int{3, 2, 2, 1, 7, 1000}, []int{0, 1, 2, 3}, sets("01", "23", "3", "")
	wins[0] = first[:2]
	d := impl.Desk{Committee: impl.Committee{Quota: 5, Weights: weights[:4]}, Game: impl.Game{Members: 4, Wins: wins[:2]}}
	fresh := deskOf(t, "5:3,2,2,1", "4;01.23")
	if !impl.IsDesk(d) {
		t.Error("this is no desk:", d)
	}
	for _, line := range append(someLines(), "fly", "quota 9", "new 5", "merge 1,2", "split 3 1", "drop 3", "without 3", "with 3", "partners 3") {
		behind, reply := lineByWords(fresh, line)
		checkLine(t, d, line, behind, reply)
	}
	if !slices.Equal(weights, []int{3, 2, 2, 1, 7, 1000}) || !slices.Equal(first, upTo(4)) || !sameSets(wins, sets("01", "23", "3", "")) {
		t.Error("the lists are changed:", weights, first, wins)
	}
}

// TestLinesDoNotShareDesks executes lines on the desk behind other ones, and then changes that desk.
func TestLinesDoNotShareDesks(t *testing.T) {
	for _, line := range append(someLines(), "fly", "quota 0") {
		d := impl.FirstDesk()
		behind, reply, ok := impl.DeskLine(d, line)
		want, wantReply := lineByWords(deskOf(t, "5:3,2,2,1", "4;01.23"), line)
		for i := range d.Committee.Weights {
			d.Committee.Weights[i] = -1
		}
		for _, set := range d.Game.Wins {
			set[0] = -1
		}
		d.Game.Wins[0] = nil
		if !ok || reply != wantReply || !sameDesk(behind, want) {
			t.Errorf("behind %q is %v, %q, %v, not %v, %q", line, behind, reply, ok, want, wantReply)
		}
	}
}

// TestLongConsoles takes lists and texts that are far too long, and stops in time.
func TestLongConsoles(t *testing.T) {
	all := votesOf(committee(1, ofWeight(1, 9)...)).sets[1:]
	for _, d := range []impl.Desk{
		desk(committee(1, ofWeight(1, 100000)...), game(1, "0")),
		desk(committee(math.MaxInt, ofWeight(1000, 100000)...), game(1, "0")),
		desk(committee(1, 1), impl.Game{Members: 9, Wins: slices.Repeat(all, 100)}),
		desk(committee(1, 1), impl.Game{Members: 9, Wins: slices.Repeat(sets("0"), 100000)}),
		desk(committee(1, 1), gameOfLists(9, ofWeight(0, 100000))),
	} {
		if impl.IsDesk(d) {
			t.Error("a long list is on a desk")
		}
		checkFails(t, callOf("DeskLine", impl.DeskLine, d, "show"), callOf("DeskLine", impl.DeskLine, d, "votes 1:1"), callOf("DeskLine", impl.DeskLine, d, "game 1;0"))
	}
	for _, line := range []string{strings.Repeat("x", 1000000), strings.Repeat(" ", 1000000), "merge " + strings.Repeat("0,", 500000) + "0", "quota " + strings.Repeat("0", 1000000), "votes 1:" + strings.Repeat("1,", 500000) + "1", "game 9;" + strings.Repeat("8.", 500000) + "8"} {
		checkFails(t, callOf("DeskLine", impl.DeskLine, impl.FirstDesk(), line))
		checkIsScript(t, line+"\n", false)
	}
	// Lines that take as much time as one can.
	checkCourse(t, append(slices.Repeat([]string{"trade", "first"}, 24), "game 6;012.034.05.135.245", "trade")...)
	checkCourse(t, append([]string{"game 6;012.034.05.135.245"}, slices.Repeat([]string{"first", "trade"}, 24)...)...)
	checkCourse(t, append([]string{"votes 5:1,1,1,1,1,1,1,1,1", "of"}, slices.Repeat([]string{"dual", "partners 0", "orders", "worth"}, 12)...)...)
}
