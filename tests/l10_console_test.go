package tests

import (
	"strings"
	"testing"

	"loop.example/g01275/impl"
)

func TestConsoleExample(t *testing.T) {
	lines := []string{"swings", "orders", "least", "gain 1,2", "partners 3", "trade", "of", "worth", "dual", "wins", "without 0", "merge 1,2", "quota 9", "votes 5:0", "fly"}
	replies := []string{"5,3,3,1", "5/12,1/4,1/4,1/12", "01,02,123", "more", "0", "01,23,02,13", "4;01.02.123", "0,1,2,3", "4;01.02.03.12", "9", "3;01", "5:3,4,1", "no", "what", "what"}
	checkScript(t, scriptOf(lines...), replies, deskOf(t, "5:3,4,1", "3;01"), []int{13, 14, 15})
	for first := range lines {
		checkReplies(t, scriptOf(lines[:first]...), replies[:first])
	}
}

func TestFirstDesk(t *testing.T) {
	d := impl.FirstDesk()
	if !sameDesk(d, desk(committee(5, 3, 2, 2, 1), game(4, "01", "23"))) || !impl.IsDesk(d) {
		t.Error("FirstDesk is", d)
	}
	checkLine(t, d, "show", d, "5:3,2,2,1")
	checkLine(t, d, "sets", d, "4;01.23")
	// What is done with one does not change the next one.
	d.Committee.Weights[0], d.Game.Wins[0][0], d.Game.Wins[1] = 7, 3, nil
	if d := impl.FirstDesk(); !sameDesk(d, desk(committee(5, 3, 2, 2, 1), game(4, "01", "23"))) {
		t.Error("FirstDesk is then", d)
	}
	checkReplies(t, "show\nsets\n", []string{"5:3,2,2,1", "4;01.23"})
}

// A known line is executed on a committee with some game: want is the reply, and also the committee behind it if this is another one.
type knownLine struct{ committee, line, want string }

// checkCommitteeLines checks that the games stay.
func checkCommitteeLines(t *testing.T, lines []knownLine) {
	t.Helper()
	for _, x := range lines {
		for _, g := range []string{"4;01.23", "1;0", "9;012345678"} {
			before := deskOf(t, x.committee, g)
			behind := before
			if strings.Contains(x.want, ":") {
				behind.Committee = mustParse(t, x.want)
			}
			checkLine(t, before, x.line, behind, x.want)
		}
	}
}

func TestKnownLinesThatSetCommittees(t *testing.T) {
	nine, heavy := "5:1,1,1,1,1,1,1,1,1", "9000:1000,1000,1000,1000,1000,1000,1000,1000,1000"
	checkCommitteeLines(t, []knownLine{
		{"5:3,2,2,1", "votes 1:1", "1:1"},
		{"5:3,2,2,1", "votes 5:3,2,2,1", "5:3,2,2,1"},
		{"1:1", "votes " + heavy, heavy},
		{"1:1", "votes 1000:1000", "1000:1000"},
		{"1:1", "votes 10:0,10,0", "10:0,10,0"},
		{"5:3,2,2,1", "votes 9:3,2,2,1", "what"},
		{"5:3,2,2,1", "votes 5:0", "what"},
		{"5:3,2,2,1", "votes 0:1", "what"},
		{"5:3,2,2,1", "votes 1:1001", "what"},
		{"5:3,2,2,1", "votes 1:1,1,1,1,1,1,1,1,1,1", "what"},
		{"5:3,2,2,1", "votes 5", "what"},
		{"5:3,2,2,1", "votes 4;01.23", "what"},
		{"5:3,2,2,1", "merge 1,2", "5:3,4,1"},
		{"5:3,2,2,1", "merge 0", "5:3,2,2,1"},
		{"5:3,2,2,1", "merge 0,3", "5:4,2,2"},
		{"5:3,2,2,1", "merge 0,1,2,3", "5:8"},
		{"5:3,2,2,1", "merge 3", "5:3,2,2,1"},
		{nine, "merge 1,3,5,7", "5:1,4,1,1,1,1"},
		{"900:500,500,501,0", "merge 0,1", "900:1000,501,0"},
		{"900:500,500,501,0", "merge 0,2", "no"},
		{"5:3,2,2,1", "merge 2,1", "no"},
		{"5:3,2,2,1", "merge 1,1", "no"},
		{"5:3,2,2,1", "merge 0,1,1", "no"},
		{"5:3,2,2,1", "merge 4", "no"},
		{"5:3,2,2,1", "merge 0,4", "no"},
		{"5:3,2,2,1", "merge 999999", "no"},
		{"5:3,2,2,1", "merge 0,1,2,3,4,5,6,7,8,9", "no"},
		{"5:3,2,2,1", "split 0 1", "5:1,2,2,2,1"},
		{"5:3,2,2,1", "split 0 0", "5:0,3,2,2,1"},
		{"5:3,2,2,1", "split 0 3", "5:3,0,2,2,1"},
		{"5:3,2,2,1", "split 1 0", "5:3,0,2,2,1"},
		{"5:3,2,2,1", "split 3 1", "5:3,2,2,1,0"},
		{"1000:1000", "split 0 400", "1000:400,600"},
		{"5:3,2,2,1", "split 0 4", "no"},
		{"5:3,2,2,1", "split 4 0", "no"},
		{"5:3,2,2,1", "split 999999 999999", "no"},
		{nine, "split 0 0", "no"},
		{"5:3,2,2,1", "new 0", "5:3,2,2,1,0"},
		{"5:3,2,2,1", "new 7", "5:3,2,2,1,7"},
		{"1:1", "new 1000", "1:1,1000"},
		{"1:1", "new 1001", "no"},
		{"1:1", "new 999999", "no"},
		{nine, "new 0", "no"},
		{"5:3,2,2,1", "give 0 1 2", "5:1,4,2,1"},
		{"5:3,2,2,1", "give 1 0 2", "5:5,0,2,1"},
		{"5:3,2,2,1", "give 3 2 0", "5:3,2,2,1"},
		{"5:3,2,2,1", "give 2 3 1", "5:3,2,1,2"},
		{"5:3,2,2,1", "give 0 3 3", "5:0,2,2,4"},
		{"5:3,2,2,1", "give 0 1 4", "no"},
		{"5:3,2,2,1", "give 1 0 3", "no"},
		{"5:3,2,2,1", "give 0 0 1", "no"},
		{"5:3,2,2,1", "give 0 4 1", "no"},
		{"5:3,2,2,1", "give 4 0 0", "no"},
		{"900:500,500,501,0", "give 0 1 500", "900:0,1000,501,0"},
		{"900:500,500,501,0", "give 0 2 500", "no"},
		{"1:1", "give 0 0 0", "no"},
		{"5:3,2,2,1", "quota 1", "1:3,2,2,1"},
		{"5:3,2,2,1", "quota 5", "5:3,2,2,1"},
		{"5:3,2,2,1", "quota 8", "8:3,2,2,1"},
		{"5:3,2,2,1", "quota 0", "no"},
		{"5:3,2,2,1", "quota 9", "no"},
		{"5:3,2,2,1", "quota 999999", "no"},
		{"1:1", "quota 1", "1:1"},
		{"1:1", "quota 2", "no"},
		{"1:1000,1000,1000,1000,1000,1000,1000,1000,1000", "quota 9000", heavy},
		{heavy, "quota 9001", "no"},
		{"5:3,2,2,1", "drop 0", "5:2,2,1"},
		{"5:3,2,2,1", "drop 1", "5:3,2,1"},
		{"5:3,2,2,1", "drop 3", "5:3,2,2"},
		{"5:3,2,2,1", "drop 4", "no"},
		{"6:3,2,2,1", "drop 0", "no"},
		{"6:3,2,2,1", "drop 1", "6:3,2,1"},
		{heavy, "drop 8", "no"},
		{nine, "drop 8", "5:1,1,1,1,1,1,1,1"},
		{"1:1", "drop 0", "no"},
		{"1:0,1", "drop 1", "no"},
		{"1:0,1", "drop 0", "1:1"},
	})
}

func TestKnownLinesThatSetGames(t *testing.T) {
	for _, x := range []struct{ committee, game, line, want string }{
		{"5:3,2,2,1", "4;01.23", "game 1;0", "1;0"},
		{"1:1", "4;01.23", "game 9;012345678", "9;012345678"},
		{"1:1", "4;01.23", "game 4;01.23", "4;01.23"},
		{"1:1", "4;01.23", "game 3;0.1.2", "3;0.1.2"},
		{"1:1", "4;01.23", "game 3;0.01", "what"},
		{"1:1", "4;01.23", "game 3;1.0", "what"},
		{"1:1", "4;01.23", "game 3;3", "what"},
		{"1:1", "4;01.23", "game 3;", "what"},
		{"1:1", "4;01.23", "game 10;0", "what"},
		{"1:1", "4;01.23", "game 5:3,2,2,1", "what"},
		{"5:3,2,2,1", "4;01.23", "of", "4;01.02.123"},
		{"5:3,2,2,1", "1;0", "of", "4;01.02.123"},
		{"1:1", "4;01.23", "of", "1;0"},
		{"9:1,1,1,1,1,1,1,1,1", "1;0", "of", "9;012345678"},
		{"4:4,1,1", "4;01.23", "of", "3;0"},
		{"5:3,2,2,1", "4;01.02.123", "dual", "4;01.02.03.12"},
		{"1:1", "4;01.02.03.12", "dual", "4;01.02.123"},
		{"1:1", "4;01.23", "dual", "4;02.03.12.13"},
		{"1:1", "9;012345678", "dual", "9;0.1.2.3.4.5.6.7.8"},
		{"1:1", "1;0", "dual", "1;0"},
		{"5:3,2,2,1", "4;01.23", "first", "4;01.23"},
		{"1:1", "4;02.13", "first", "4;01.23"},
		{"1:1", "2;1", "first", "2;0"},
		{"1:1", "4;012.13.23", "first", "4;01.02.123"},
		{"1:1", "6;05.14.23", "first", "6;01.23.45"},
		{"1:1", "7;0", "first", "no"},
		{"1:1", "9;8", "first", "no"},
		{"1:1", "4;01.02.123", "without 0", "3;012"},
		{"1:1", "4;01.02.123", "with 0", "3;0.1"},
		{"1:1", "4;01.02.123", "without 3", "3;01.02"},
		{"1:1", "4;01.02.123", "with 3", "3;01.02.12"},
		{"5:3,2,2,1", "4;01.23", "without 0", "3;12"},
		{"5:3,2,2,1", "4;01.23", "with 0", "3;0.12"},
		{"1:1", "4;01.23", "without 4", "no"},
		{"1:1", "4;01.23", "with 4", "no"},
		{"1:1", "4;01.23", "without 999999", "no"},
		{"1:1", "4;01.23", "with 999999", "no"},
		{"1:1", "1;0", "without 0", "no"},
		{"1:1", "1;0", "with 0", "no"},
		{"1:1", "4;0", "without 0", "no"},
		{"1:1", "4;0", "with 0", "no"},
		{"1:1", "4;0", "without 1", "3;0"},
		{"1:1", "4;0", "with 1", "3;0"},
		{"1:1", "4;01.02", "without 0", "no"},
		{"1:1", "4;01.02", "with 0", "3;0.1"},
		{"1:1", "9;012345678", "with 8", "8;01234567"},
	} {
		before := deskOf(t, x.committee, x.game)
		behind := before
		if strings.Contains(x.want, ";") {
			behind.Game = gameOfWord(x.want)
		}
		checkLine(t, before, x.line, behind, x.want)
	}
}

func TestKnownQuestionsOfCommittees(t *testing.T) {
	one, nine := "1:1", "5:1,1,1,1,1,1,1,1,1"
	// A reply with a colon would be taken for an effect; that of show is the committee itself.
	checkCommitteeLines(t, []knownLine{
		{"5:3,2,2,1", "show", "5:3,2,2,1"},
		{one, "show", one},
		{nine, "show", nine},
		{"5:3,2,2,1", "swings", "5,3,3,1"},
		{one, "swings", "1"},
		{"4:4,1,1", "swings", "4,0,0"},
		{nine, "swings", "70,70,70,70,70,70,70,70,70"},
		{"5:3,2,2,1", "pivots", "10,6,6,2"},
		{one, "pivots", "1"},
		{"4:4,1,1", "pivots", "6,0,0"},
		{nine, "pivots", "40320,40320,40320,40320,40320,40320,40320,40320,40320"},
		{"5:3,2,2,1", "orders", "5/12,1/4,1/4,1/12"},
		{one, "orders", "1/1"},
		{"4:4,1,1", "orders", "1/1,0/1,0/1"},
		{"5:4,1,1", "orders", "2/3,1/6,1/6"},
		{nine, "orders", "1/9,1/9,1/9,1/9,1/9,1/9,1/9,1/9,1/9"},
		{"5:3,2,2,1", "least", "01,02,123"},
		{one, "least", "0"},
		{"4:4,1,1", "least", "0"},
		{"1:1,1,1", "least", "0,1,2"},
		{"9:1,1,1,1,1,1,1,1,1", "least", "012345678"},
		{"1:0,0,0,0,0,0,0,0,1", "least", "8"},
		{"5:3,2,2,1", "gain 1,2", "more"},
		{"5:3,2,2,1", "gain 0", "same"},
		{"5:3,2,2,1", "gain 0,1,2,3", "same"},
		{"4:4,1,1", "gain 1,2", "same"},
		{"1:1,1,1", "gain 0,1", "less"},
		{"2:1,1,1", "gain 0,1", "more"},
		// by swings, not by orders, by which it is the same or more
		{"2:1,1,1,2", "gain 0,1,2", "less"},
		{"2:1,1,1,1,2", "gain 0,1,2", "less"},
		{"5:3,2,2,1", "gain 4", "no"},
		{"5:3,2,2,1", "gain 2,1", "no"},
		{"5:3,2,2,1", "gain 1,1", "no"},
		{"5:3,2,2,1", "gain 0,999999", "no"},
		{"900:500,500,501,0", "gain 0,2", "no"},
		{"5:3,2,2,1", "partners 3", "0"},
		{"5:3,2,2,1", "partners 0", "1,2"},
		{"8:5,3,1,1,1", "partners 1", "0,2,3,4"},
		{"5:3,2,2,1", "partners 4", "no"},
		{"5:3,2,2,1", "partners 999999", "no"},
		// there are none
		{one, "partners 0", "no"},
		{"700:1000,1000", "partners 0", "no"},
		{"501:500,501", "partners 1", "no"},
	})
}

func TestKnownQuestionsOfGames(t *testing.T) {
	for _, x := range []struct{ game, line, want string }{
		{"4;01.23", "sets", "4;01.23"},
		{"1;0", "sets", "1;0"},
		{"9;0.1.2.3.4.5.6.7.8", "sets", "9;0.1.2.3.4.5.6.7.8"},
		{"4;01.23", "wins", "7"},
		{"4;01.02.03.12", "wins", "9"},
		{"1;0", "wins", "1"},
		{"9;012345678", "wins", "1"},
		{"9;0.1.2.3.4.5.6.7.8", "wins", "511"},
		{"4;01.02.123", "worth", "0,1,2,3"},
		{"1;0", "worth", "0"},
		{"4;3", "worth", "3,0,1,2"},
		{"9;8", "worth", "8,0,1,2,3,4,5,6,7"},
		{"3;0.1.2", "worth", "0,1,2"},
		// unlike members
		{"4;01.23", "worth", "no"},
		{"4;02.13", "worth", "no"},
		{"4;01.23", "trade", "01,23,02,13"},
		{"4;02.13", "trade", "02,13,01,23"},
		{"5;012.34", "trade", "012,034,013,024"},
		// the first trade is no swap
		{"6;01.035.13.235.345", "trade", "01,2345,023,145"},
		{"6;01.02.03.1234.1235.1245", "trade", "03,1245,045,123"},
		// no trade
		{"4;01.02.123", "trade", "no"},
		{"1;0", "trade", "no"},
		{"6;012345", "trade", "no"},
		// too many members
		{"7;01.23", "trade", "no"},
		{"9;012.345.678", "trade", "no"},
	} {
		for _, text := range []string{"5:3,2,2,1", "1:1", "9:1,1,1,1,1,1,1,1,1"} {
			d := deskOf(t, text, x.game)
			checkLine(t, d, x.line, d, x.want)
		}
	}
}

// TestCommitteesAndGamesApart changes one of both and asks for the other one.
func TestCommitteesAndGamesApart(t *testing.T) {
	lines := []string{
		"votes 2:1,1,1", "sets", "show", "of", "show", "quota 3", "sets", "of", "dual", "show", "new 1", "wins", "drop 0",
		"game 4;01.23", "show", "swings", "without 0", "least", "with 2", "sets", "merge 0,1", "trade", "of", "give 0 1 1", "sets", "split 0 1", "worth", "first", "pivots",
	}
	replies := []string{
		"2:1,1,1", "4;01.23", "2:1,1,1", "3;01.02.12", "2:1,1,1", "3:1,1,1", "3;01.02.12", "3;012", "3;0.1.2", "3:1,1,1", "3:1,1,1,1", "7", "3:1,1,1",
		"4;01.23", "3:1,1,1", "1,1,1", "3;12", "012", "2;1", "2;1", "3:2,1", "no", "2;01", "3:1,2", "2;01", "3:1,0,2", "0,1", "2;01", "3,0,3",
	}
	checkScript(t, scriptOf(lines...), replies, deskOf(t, "3:1,0,2", "2;01"), []int{22})
}

// TestNothingChangesByFailedLines has lines of each kind that fail, and asks for the committee and the game behind each one.
func TestNothingChangesByFailedLines(t *testing.T) {
	failing := map[string][]string{
		"no": {
			"quota 0", "quota 9", "merge 4", "merge 1,0", "split 0 4", "split 9 0", "new 1001", "give 0 1 4", "give 0 0 0", "give 4 0 0", "drop 4",
			"without 4", "with 4", "worth", "gain 7", "gain 0,0", "partners 5",
		},
		"what": {
			"quota 1000000", "quota", "quota 1 ", "merge 0,,1", "merge", "split 0", "split 0 1 1", "new -1", "give 0 1", "give 0 1 1 1", "drop 4 4", "drop  0",
			"votes 9:3,2,2,1", "votes 0:0", "votes", "Votes 1:1", "game 4;01.23.", "game 4;23.01", "game", "game 1;0 ", "of 1", " of", "dual 0", "first 1",
			"without", "with 00", "gain", "partners x", "show 1", "sets ", "swings 0", "fly", "", " ",
		},
	}
	for reply, lines := range failing {
		for _, line := range lines {
			d := deskOf(t, "5:3,2,2,1", "4;01.23")
			checkLine(t, d, line, d, reply)
			checkScript(t, scriptOf(line, "show", "sets"), []string{reply, "5:3,2,2,1", "4;01.23"}, d, []int{1})
		}
	}
}

// TestKnownFailures has the numbers of the lines that fail, for no and for what, and behind lines that are empty.
func TestKnownFailures(t *testing.T) {
	for _, x := range []struct {
		lines  string
		failed []int
	}{
		{"", nil},
		{"show", nil},
		{"fly", []int{1}},
		{"quota 0", []int{1}},
		{"show|fly", []int{2}},
		{"show|quota 0", []int{2}},
		{"quota 0|fly|show|fly|quota 0", []int{1, 2, 4, 5}},
		{"||", []int{1, 2, 3}},
		{"|show||show|", []int{1, 3, 5}},
		{"show|sets|wins|swings|pivots|orders|least|worth|trade|of|worth|trade", []int{8, 12}},
		{"votes 2:1,1|partners 0|merge 0,1|partners 0|merge 0,1", []int{4, 5}},
	} {
		s := scriptOf(strings.Split(x.lines, "|")...)
		if x.lines == "" {
			s = ""
		}
		checkMembersOf(t, callOf("FailedLines", impl.FailedLines, s), x.failed)
	}
}
