package tests

import (
	"slices"
	"strings"
	"testing"

	"loop.example/g01275/impl"
)

// TestKnownChambers has one chamber and MaxChambers, chambers that are the same, that are needless one by one but not together, of which one says all, and a dictator in one who is a dummy in another.
func TestKnownChambers(t *testing.T) {
	for _, x := range []struct{ texts, all, some, needless, swings string }{
		{"2:1,1,0,0 2:0,0,1,1", "4;0123", "4;01.23", "", "1111"},
		// one chamber
		{"1:1", "1;0", "1;0", "", "1"},
		{"5:3,2,2,1", "4;01.02.123", "4;01.02.123", "", "5331"},
		{"1:0,0,0,0,0,0,0,0,1", "9;8", "9;8", "", ""},
		// the same ones
		{"5:3,2,2,1 5:3,2,2,1", "4;01.02.123", "4;01.02.123", "01", "5331"},
		{"5:3,2,2,1 50:30,20,20,10 5:3,2,2,1", "4;01.02.123", "4;01.02.123", "012", "5331"},
		{"1:1 5:9 1000:1000 1:2", "1;0", "1;0", "0123", "1"},
		{"2:1,1,0 2:1,1,0 1:0,0,1", "3;012", "3;01.2", "01", "111"},
		{"1:0,0,1 2:1,1,0 1:0,0,7", "3;012", "3;01.2", "02", "111"},
		// needless one by one, but not together: each pair says all
		{"2:0,1,1 2:1,0,1 2:1,1,0", "3;012", "3;01.02.12", "012", "111"},
		{"2:0,1,1 2:1,0,1", "3;012", "3;02.12", "", "111"},
		{"2:0,1,1 2:1,0,1 2:1,1,0 2:1,1,1", "3;012", "3;01.02.12", "0123", "111"},
		// one that says all: the first, one in between, the last
		{"3:1,1,1 1:1,1,1 2:1,1,1", "3;012", "3;0.1.2", "12", "111"},
		{"1:1,1,1 3:1,1,1 2:1,1,1", "3;012", "3;0.1.2", "02", "111"},
		{"1:1,1,1 2:1,1,1 3:1,1,1", "3;012", "3;0.1.2", "01", "111"},
		{"1:1,1,1 3:2,1,1 2:1,1,1 1:0,1,1", "3;01.02", "3;0.1.2", "023", "311"},
		// one that is needless beside two that are not, and four that all are needed
		{"1:1,1,1 2:2,1,1 1:0,1,1", "3;01.02.12", "3;0.1.2", "0", "222"},
		{"1:1,0,0,0 1:0,1,0,0 1:0,0,1,0 1:0,0,0,1", "4;0123", "4;0.1.2.3", "", "1111"},
		// a dictator in one chamber, a dummy in another
		{"1:1,0 1:0,1", "2;01", "2;0.1", "", "11"},
		{"4:4,1,1 2:0,1,1", "3;012", "3;0.12", "", "111"},
		{"1:1,0,0 2:1,1,1", "3;01.02", "3;0.12", "", "311"},
		{"4:4,1,1 1:0,1,0 1:1,1,0", "3;01", "3;0.1", "2", "220"},
		{"4:4,1,1 4:1,4,1 4:1,1,4 1:1,1,1", "3;012", "3;0.1.2", "3", "111"},
	} {
		list := committees(t, x.texts)
		if !impl.AreChambers(list) {
			t.Fatalf("AreChambers(%v) is false", list)
		}
		checkGame(t, callOf("AllGame", impl.AllGame, list), gameOfWord(x.all))
		checkGame(t, callOf("SomeGame", impl.SomeGame, list), gameOfWord(x.some))
		checkMembersOf(t, callOf("NeedlessChambers", impl.NeedlessChambers, list), inDigits(x.needless))
		if x.swings != "" {
			checkMembersOf(t, callOf("SwingsOfChambers", impl.SwingsOfChambers, list), inDigits(x.swings))
		}
	}
	last := []int{0, 0, 0, 0, 0, 0, 0, 0, 256}
	checkMembersOf(t, callOf("SwingsOfChambers", impl.SwingsOfChambers, committees(t, "1:0,0,0,0,0,0,0,0,1")), last)
}

// TestKnownWins has the empty set, the whole one, and sets that win in all chambers, in some and in none.
func TestKnownWins(t *testing.T) {
	for _, x := range []struct{ texts, set, wins string }{
		{"2:1,1,0,0 2:0,0,1,1", "0123", "all"},
		{"2:1,1,0,0 2:0,0,1,1", "", "none"},
		{"2:1,1,0,0 2:0,0,1,1", "01", "some"},
		{"2:1,1,0,0 2:0,0,1,1", "23", "some"},
		{"2:1,1,0,0 2:0,0,1,1", "123", "some"},
		{"2:1,1,0,0 2:0,0,1,1", "02", "none"},
		{"2:1,1,0,0 2:0,0,1,1", "3", "none"},
		{"1:1", "", "none"},
		{"1:1", "0", "all"},
		{"5:3,2,2,1", "03", "none"},
		{"5:3,2,2,1", "123", "all"},
		{"1:1,0 1:0,1", "0", "some"},
		{"1:1,0 1:0,1", "1", "some"},
		{"1:1,0 1:0,1", "01", "all"},
		{"3:1,1,1 1:1,1,1 2:1,1,1", "1", "some"},
		{"3:1,1,1 1:1,1,1 2:1,1,1", "12", "some"},
		{"3:1,1,1 1:1,1,1 2:1,1,1", "012", "all"},
		{"3:1,1,1 1:1,1,1 2:1,1,1", "", "none"},
		{"1:0,0,0,0,0,0,0,0,1 1:1,0,0,0,0,0,0,0,0", "08", "all"},
		{"1:0,0,0,0,0,0,0,0,1 1:1,0,0,0,0,0,0,0,0", "8", "some"},
		{"1:0,0,0,0,0,0,0,0,1 1:1,0,0,0,0,0,0,0,0", "1234567", "none"},
		{"1:0,0,0,0,0,0,0,0,1 1:1,0,0,0,0,0,0,0,0", "012345678", "all"},
	} {
		list, set := committees(t, x.texts), inDigits(x.set)
		checkAnswer(t, callOf("WinsAll", impl.WinsAll, list, set), x.wins == "all")
		checkAnswer(t, callOf("WinsSome", impl.WinsSome, list, set), x.wins != "none")
	}
}

// TestHowManyChambers has lists of each length about MaxChambers, and chambers of different sizes.
func TestHowManyChambers(t *testing.T) {
	for _, c := range []impl.Committee{committee(1, 1), committee(5, 3, 2, 2, 1), committee(5, ofWeight(1, 9)...)} {
		for n := range 12 {
			list := slices.Repeat([]impl.Committee{c}, n)
			if n < 1 || n > 4 {
				checkNoChambers(t, list)
				continue
			}
			if !impl.AreChambers(list) {
				t.Fatalf("AreChambers(%v) is false", list)
			}
			mustSucceedIf(t, true, chamberCalls(list, []int{0})...)
			// Of two or more that are the same, each one is needless.
			needless := upTo(n)
			if n == 1 {
				needless = nil
			}
			checkMembersOf(t, callOf("NeedlessChambers", impl.NeedlessChambers, list), needless)
		}
	}
	for _, texts := range []string{"1:1 1:1,0", "1:1,0 1:1", "5:3,2,2,1 2:1,1,1", "2:1,1,1 5:3,2,2,1", "2:1,1,1 2:1,1,1 2:1,1,1 2:1,1", "2:1,1,1 2:1,1,1 2:1,1,1 2:1,1,1,1", "2:1,1,1 2:1,1,1,1 2:1,1,1 2:1,1,1", "2:1,1,1,1,1,1,1,1,1 2:1,1,1,1,1,1,1,1"} {
		checkNoChambers(t, committees(t, texts))
	}
}

// TestKnownHeads has heads of 0, of 1 and of all.
func TestKnownHeads(t *testing.T) {
	for _, x := range []struct{ text, games string }{
		{"1:1", "1;0 1;0"},
		{"5:4,1,1", "3;01.02 3;01.02 3;01.02 3;012"},
		{"4:4,1,1", "3;0 3;0 3;01.02 3;012"},
		{"1:0,1", "2;1 2;1 2;01"},
		{"1:1,1,1", "3;0.1.2 3;0.1.2 3;01.02.12 3;012"},
		{"3:1,1,1", "3;012 3;012 3;012 3;012"},
		{"5:3,2,2,1", "4;01.02.123 4;01.02.123 4;01.02.123 4;012.013.023.123 4;0123"},
		{"3:3,1,1,1", "4;0.123 4;0.123 4;01.02.03.123 4;012.013.023.123 4;0123"},
		{"1:1,0,0,0", "4;0 4;0 4;01.02.03 4;012.013.023 4;0123"},
	} {
		c := mustParse(t, x.text)
		for heads, want := range strings.Fields(x.games) {
			checkGame(t, callOf("HeadsGame", impl.HeadsGame, c, heads), gameOfWord(want))
		}
		n := len(c.Weights)
		checkFails(t, callOf("HeadsGame", impl.HeadsGame, c, -1), callOf("HeadsGame", impl.HeadsGame, c, n+1))
	}
	for heads := range 10 {
		checkGame(t, callOf("HeadsGame", impl.HeadsGame, committee(4, ofWeight(1, 9)...), heads), majority(9, max(heads, 4)))
	}
	checkFails(t, callOf("HeadsGame", impl.HeadsGame, committee(4, ofWeight(1, 9)...), 10))
}
