package tests

import (
	"strings"
	"testing"

	"loop.example/g01275/impl"
)

// checkPairs takes a row of letters for each member: g where it is greater than the other one, e where they are equal, l where it is less, u where they are unlike.
func checkPairs(t *testing.T, g impl.Game, rows []string) {
	t.Helper()
	table := [][]int{}
	for i, row := range rows {
		table = append(table, nil)
		under := []int{}
		for j, word := range row {
			isWorth := word == 'g' || word == 'e'
			table[i] = append(table[i], strings.Count("ge", string(word)))
			if word == 'g' {
				under = append(under, j)
			}
			compare := callOf("CompareMembers", impl.CompareMembers, g, i, j)
			if i == j {
				checkFails(t, compare)
				checkFails(t, worthCalls(g, i, j)...)
				continue
			}
			checkAnswer(t, callOf("IsWorth", impl.IsWorth, g, i, j), isWorth)
			checkAnswer(t, callOf("AreUnlike", impl.AreUnlike, g, i, j), word == 'u')
			if word == 'u' {
				checkFails(t, compare)
			} else {
				checkAnswer(t, compare, strings.IndexRune("leg", word)-1)
			}
		}
		checkMembersOf(t, callOf("UnderMembers", impl.UnderMembers, g, i), under)
	}
	checkSetsOf(t, callOf("WorthTable", impl.WorthTable, g), table)
}

// TestKnownPairs has games of one member, members who are equal, greater, less and unlike, and members who never count.
func TestKnownPairs(t *testing.T) {
	for _, x := range []struct{ game, rows string }{
		{"1;0", "e"},
		{"2;0", "eg le"},
		{"2;1", "el ge"},
		{"2;01", "ee ee"},
		{"2;0.1", "ee ee"},
		{"3;0.12", "egg lee lee"},
		{"4;01.02.123", "eggg leeg leeg llle"},
		{"4;01.23", "eeuu eeuu uuee uuee"},
		{"4;02.13", "eueu ueue eueu ueue"},
		{"4;02.03.12.13", "eeuu eeuu uuee uuee"},
		{"4;01.03.12", "eugg uegg lleu llue"},
		{"4;0123", "eeee eeee eeee eeee"},
		// members who never count are less than all others, and equal to one another
		{"4;3", "eeel eeel eeel ggge"},
		{"4;01", "eegg eegg llee llee"},
		{"5;01.23", "eeuug eeuug uueeg uueeg lllle"},
		{"5;01.234", "eeuuu eeuuu uueee uueee uueee"},
		{"5;01.04.134.24", "egggu leugl luegl lllel uggge"},
		{"6;05.14.23", "euuuue ueuueu uueeuu uueeuu ueuueu euuuue"},
		{"9;07.17.27", "eeegggglg eeegggglg eeegggglg llleeeele llleeeele llleeeele llleeeele gggggggeg llleeeele"},
		{"9;8", "eeeeeeeel eeeeeeeel eeeeeeeel eeeeeeeel eeeeeeeel eeeeeeeel eeeeeeeel eeeeeeeel gggggggge"},
	} {
		checkPairs(t, gameOfWord(x.game), strings.Fields(x.rows))
	}
}

// TestKnownClasses has classes of one member and of all, games that are complete though they have no weights, and games that are not complete.
func TestKnownClasses(t *testing.T) {
	for _, x := range []struct{ game, classes string }{
		{"1;0", "0"},
		{"2;0", "0 1"},
		{"2;1", "1 0"},
		{"2;01", "01"},
		{"2;0.1", "01"},
		{"3;1", "1 02"},
		{"3;0.12", "0 12"},
		{"4;01.02.123", "0 12 3"},
		{"4;012.03.13", "3 01 2"},
		{"4;012.13.23", "3 12 0"},
		{"4;03.13.23", "3 012"},
		{"4;0.1.2.3", "0123"},
		{"5;01.02.03.123", "0 123 4"},
		{"5;123.14.24.34", "4 123 0"},
		{"5;0123.024.124.34", "4 3 2 01"},
		{"6;012.013.014.015.023.024.034.035.123.124.125.134.135.145", "1 0 3 24 5"},
		{"9;07.17.27", "7 012 34568"},
		{"9;0", "0 12345678"},
		{"9;012345678", "012345678"},
		// no weights
		{"6;01.02.03.1234.1235.1245", "0 12 3 45"},
		{"6;01.02.034.035.045.123", "0 12 3 45"},
		{"6;01.023.024.034.1234.1235.1245.1345.2345", "0 1 234 5"},
		// not complete
		{"4;01.23", ""},
		{"4;02.13", ""},
		{"4;02.03.12.13", ""},
		{"4;01.03.12", ""},
		{"5;01.23", ""},
		{"5;01.234", ""},
		{"6;01.02.034.135", ""},
		{"6;05.14.23", ""},
		{"7;013.026.045.124.156.235.346", ""},
		{"8;01.23.45.67", ""},
		{"9;012.345.678", ""},
		{"9;01.23", ""},
	} {
		g := gameOfWord(x.game)
		classes, order := callOf("ClassesOf", impl.ClassesOf, g), callOf("OrderOfWorth", impl.OrderOfWorth, g)
		checkAnswer(t, callOf("IsComplete", impl.IsComplete, g), x.classes != "")
		if x.classes == "" {
			checkFails(t, classes, order)
			continue
		}
		checkSetsOf(t, classes, sets(strings.Fields(x.classes)...))
		checkMembersOf(t, order, inDigits(strings.ReplaceAll(x.classes, " ", "")))
	}
}

// TestKnownShifts has the set of everybody and the empty set, least winning sets that are not shifted least, winning ones that no lesser member can replace but that are not least winning, and the same for losing ones.
func TestKnownShifts(t *testing.T) {
	for _, x := range []struct{ game, least, greatest string }{
		{"1;0", "0", "-"},
		{"2;0", "0", "1"},
		{"2;1", "1", "0"},
		// everybody
		{"2;01", "01", "0 1"},
		{"4;0123", "0123", "012 013 023 123"},
		{"9;012345678", "012345678", "01234567 01234568 01234578 01234678 01235678 01245678 01345678 02345678 12345678"},
		// the empty set
		{"2;0.1", "0 1", "-"},
		{"4;0.1.2.3", "0 1 2 3", "-"},
		{"9;0.1.2.3.4.5.6.7.8", "0 1 2 3 4 5 6 7 8", "-"},
		// 1 3 and 2 3 lose with 2 or 1 for 3, too.
		{"4;01.02.123", "01 02 123", "03 12"},
		// 0 1 and 0 2 win with 3 for 1 or 2, too.
		{"4;01.02.03.123", "01 02 03 123", "0 12 13 23"},
		{"4;01.02.03.12", "03 12", "0 13 23"},
		{"3;0.12", "0 12", "1 2"},
		// 0 1 wins with 2 for 1, too; 1 3 4 and 3 4 lose with 2 for 3, too.
		{"5;01.02.1234", "01 02 1234", "034 123 124"},
		{"5;01.02.034.12.134.234", "01 02 034 12 134 234", "03 04 13 14 23 24"},
		{"5;01.02.034.12.134", "02 034 12 134", "03 04 13 14 234"},
		// members who never count
		{"4;01", "01", "023 123"},
		{"4;3", "3", "012"},
		{"5;01.02.03.123", "01 02 03 123", "04 124 134 234"},
		{"9;07.17.27", "07 17 27", "01234568 345678"},
		{"9;0.12345678", "0 12345678", "1234567 1234568 1234578 1234678 1235678 1245678 1345678 2345678"},
		// no weights, and unlike members
		{"6;01.02.03.1234.1235.1245", "03 1245", "045 123 1345 2345"},
		{"4;01.23", "01 23", "02 03 12 13"},
		{"4;02.03.12.13", "02 03 12 13", "01 23"},
		{"5;01.04.134.24", "01 134 24", "023 14"},
		{"5;01.23", "01 23", "024 034 124 134"},
		{"6;05.14.23", "05 14 23", "012 013 024 034 125 135 245 345"},
	} {
		g := gameOfWord(x.game)
		greatest := sets(strings.Fields(x.greatest)...)
		if x.greatest == "-" {
			greatest = [][]int{{}}
		}
		checkSetsOf(t, callOf("ShiftLeast", impl.ShiftLeast, g), sets(strings.Fields(x.least)...))
		checkSetsOf(t, callOf("ShiftGreatest", impl.ShiftGreatest, g), greatest)
	}
}
