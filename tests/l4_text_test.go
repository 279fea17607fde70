package tests

import (
	"regexp"
	"strings"
	"testing"

	"loop.example/g01275/impl"
)

func TestGameText(t *testing.T) {
	for _, x := range []struct {
		g    impl.Game
		want string
	}{
		{game(4, "01", "02", "123"), "4;01.02.123"},
		{game(4, "01", "02", "03", "12"), "4;01.02.03.12"},
		{game(1, "0"), "1;0"},
		{game(3, "0", "12"), "3;0.12"},
		{game(9, "012345678"), "9;012345678"},
		{game(9, "8"), "9;8"},
		{game(9, "0", "1", "2", "3", "4", "5", "6", "7", "8"), "9;0.1.2.3.4.5.6.7.8"},
		{game(7, "013", "026", "045", "124", "156", "235", "346"), "7;013.026.045.124.156.235.346"},
	} {
		checkAnswer(t, callOf("GameText", impl.GameText, x.g), x.want)
		checkGame(t, callOf("ParseGame", impl.ParseGame, x.want), x.g)
	}
}

func TestGameTextsComeBack(t *testing.T) {
	for _, g := range manyGames() {
		checkAnswer(t, callOf("GameText", impl.GameText, g), word(g))
		checkGame(t, callOf("ParseGame", impl.ParseGame, word(g)), g)
	}
}

// noGameTexts are no GameTexts, each for one reason.
func noGameTexts() []string {
	return []string{
		"", ";", ".", "4", "4;", "4;.", ";01", "01.02", "4;01.", "4;.01", "4;01..02", "4;;01", ";4;01", "4;01;", "4;01;02", "4.01", "4;01,02", "4:01", "4,01", "401", "4;0.1.", "4;0.1..",
		"0;0", "0;", "04;01", "+4;01", "-4;01", "10;0", "10;9", "14;01", "44;01", "00;0", ":;01", "a;01", "/;0", "4a;01",
		"4;10", "4;00", "4;011", "4;021", "4;3210", "4;0.11", "4;0123.0", "4;01.012", "4;012.01", "4;02.01", "4;1.0", "4;01.01", "4;123.01.02", "4;01.0123.23", "4;0.012",
		"4;4", "4;014", "4;01.24", "1;1", "1;01", "3;01.02.123", "8;8", "9;9", "9;0123456789", "1;0.0", "1;0.", "1;0.1",
		" 4;01", "4 ;01", "4; 01", "4;01 ", "4;0 1", "4;01 .02", "4;01. 02", "4;01\n", "\n4;01", "4;01\r\n", "4;01\t", "4;0,1", "4;{01}", "4;0-1", "4;+0", "4;-1", "4;-",
		"4;a", "4;0a", "4;:", "4;0:", "4;/", "4;/0", "4;01./", "9;8:", "9;89", "4;0x1",
		"\u0664;01", "4;\u0660\u0661", "\uff14;01", "4\uff1b01", "4;01\uff0e02", "\ufeff4;01", "4;01\ufeff", "4;\u0130", "\u0134;01", "4;01\u00b2",
		"\xff", "\xff4;01", "4;01\xff", "4\xff;01", "4;\xb0\xb1", "\xb4;01", "4;\xff", "4;01\x00", "\x004;01", "4;0\x001", "4;01\ufffd",
		strings.Repeat("0", 100000), "9;" + strings.Repeat("8", 100000), "9;" + strings.Repeat("8.", 50000) + "8", strings.Repeat(";", 100000), strings.Repeat(".", 100000), "4;" + strings.Repeat(".", 100000), strings.Repeat("4;", 1000), strings.Repeat("4", 100000) + ";01", "4;01." + strings.Repeat("02.", 10000) + "123",
	}
}

func TestNoGameTexts(t *testing.T) {
	for _, s := range noGameTexts() {
		callOf("ParseGame", impl.ParseGame, s).mustFail(t)
	}
}

var looksLikeGame = regexp.MustCompile(`\A[1-9];0?1?2?3?4?5?6?7?8?(\.0?1?2?3?4?5?6?7?8?)*\z`)

// gameFromText follows the document's words with other means than the program.
func gameFromText(s string) (impl.Game, bool) {
	if !looksLikeGame.MatchString(s) {
		return impl.Game{}, false
	}
	words := strings.Split(s[2:], ".")
	for i, word := range words {
		if word == "" || int(word[len(word)-1]) >= int(s[0]) || i > 0 && words[i-1] >= word {
			return impl.Game{}, false
		}
		for j, other := range words {
			if i != j && isPartOfWord(word, other) {
				return impl.Game{}, false
			}
		}
	}
	return game(int(s[0]-'0'), words...), true
}

// isPartOfWord reports whether all digits of a word are in another one.
func isPartOfWord(word, other string) bool {
	for _, r := range word {
		if !strings.ContainsRune(other, r) {
			return false
		}
	}
	return true
}

func checkParseGame(t *testing.T, s string) {
	t.Helper()
	want, wantOK := gameFromText(s)
	got, ok := impl.ParseGame(s)
	if ok != wantOK || !sameGame(got, want) {
		t.Fatalf("ParseGame(%q) = %v, %v, want %v, %v", s, got, ok, want, wantOK)
	}
}

// TestShortGameTexts parses all texts of up to seven signs of a few.
func TestShortGameTexts(t *testing.T) {
	eachText([]string{"0", "1", "2", "3", ";", "."}, 7, func(s string) { checkParseGame(t, s) })
}

// TestSetsInGameTexts parses all lists of up to three words of the digits 0 to 3, with each number of members.
func TestSetsInGameTexts(t *testing.T) {
	words := []string{"", "0", "01", "012", "0123", "013", "02", "023", "03", "1", "12", "123", "13", "2", "23", "3", "10", "00", "4"}
	for members := range 6 {
		head := string(rune('0'+members)) + ";"
		for _, a := range words {
			checkParseGame(t, head+a)
			for _, b := range words {
				checkParseGame(t, head+a+"."+b)
				for _, c := range words {
					checkParseGame(t, head+a+"."+b+"."+c)
				}
			}
		}
	}
}

func TestChangedGameTexts(t *testing.T) {
	for _, s := range []string{"4;01.02.123", "1;0", "9;012345678", "9;012.345.678"} {
		eachChange(s, func(changed string) { checkParseGame(t, changed) })
	}
}
