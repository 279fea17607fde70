package impl

import "testing"

// TestEmptyReplies is beside the program, as no line comes to these replies: all lists and sets that its functions return have something in them.
func TestEmptyReplies(t *testing.T) {
	for i, x := range []struct{ got, want string }{
		{numbersReply(nil), "-"},
		{numbersReply([]int{}), "-"},
		{sharesReply(nil), "-"},
		{setsReply(nil), "-"},
		{setsReply([][]int{{}}), "-"},
		{setsReply([][]int{nil, {0, 1}}), "-,01"},
		{tradeReply(Trade{}), "-"},
		{tradeReply(Trade{Wins: [][]int{{0, 1}}, Loses: [][]int{{}, {2}}}), "01,-,2"},
	} {
		if x.got != x.want {
			t.Errorf("reply %d is %q, want %q", i, x.got, x.want)
		}
	}
}
