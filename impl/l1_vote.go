package impl

import (
	"math/bits"
	"strconv"
	"strings"
)

const MaxMembers = 9
const MaxWeight = 1000

// The greatest number that a committee may have: the Quota that takes all weights.
const maxQuota = MaxMembers * MaxWeight

type Committee struct {
	Quota   int
	Weights []int
}

// A memberSet has the bit k for the member k, so that all sets can be counted through as numbers.
type memberSet uint

func (s memberSet) has(k int) bool { return s>>k&1 == 1 }

func (s memberSet) with(k int) memberSet { return s | 1<<k }

func (s memberSet) without(k int) memberSet { return s &^ (1 << k) }

func (s memberSet) size() int { return bits.OnesCount(uint(s)) }

func (s memberSet) list() []int {
	members := make([]int, 0, s.size())
	for k := range MaxMembers {
		if s.has(k) {
			members = append(members, k)
		}
	}
	return members
}

func allMembers(members int) memberSet { return 1<<members - 1 }

func isMember(members int, k int) bool { return k >= 0 && k < members }

// readSet fails if the list is no strictly increasing list of these members.
func readSet(members int, list []int) (memberSet, bool) {
	var s memberSet
	last := -1
	for _, k := range list {
		if k <= last || k >= members {
			return 0, false
		}
		s = s.with(k)
		last = k
	}
	return s, true
}

// isOrder reports whether the list has all of so many members, each once.
func isOrder(members int, list []int) bool {
	if len(list) != members {
		return false
	}
	var seen memberSet
	for _, k := range list {
		if !isMember(members, k) || seen.has(k) {
			return false
		}
		seen = seen.with(k)
	}
	return true
}

// setsInOrder returns all sets in the lexicographic order of their lists.
func setsInOrder(members int) []memberSet {
	return appendLonger(nil, 0, 0, members)
}

// appendLonger appends s and all sets that begin with it and go on with members from next on.
func appendLonger(sets []memberSet, s memberSet, next int, members int) []memberSet {
	sets = append(sets, s)
	for k := next; k < members; k++ {
		sets = appendLonger(sets, s.with(k), k+1, members)
	}
	return sets
}

func countSets(members int, isKind func(memberSet) bool) int {
	count := 0
	for s := range allMembers(members) + 1 {
		if isKind(s) {
			count++
		}
	}
	return count
}

func areAllSets(members int, isKind func(memberSet) bool) bool {
	for s := range allMembers(members) + 1 {
		if !isKind(s) {
			return false
		}
	}
	return true
}

// leastSets returns, in order, the sets of a kind that are of that kind no more whichever one of them leaves.
func leastSets(members int, isKind func(memberSet) bool) []memberSet {
	var least []memberSet
	for _, s := range setsInOrder(members) {
		if isKind(s) && !isKindWithoutOne(members, s, isKind) {
			least = append(least, s)
		}
	}
	return least
}

func isKindWithoutOne(members int, s memberSet, isKind func(memberSet) bool) bool {
	for k := range members {
		if s.has(k) && isKind(s.without(k)) {
			return true
		}
	}
	return false
}

// greatestSets returns, in order, the sets of a kind that are of that kind no more whoever joins them.
func greatestSets(members int, isKind func(memberSet) bool) []memberSet {
	var greatest []memberSet
	for _, s := range setsInOrder(members) {
		if isKind(s) && !isKindWithOneMore(members, s, isKind) {
			greatest = append(greatest, s)
		}
	}
	return greatest
}

func isKindWithOneMore(members int, s memberSet, isKind func(memberSet) bool) bool {
	for k := range members {
		if !s.has(k) && isKind(s.with(k)) {
			return true
		}
	}
	return false
}

// isProperRule reports whether no two sets without a common member both win. If a set without a member of s wins, all others together win, too: just these are asked.
func isProperRule(members int, wins func(memberSet) bool) bool {
	losesOrBlocks := func(s memberSet) bool { return !wins(s) || !wins(allMembers(members)&^s) }
	return areAllSets(members, losesOrBlocks)
}

// isStrongRule reports whether of each set and all other members at least one wins.
func isStrongRule(members int, wins func(memberSet) bool) bool {
	winsOrOthersDo := func(s memberSet) bool { return wins(s) || wins(allMembers(members)&^s) }
	return areAllSets(members, winsOrOthersDo)
}

// membersOfNone returns the members that are in none of the sets.
func membersOfNone(members int, sets []memberSet) memberSet {
	left := allMembers(members)
	for _, s := range sets {
		left &^= s
	}
	return left
}

func listsOf(sets []memberSet) [][]int {
	lists := make([][]int, 0, len(sets))
	for _, s := range sets {
		lists = append(lists, s.list())
	}
	return lists
}

// A rule tells which sets of members win: committees do by their weights, games by their least winning sets.
type rule interface {
	everybody() memberSet
	wins(s memberSet) bool
}

// areSameRules reports whether both are for as many members, and the same sets win.
func areSameRules(a rule, b rule) bool {
	if a.everybody() != b.everybody() {
		return false
	}
	return areAllSets(a.everybody().size(), func(s memberSet) bool { return a.wins(s) == b.wins(s) })
}

// A weightList has a weight for each member: a committee's are of type int, small ones of which many lists are looked through of type uint8.
type weightList[N int | uint8] []N

func (w weightList[N]) of(s memberSet) N {
	var sum N
	for k, weight := range w {
		if s.has(k) {
			sum += weight
		}
	}
	return sum
}

func (c Committee) members() int { return len(c.Weights) }

func (c Committee) everybody() memberSet { return allMembers(c.members()) }

func (c Committee) weights() weightList[int] { return c.Weights }

func (c Committee) weightOf(s memberSet) int { return c.weights().of(s) }

func (c Committee) total() int { return c.weightOf(c.everybody()) }

func (c Committee) wins(s memberSet) bool { return c.weightOf(s) >= c.Quota }

func (c Committee) loses(s memberSet) bool { return !c.wins(s) }

func (c Committee) blocks(s memberSet) bool { return c.loses(c.everybody() &^ s) }

// membersThat returns, increasing, the members that alone are a set of a kind.
func (c Committee) membersThat(isKind func(memberSet) bool) []int {
	var found memberSet
	for k := range c.members() {
		if isKind(memberSet(0).with(k)) {
			found = found.with(k)
		}
	}
	return found.list()
}

func (c Committee) leastWinning() []memberSet { return leastSets(c.members(), c.wins) }

func (c Committee) dummies() memberSet {
	return membersOfNone(c.members(), c.leastWinning())
}

// rules reports whether the members of s win, and all others lose.
func (c Committee) rules(s memberSet) bool { return c.wins(s) && c.blocks(s) }

// areNumbersOfMembers reports whether a list has a number for each of so many members as a committee may have, all of them from least to most.
func areNumbersOfMembers(list []int, least int, most int) bool {
	if len(list) < 1 || len(list) > MaxMembers {
		return false
	}
	for _, n := range list {
		if n < least || n > most {
			return false
		}
	}
	return true
}

// IsCommittee reports whether c, whose numbers may be any, is a committee.
func IsCommittee(c Committee) bool {
	if !areNumbersOfMembers(c.Weights, 0, MaxWeight) {
		return false
	}
	// A Quota of at least 1 that all weights reach leaves no room for weights that are all 0.
	return c.Quota >= 1 && c.wins(c.everybody())
}

// checked returns c, and fails if that is no committee.
func (c Committee) checked() (Committee, bool) {
	if !IsCommittee(c) {
		return Committee{}, false
	}
	return c, true
}

// hasMember reports whether c is a committee, and k a member of it.
func (c Committee) hasMember(k int) bool { return IsCommittee(c) && isMember(c.members(), k) }

// TotalWeight returns all weights together.
func TotalWeight(c Committee) (int, bool) {
	if !IsCommittee(c) {
		return 0, false
	}
	return c.total(), true
}

// committeeSet returns a set of members of a committee, and fails if one of both is none.
func committeeSet(c Committee, set []int) (memberSet, bool) {
	if !IsCommittee(c) {
		return 0, false
	}
	return readSet(c.members(), set)
}

// WeightOfSet returns the weights of a set together.
func WeightOfSet(c Committee, set []int) (int, bool) {
	s, ok := committeeSet(c, set)
	if !ok {
		return 0, false
	}
	return c.weightOf(s), true
}

// IsWinning reports whether a set wins.
func IsWinning(c Committee, set []int) (bool, bool) {
	s, ok := committeeSet(c, set)
	return ok && c.wins(s), ok
}

// IsBlocking reports whether a set blocks.
func IsBlocking(c Committee, set []int) (bool, bool) {
	s, ok := committeeSet(c, set)
	return ok && c.blocks(s), ok
}

// CountWinning returns how many sets win.
func CountWinning(c Committee) (int, bool) {
	if !IsCommittee(c) {
		return 0, false
	}
	return countSets(c.members(), c.wins), true
}

// CountWinningOf returns how many sets of size members, in 0 up to all, win.
func CountWinningOf(c Committee, size int) (int, bool) {
	if !IsCommittee(c) || size < 0 || size > c.members() {
		return 0, false
	}
	isCounted := func(s memberSet) bool { return s.size() == size && c.wins(s) }
	return countSets(c.members(), isCounted), true
}

// LeastWinning returns all least winning sets, in order.
func LeastWinning(c Committee) ([][]int, bool) {
	if !IsCommittee(c) {
		return nil, false
	}
	return listsOf(c.leastWinning()), true
}

// GreatestLosing returns all greatest losing sets, in order.
func GreatestLosing(c Committee) ([][]int, bool) {
	if !IsCommittee(c) {
		return nil, false
	}
	return listsOf(greatestSets(c.members(), c.loses)), true
}

// LeastBlocking returns all least blocking sets, in order: those that block no more whichever one of them leaves.
func LeastBlocking(c Committee) ([][]int, bool) {
	if !IsCommittee(c) {
		return nil, false
	}
	return listsOf(leastSets(c.members(), c.blocks)), true
}

// DictatorOf returns the dictator. It fails if there is none.
func DictatorOf(c Committee) (int, bool) {
	if !IsCommittee(c) {
		return 0, false
	}
	dictators := c.membersThat(c.rules)
	if len(dictators) == 0 {
		return 0, false
	}
	return dictators[0], true
}

// VetoMembers returns all members with a veto, increasing.
func VetoMembers(c Committee) ([]int, bool) {
	if !IsCommittee(c) {
		return nil, false
	}
	return c.membersThat(c.blocks), true
}

// DummiesOf returns all dummies, increasing.
func DummiesOf(c Committee) ([]int, bool) {
	if !IsCommittee(c) {
		return nil, false
	}
	return c.dummies().list(), true
}

// withQuota shares no memory with c, as a result must not.
func (c Committee) withQuota(quota int) Committee {
	weights := make([]int, len(c.Weights))
	copy(weights, c.Weights)
	return Committee{Quota: quota, Weights: weights}
}

// DualCommittee returns the committee with the same weights, and the Quota 1 more than all weights together less the Quota: a set wins in it exactly if it blocks in c.
func DualCommittee(c Committee) (Committee, bool) {
	if !IsCommittee(c) {
		return Committee{}, false
	}
	return c.withQuota(c.total() - c.Quota + 1), true
}

// IsProper reports whether no two sets without a common member both win.
func IsProper(c Committee) (bool, bool) {
	if !IsCommittee(c) {
		return false, false
	}
	return isProperRule(c.members(), c.wins), true
}

// IsStrong reports whether of each set and all other members at least one wins.
func IsStrong(c Committee) (bool, bool) {
	if !IsCommittee(c) {
		return false, false
	}
	return isStrongRule(c.members(), c.wins), true
}

// RenameCommittee returns the committee whose member i is the member order[i] of c; order is a list of all members, each once.
func RenameCommittee(c Committee, order []int) (Committee, bool) {
	if !IsCommittee(c) || !isOrder(c.members(), order) {
		return Committee{}, false
	}
	renamed := c.withQuota(c.Quota)
	for i, k := range order {
		renamed.Weights[i] = c.Weights[k]
	}
	return renamed, true
}

// DropMember returns the committee without a member, with the same Quota. It fails if that is none.
func DropMember(c Committee, k int) (Committee, bool) {
	if !c.hasMember(k) {
		return Committee{}, false
	}
	left := Committee{Quota: c.Quota}
	for i, weight := range c.Weights {
		if i != k {
			left.Weights = append(left.Weights, weight)
		}
	}
	return left.checked()
}

// AreSameVotes reports whether two committees have as many members, and the same sets win.
func AreSameVotes(a Committee, b Committee) (bool, bool) {
	if !IsCommittee(a) || !IsCommittee(b) {
		return false, false
	}
	return areSameRules(a, b), true
}

// CommitteeText returns Quota, :, and the weights with , between them.
func CommitteeText(c Committee) (string, bool) {
	if !IsCommittee(c) {
		return "", false
	}
	weights := make([]string, 0, c.members())
	for _, weight := range c.Weights {
		weights = append(weights, strconv.Itoa(weight))
	}
	return strconv.Itoa(c.Quota) + ":" + strings.Join(weights, ","), true
}

// A numberReader takes the digits of one number after the other.
type numberReader struct {
	value  int
	digits int
}

// take fails if the rune is no digit, follows a superfluous zero, or makes the number greater than limit.
func (n *numberReader) take(digit rune, limit int) bool {
	if digit < '0' || digit > '9' || n.digits > 0 && n.value == 0 {
		return false
	}
	n.value = n.value*10 + int(digit-'0')
	n.digits++
	return n.value <= limit
}

// readNumbers reads numbers up to limit, at most most of them: the first one before a colon, all others with commas between them.
func readNumbers(s string, limit int, most int) ([]int, bool) {
	var numbers []int
	var number numberReader
	separator := ':'
	for _, r := range s {
		if r != separator {
			if !number.take(r, limit) {
				return nil, false
			}
			continue
		}
		if number.digits == 0 || len(numbers) == most-1 {
			return nil, false
		}
		numbers = append(numbers, number.value)
		number = numberReader{}
		separator = ','
	}
	if number.digits == 0 {
		return nil, false
	}
	return append(numbers, number.value), true
}

// ParseCommittee returns the committee with a CommitteeText. It fails if there is none.
func ParseCommittee(s string) (Committee, bool) {
	numbers, ok := readNumbers(s, maxQuota, 1+MaxMembers)
	if !ok {
		return Committee{}, false
	}
	return Committee{Quota: numbers[0], Weights: numbers[1:]}.checked()
}
