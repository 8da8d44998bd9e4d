package vote_test

import (
	"math"
	"math/rand"
	"slices"
	"testing"

	"troth/api"
	"troth/vote"
)

const (
	yes  = 1
	read = 2
	no   = 3
)

// tree is a node with kids.
func tree(v int, kids ...vote.Node) vote.Node { return vote.Node{Vote: v, Kids: kids} }

// chain is a tree of n nodes, each the only kid of the one ahead.
func chain(n, v int) vote.Node {
	t := tree(v)
	for range n - 1 {
		t = tree(v, t)
	}
	return t
}

// wide is a node with n kids.
func wide(n, v int) vote.Node {
	t := tree(v)
	for range n {
		t.Kids = append(t.Kids, tree(v))
	}
	return t
}

// says holds all answers for a right tree against what they should be.
func says(t *testing.T, x vote.Node, want, flows int, told ...int) {
	t.Helper()
	if !vote.Right(x) {
		t.Fatalf("%v is not right", x)
	}
	if got, e := vote.Says(x); got != want || e != api.OK {
		t.Errorf("Says(%v) = %d, %v; want %d", x, got, e, want)
	}
	if got, e := vote.Commits(x); got != (want != no) || e != api.OK {
		t.Errorf("Commits(%v) = %v, %v", x, got, e)
	}
	if got, e := vote.Told(x); !slices.Equal(got, told) || e != api.OK {
		t.Errorf("Told(%v) = %v, %v; want %v", x, got, e, told)
	}
	if got, e := vote.Flows(x); got != flows || e != api.OK {
		t.Errorf("Flows(%v) = %d, %v; want %d", x, got, e, flows)
	}
}

// isWrong holds that a tree is not right.
func isWrong(t *testing.T, what string, x vote.Node) {
	t.Helper()
	if vote.Right(x) {
		t.Errorf("%s: it is right", what)
	}
	if got, e := vote.Says(x); got != 0 || e != api.ErrArg {
		t.Errorf("%s: Says = %d, %v", what, got, e)
	}
	if got, e := vote.Commits(x); got || e != api.ErrArg {
		t.Errorf("%s: Commits = %v, %v", what, got, e)
	}
	if got, e := vote.Told(x); len(got) != 0 || e != api.ErrArg {
		t.Errorf("%s: Told = %v, %v", what, got, e)
	}
	if got, e := vote.Flows(x); got != 0 || e != api.ErrArg {
		t.Errorf("%s: Flows = %d, %v", what, got, e)
	}
}

// P16.1

func TestTheExample(t *testing.T) {
	says(t, tree(yes, tree(read), tree(yes)), yes, 7, 2)
}

func TestTheVotesNumbers(t *testing.T) {
	if vote.Yes != 1 || vote.ReadOnly != 2 || vote.No != 3 {
		t.Errorf("%d, %d, %d", vote.Yes, vote.ReadOnly, vote.No)
	}
}

func TestOneNode(t *testing.T) {
	for _, v := range []int{yes, read, no} {
		says(t, tree(v), v, 0)
		says(t, vote.Node{Vote: v, Kids: []vote.Node{}}, v, 0)
	}
}

func TestANodeAndAKid(t *testing.T) {
	says(t, tree(yes, tree(yes)), yes, 5, 1)
	says(t, tree(yes, tree(read)), yes, 2)
	says(t, tree(yes, tree(no)), no, 5, 1)
	says(t, tree(read, tree(yes)), yes, 5, 1)
	says(t, tree(read, tree(read)), read, 2)
	says(t, tree(read, tree(no)), no, 5, 1)
	says(t, tree(no, tree(yes)), no, 5, 1)
	says(t, tree(no, tree(read)), no, 2)
	says(t, tree(no, tree(no)), no, 5, 1)
}

// What a kid's tree says hangs on all that is below it, and on nothing beside it.
func TestAKidIsToldForWhatIsBelowIt(t *testing.T) {
	says(t, tree(read, tree(read, tree(read, tree(yes)))), yes, 15, 1, 2, 3)
	says(t, tree(read, tree(read, tree(read, tree(no)))), no, 15, 1, 2, 3)
	says(t, tree(yes, tree(yes, tree(read, tree(read)))), yes, 9, 1)
	says(t, tree(no, tree(read), tree(read, tree(read))), no, 6)
	says(t, tree(read, tree(read, tree(read), tree(yes)), tree(read), tree(yes, tree(read))), yes, 21, 1, 3, 5)
}

// A node ahead of its kids, these one behind the other with all that is theirs.
func TestHowNodesAreNumbered(t *testing.T) {
	x := tree(read,
		tree(read, // 1
			tree(read),            // 2
			tree(read, tree(yes)), // 3, 4
			tree(read)),           // 5
		tree(read), // 6
		tree(yes, // 7
			tree(read),            // 8
			tree(yes),             // 9
			tree(no, tree(read))), // 10, 11
		tree(no)) // 12
	says(t, x, no, 2*12+3*7, 1, 3, 4, 7, 9, 10, 12)
}

func TestTheEdgesOfATree(t *testing.T) {
	for _, v := range []int{yes, read, no} {
		if !vote.Right(chain(8, v)) || !vote.Right(wide(63, v)) {
			t.Errorf("trees of %d at the edge are not right", v)
		}
		isWrong(t, "nine deep", chain(9, v))
		isWrong(t, "ten deep", chain(10, v))
		isWrong(t, "70 deep", chain(70, v))
		isWrong(t, "65 nodes", wide(64, v))
		isWrong(t, "5000 nodes", wide(4999, v))
	}
	says(t, chain(8, yes), yes, 35, 1, 2, 3, 4, 5, 6, 7)
	says(t, chain(8, read), read, 14)
	all := make([]int, 63)
	for i := range all {
		all[i] = i + 1
	}
	says(t, wide(63, yes), yes, 63*5, all...)
	says(t, wide(63, no), no, 63*5, all...)
	says(t, wide(63, read), read, 63*2)
}

// Eight chains of eight, less the root's own place, and those with one node more.
func TestTheEdgesTogether(t *testing.T) {
	x := tree(yes)
	for range 9 {
		x.Kids = append(x.Kids, chain(7, read))
	}
	says(t, x, yes, 63*2)
	x.Kids[8] = tree(read, x.Kids[8].Kids[0], tree(no))
	isWrong(t, "65 nodes", x)
	x.Kids[8] = chain(6, yes)
	says(t, x, yes, 62*2+6*3, 57, 58, 59, 60, 61, 62)
	x.Kids[8] = chain(8, yes)
	isWrong(t, "65 nodes and nine deep", x)
	x.Kids = x.Kids[8:]
	isWrong(t, "nine deep at the end", x)
	isWrong(t, "nine deep behind others", tree(yes, tree(yes), chain(3, yes), chain(8, read), tree(no)))
}

func TestVotesThatAreNone(t *testing.T) {
	for _, v := range []int{0, 4, -1, -2, 5, math.MaxInt, math.MinInt, 257, 1<<32 + 1} {
		isWrong(t, "the root", tree(v))
		isWrong(t, "a root with kids", tree(v, tree(yes)))
		isWrong(t, "a kid", tree(yes, tree(v)))
		isWrong(t, "the last kid", tree(yes, tree(no), tree(read), tree(v)))
		isWrong(t, "deep", tree(yes, tree(yes, tree(read), tree(yes, tree(v))), tree(no)))
		x := wide(63, yes)
		x.Kids[62].Vote = v
		isWrong(t, "the 64th", x)
	}
	isWrong(t, "nothing", vote.Node{})
}

// All trees up to four nodes with votes from 0 to 4: right just if no vote is 0 or 4.
func TestAllSmallTrees(t *testing.T) {
	for n := range 5 * 5 * 5 * 5 {
		v := []int{n % 5, n / 5 % 5, n / 25 % 5, n / 125}
		for _, x := range []vote.Node{
			tree(v[0], tree(v[1], tree(v[2], tree(v[3])))),
			tree(v[0], tree(v[1], tree(v[2]), tree(v[3]))),
			tree(v[0], tree(v[1], tree(v[2])), tree(v[3])),
			tree(v[0], tree(v[1]), tree(v[2], tree(v[3]))),
			tree(v[0], tree(v[1]), tree(v[2]), tree(v[3])),
		} {
			if slices.Contains(v, 0) || slices.Contains(v, 4) {
				isWrong(t, "a vote that is none", x)
			} else {
				likePlain(t, x)
			}
		}
	}
}

func TestSays3(t *testing.T) {
	for _, c := range []struct {
		want int
		list []int
	}{
		{read, nil}, {read, []int{}}, {yes, []int{yes}}, {read, []int{read}}, {no, []int{no}},
		{yes, []int{yes, read}}, {yes, []int{read, yes}}, {yes, []int{read, yes, read}}, {read, []int{read, read, read}},
		{no, []int{yes, no}}, {no, []int{no, yes}}, {no, []int{read, no, read}}, {no, []int{no, read}},
		{no, []int{0}}, {no, []int{4}}, {no, []int{-1}}, {no, []int{yes, 0}}, {no, []int{0, read}}, {no, []int{yes, read, 7}},
		{no, []int{math.MaxInt}}, {no, []int{math.MinInt, yes}},
	} {
		if got := vote.Says3(c.list); got != c.want {
			t.Errorf("Says3(%v) = %d; want %d", c.list, got, c.want)
		}
	}
	long := slices.Repeat([]int{read}, 5000)
	if got := vote.Says3(long); got != read {
		t.Errorf("Says3 of many = %d", got)
	}
	long[4999] = yes
	if got := vote.Says3(long); got != yes {
		t.Errorf("Says3 of many and a yes = %d", got)
	}
	long[4998] = 0
	if got := vote.Says3(long); got != no {
		t.Errorf("Says3 of many and none = %d", got)
	}
}

// plain is a tree's nodes as its words say them: a row of them, each with its votes, itself and all below it.
type plain [][]int

func (p *plain) add(x vote.Node) []int {
	at := len(*p)
	*p = append(*p, nil)
	votes := []int{x.Vote}
	for _, kid := range x.Kids {
		votes = append(votes, p.add(kid)...)
	}
	(*p)[at] = votes
	return votes
}

func plainSays(votes []int) int {
	switch {
	case slices.Contains(votes, no):
		return no
	case !slices.Contains(votes, yes):
		return read
	}
	return yes
}

// likePlain holds all answers for a right tree against what the words say.
func likePlain(t *testing.T, x vote.Node) {
	t.Helper()
	var p plain
	p.add(x)
	var told []int
	flows := 0
	for i, votes := range p {
		if i == 0 {
			continue
		}
		flows += 2
		if plainSays(votes) != read {
			told = append(told, i)
			flows += 3
		}
	}
	says(t, x, plainSays(p[0]), flows, told...)
}

// grow is a right tree, of at most left nodes and as deep as that.
func grow(r *rand.Rand, left *int, deep, mostlyRead int) vote.Node {
	x := tree(1 + r.Intn(3))
	if r.Intn(10) < mostlyRead {
		x.Vote = read
	}
	*left--
	for deep > 1 && *left > 0 && r.Intn(3) > 0 {
		x.Kids = append(x.Kids, grow(r, left, deep-1, mostlyRead))
	}
	return x
}

func someTree(r *rand.Rand) vote.Node {
	left := 1 + r.Intn(64)
	return grow(r, &left, 1+r.Intn(8), r.Intn(11))
}

func TestATreeSaysWhatItsWordsSay(t *testing.T) {
	r := rand.New(rand.NewSource(161))
	for range 4000 {
		likePlain(t, someTree(r))
	}
}

// P16.2

func TestATreeCommitsJustIfNoVoteIsNo(t *testing.T) {
	r := rand.New(rand.NewSource(162))
	commits := [2]int{}
	for range 4000 {
		x := someTree(r)
		var p plain
		votes := p.add(x)
		got, e := vote.Commits(x)
		if e != api.OK || got == slices.Contains(votes, no) {
			t.Fatalf("Commits(%v) = %v, %v", x, got, e)
		}
		if got {
			commits[1]++
		} else {
			commits[0]++
		}
	}
	if commits[0] < 100 || commits[1] < 100 {
		t.Errorf("%v", commits)
	}
}

// outcome is what a tree commits, and its flows.
func outcome(t *testing.T, x vote.Node) (bool, int) {
	t.Helper()
	commit, e := vote.Commits(x)
	flows, e2 := vote.Flows(x)
	if e != api.OK || e2 != api.OK {
		t.Fatalf("%v: %v, %v", x, e, e2)
	}
	return commit, flows
}

// P16.3

func shuffled(r *rand.Rand, x vote.Node) vote.Node {
	y := tree(x.Vote)
	for _, i := range r.Perm(len(x.Kids)) {
		y.Kids = append(y.Kids, shuffled(r, x.Kids[i]))
	}
	return y
}

func TestTheOrderOfKids(t *testing.T) {
	r := rand.New(rand.NewSource(163))
	for range 3000 {
		x := someTree(r)
		y := shuffled(r, x)
		commit, flows := outcome(t, x)
		commit2, flows2 := outcome(t, y)
		if commit != commit2 || flows != flows2 {
			t.Fatalf("%v: %v, %d; %v: %v, %d", x, commit, flows, y, commit2, flows2)
		}
	}
}

// P16.4

func size(x vote.Node) int {
	n := 1
	for _, kid := range x.Kids {
		n += size(kid)
	}
	return n
}

// without is a tree less one of its kids that say ReadOnly, and that kid's size (0: there is none).
func without(t *testing.T, r *rand.Rand, x vote.Node) (vote.Node, int) {
	for _, i := range r.Perm(len(x.Kids)) {
		says, e := vote.Says(x.Kids[i])
		if e != api.OK {
			t.Fatalf("a right tree's kid %v: %v", x.Kids[i], e)
		}
		if says == read && r.Intn(2) == 0 {
			return tree(x.Vote, slices.Delete(slices.Clone(x.Kids), i, i+1)...), size(x.Kids[i])
		}
		if kid, n := without(t, r, x.Kids[i]); n > 0 {
			y := tree(x.Vote, slices.Clone(x.Kids)...)
			y.Kids[i] = kid
			return y, n
		}
	}
	return x, 0
}

func TestAKidThatSaysReadOnly(t *testing.T) {
	r := rand.New(rand.NewSource(164))
	taken := 0
	for range 4000 {
		x := someTree(r)
		y, n := without(t, r, x)
		commit, flows := outcome(t, x)
		commit2, flows2 := outcome(t, y)
		if commit != commit2 || flows != flows2+2*n {
			t.Fatalf("%v: %v, %d; %v less %d: %v, %d", x, commit, flows, y, n, commit2, flows2)
		}
		if n > 0 {
			taken++
		}
	}
	if taken < 500 {
		t.Errorf("%d kids were taken away", taken)
	}
}

// P16.5

// withNo is a tree with a vote of it turned to No.
func withNo(x vote.Node, at *int) vote.Node {
	y := tree(x.Vote)
	if *at == 0 {
		y.Vote = no
	}
	*at--
	for _, kid := range x.Kids {
		y.Kids = append(y.Kids, withNo(kid, at))
	}
	return y
}

func TestANoMoreNeverMakesACommit(t *testing.T) {
	r := rand.New(rand.NewSource(165))
	for range 2000 {
		x := someTree(r)
		at := r.Intn(size(x))
		y := withNo(x, &at)
		if commit, _ := outcome(t, y); commit {
			t.Fatalf("%v commits", y)
		}
		if size(x) < 64 {
			y = tree(x.Vote, append([]vote.Node{tree(no)}, x.Kids...)...)
			if commit, _ := outcome(t, y); commit {
				t.Fatalf("%v commits", y)
			}
		}
	}
}

// P1 and the rules on memory

// A tree that holds itself is as deep as one looks.
func TestATreeThatHoldsItself(t *testing.T) {
	kids := make([]vote.Node, 1)
	kids[0] = tree(yes, kids...)
	isWrong(t, "itself", tree(yes, kids...))
	many := make([]vote.Node, 3)
	for i := range many {
		many[i] = vote.Node{Vote: read, Kids: many}
	}
	isWrong(t, "itself three times", vote.Node{Vote: read, Kids: many})
}

// A tree of few lists, each of which stands in it very often.
func TestATreeOfTheSameLists(t *testing.T) {
	x := tree(yes)
	for range 7 {
		x = vote.Node{Vote: yes, Kids: slices.Repeat([]vote.Node{x}, 1000)}
	}
	isWrong(t, "1000 to the 7th", x)
	leaf := tree(read)
	twice := tree(read, leaf, leaf)
	says(t, tree(yes, twice, twice), yes, 12)
	deep := tree(read)
	for range 2000 {
		deep = tree(read, deep, deep)
	}
	isWrong(t, "2000 deep", deep)
}

func TestTreesAreNotChangedAndAnswersAreNew(t *testing.T) {
	back := []vote.Node{tree(yes), tree(read), tree(9), tree(8)}
	x := vote.Node{Vote: yes, Kids: back[:2]}
	says(t, x, yes, 7, 1)
	told, _ := vote.Told(x)
	told[0] = 99
	_ = append(told, 98)
	says(t, x, yes, 7, 1)
	for i, v := range []int{yes, read, 9, 8} {
		if back[i].Vote != v || back[i].Kids != nil {
			t.Errorf("node %d is %v", i, back[i])
		}
	}
	list := []int{yes, read, 0}
	if vote.Says3(list[:2]) != yes || !slices.Equal(list, []int{yes, read, 0}) {
		t.Errorf("Says3 reads behind its list, or changes it: %v", list)
	}
}
