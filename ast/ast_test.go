package ast_test

import (
	"math/rand"
	"slices"
	"strings"
	"testing"
	"time"

	"platen/api"
	"platen/ast"
)

const (
	maxSize  = 4194304
	maxDepth = 8000
)

var ident = node(api.NIdent, "a")

// nested puts levels Parens around n.
func nested(levels int, n api.Node) api.Node {
	for range levels {
		n = node(api.NParen, "", n)
	}
	return n
}

// wide returns an Array of size nodes whose kids stand in rows that are kept
// only once.
func wide(t *testing.T, size int, leaf api.Node) api.Node {
	t.Helper()
	row := node(api.NArray, "", slices.Repeat([]api.Node{leaf}, 1023)...)
	n := node(api.NArray, "", slices.Repeat([]api.Node{row}, (size-1)/1024)...)
	for range (size - 1) % 1024 {
		n.Kids = append(n.Kids, leaf)
	}
	return n
}

func TestLimits(t *testing.T) {
	begun := time.Now()
	wrong := node(-1, "")
	large := node(api.NArray, "", wide(t, maxSize, api.Node{}))
	for i, c := range []struct {
		n           api.Node
		want        api.Errno
		size, depth int
	}{
		{nested(maxDepth-1, ident), api.OK, maxDepth, maxDepth},
		{nested(maxDepth, ident), api.ErrAstDeep, 0, 0},
		{nested(16383, ident), api.ErrAstDeep, 0, 0},
		{nested(maxDepth-1, wrong), api.ErrAstShape, maxDepth, maxDepth},
		{nested(maxDepth, wrong), api.ErrAstDeep, 0, 0},
		{wide(t, maxSize, ident), api.OK, maxSize, 3},
		{wide(t, maxSize, api.Node{}), api.OK, maxSize, 3},
		{wide(t, maxSize+1, ident), api.ErrAstLarge, 0, 0},
		{wide(t, maxSize+1, api.Node{}), api.ErrAstLarge, 0, 0},
		{wide(t, maxSize, wrong), api.ErrAstShape, maxSize, 3},
		{wide(t, maxSize+1, wrong), api.ErrAstLarge, 0, 0},
		{large, api.ErrAstLarge, 0, 0},
		{nested(16000, large), api.ErrAstLarge, 0, 0},
		{node(api.NArray, "", nested(maxDepth, ident), large), api.ErrAstLarge, 0, 0},
		{node(api.NArray, "", large, nested(maxDepth, ident)), api.ErrAstLarge, 0, 0},
		{node(api.NArray, "", wide(t, maxSize-2-maxDepth, ident), nested(maxDepth, ident)), api.ErrAstDeep, 0, 0},
		{node(api.NArray, "", wide(t, maxSize-1-maxDepth, ident), nested(maxDepth, ident)), api.ErrAstLarge, 0, 0},
		{node(api.NArray, "", wide(t, maxSize-maxDepth, ident), nested(maxDepth-2, ident)), api.OK, maxSize, maxDepth},
	} {
		if got := ast.Check(c.n); got != c.want {
			t.Errorf("P8.1: row %d: %d, want %d", i, got, c.want)
		}
		if size, depth := ast.Size(c.n), ast.Depth(c.n); size != c.size || depth != c.depth {
			t.Errorf("P8.2: row %d: %d nodes, %d levels, want %d, %d", i, size, depth, c.size, c.depth)
		}
		got := ast.Bare(c.n)
		if none := got.Kind == 0 && got.Text == "" && len(got.Kids) == 0; none != (c.size == 0) {
			t.Errorf("P8.4: row %d: a None: %v", i, none)
		}
	}
	if took := time.Since(begun); took > 20*time.Second {
		t.Errorf("took %v", took)
	}
}

// TestShared asks of trees whose number of nodes is far above what any memory
// holds, as all their kids are the same ones.
func TestShared(t *testing.T) {
	n := ident
	for range 200 {
		n = node(api.NCond, "", n, n, n)
	}
	if ast.Check(n) != api.ErrAstLarge || ast.Size(n) != 0 || ast.Depth(n) != 0 || ast.Bare(n).Kind != 0 {
		t.Error("P8.1: a tree of shared kids")
	}
	n = ident
	for range 20 {
		n = node(api.NBinary, "+", n, n)
	}
	if ast.Check(n) != api.OK || ast.Size(n) != 1<<21-1 || ast.Depth(n) != 21 || !ast.Same(ast.Bare(n), n) {
		t.Error("P8.2: a tree of two million nodes")
	}
}

// TestSizes asks of trees that repeat what is looked for along a way: each
// part of it is met a few times only.
func TestSizes(t *testing.T) {
	begun := time.Now()
	args := node(api.NArgs, "")
	links := node(api.NMember, "?.", ident, ident)
	bindings, targets, blocks := ident, ident, node(api.NEmpty, "")
	for range 7000 {
		links = node(api.NCall, "", links, args)
		bindings = node(api.NArrPat, "", bindings)
		targets = node(api.NParen, "", targets)
		blocks = node(api.NBlock, "", blocks)
	}
	param := node(api.NParams, "", node(api.NDefault, "", bindings, ident))
	program := node(api.NProgram, "", blocks, node(api.NExprStmt, "", node(api.NChain, "", links)))
	for range 20 {
		program.Kids = append(program.Kids,
			node(api.NVar, "let", node(api.NDecl, "", bindings, ident)),
			node(api.NExprStmt, "", node(api.NArrow, "", param, ident)),
			node(api.NExprStmt, "", node(api.NAssign, "=", targets, ident)),
			node(api.NExprStmt, "", node(api.NAssign, "=", bindings, ident)))
	}
	if ast.Check(program) != api.OK || ast.Depth(program) != 7006 {
		t.Errorf("P8.1: %d, depth %d", ast.Check(program), ast.Depth(program))
	}
	// A megabyte in one text.
	long := strings.Repeat("a", 1<<20)
	for _, n := range []api.Node{node(api.NIdent, long), node(api.NStr, "'"+long+"'"), node(api.NNum, strings.Repeat("1", 1<<20)), node(api.NRegex, "/"+long+"/"),
		node(api.NTemplate, "", node(api.NQuasi, long)), node(api.NFragment, "", node(api.NChildren, "", node(api.NJText, long))),
		node(api.NElement, "", node(api.NJName, strings.Repeat("a.", 1<<19)+"a"), node(api.NAttrs, "", node(api.NAttr, long+":"+long, node(api.NAttrStr, "'"+long+"'"))), api.Node{})} {
		if ast.Check(n) != api.OK || !ast.Same(n, ast.Bare(n)) {
			t.Errorf("P8.1: a text of a megabyte in %d", n.Kind)
		}
	}
	if took := time.Since(begun); took > 10*time.Second {
		t.Errorf("took %v", took)
	}
}

// count measures a tree by its definition.
func count(n api.Node) (int, int) {
	size, depth := 1, 0
	for _, k := range n.Kids {
		s, d := count(k)
		size += s
		depth = max(depth, d)
	}
	return size, depth + 1
}

// stripped is P8.4, read from the document.
func stripped(n api.Node) api.Node {
	if n.Kind == api.NParen {
		if len(n.Kids) == 0 {
			return api.Node{}
		}
		return stripped(n.Kids[0])
	}
	out := node(n.Kind, n.Text)
	for _, k := range n.Kids {
		out.Kids = append(out.Kids, stripped(k))
	}
	return out
}

// equal compares all fields of two trees.
func equal(a, b api.Node) bool {
	return a.From == b.From && a.To == b.To && a.Kind == b.Kind && a.Text == b.Text && slices.EqualFunc(a.Kids, b.Kids, equal)
}

// wild makes a tree without regard to shapes; many of its nodes are Parens.
func wild(r *rand.Rand, depth int) api.Node {
	n := api.Node{Kind: r.Intn(api.NProgram+3) - 1, From: r.Intn(9) - 4, To: r.Intn(9)}
	if r.Intn(2) == 0 {
		n.Kind = api.NParen
	}
	n.Text = []string{"", "a", "?.", "'a'", "\xff"}[r.Intn(5)]
	if depth > 0 {
		for range r.Intn(4) {
			n.Kids = append(n.Kids, wild(r, depth-1))
		}
	}
	return n
}

func TestMeasures(t *testing.T) {
	for i := range 5000 {
		r := rand.New(rand.NewSource(int64(i)))
		n := wild(r, i%8)
		kept := own(n)
		size, depth := count(n)
		if ast.Size(n) != size || ast.Depth(n) != depth {
			t.Fatalf("P8.2: %s: %d, %d", show(n), ast.Size(n), ast.Depth(n))
		}
		bare := ast.Bare(n)
		if !equal(bare, stripped(n)) {
			t.Fatalf("P8.4: Bare(%s) = %s", show(n), show(bare))
		}
		if !equal(ast.Bare(bare), bare) {
			t.Fatalf("P8.5: Bare of Bare of %s", show(n))
		}
		for _, p := range places(&bare) {
			if p.Kind == api.NParen {
				t.Fatalf("P8.5: a Paren in Bare(%s)", show(n))
			}
		}
		ast.Check(n)
		if !equal(n, kept) {
			t.Fatalf("R3: %s has changed", show(n))
		}
	}
	if ast.Size(api.Node{}) != 1 || ast.Depth(api.Node{}) != 1 {
		t.Error("P8.2: a None")
	}
	if n := node(api.NCond, "", ident, api.Node{}, ident); ast.Size(n) != 4 || ast.Depth(n) != 2 {
		t.Error("P8.2: the example")
	}
}

// TestSame changes each node of trees in one way.
func TestSame(t *testing.T) {
	for i := range 1500 {
		r := rand.New(rand.NewSource(int64(i)))
		a := wild(r, i%6)
		b := own(a)
		if !ast.Same(a, b) || !ast.Same(b, a) || !ast.Same(a, a) {
			t.Fatalf("P8.3: %s is not the Same as itself", show(a))
		}
		for _, p := range places(&b) {
			kept := *p
			p.From, p.To = p.From+1, -p.To
			if !ast.Same(a, b) {
				t.Fatalf("P8.3: %s: places are compared", show(a))
			}
			for _, n := range []api.Node{{Kind: p.Kind + 1, Text: p.Text, Kids: p.Kids}, {Kind: p.Kind, Text: p.Text + "a", Kids: p.Kids}, {Kind: p.Kind, Text: "\x00", Kids: p.Kids},
				{Kind: p.Kind, Text: p.Text, Kids: append(slices.Clone(p.Kids), api.Node{})}, {Kind: p.Kind, Text: p.Text, Kids: append([]api.Node{{}}, p.Kids...)}} {
				*p = n
				if ast.Same(a, b) || ast.Same(b, a) {
					t.Fatalf("P8.3: %s and %s", show(a), show(b))
				}
			}
			*p = kept
			if len(p.Kids) > 0 {
				p.Kids = p.Kids[1:]
				if ast.Same(a, b) || ast.Same(b, a) {
					t.Fatalf("P8.3: %s and %s", show(a), show(b))
				}
				*p = kept
			}
		}
		if other := wild(r, i%6); ast.Same(a, other) != (show(a) == show(other)) {
			t.Fatalf("P8.3: %s and %s", show(a), show(other))
		}
	}
	if !ast.Same(api.Node{}, api.Node{Kids: []api.Node{}, From: 1}) {
		t.Error("P8.3: an empty list and nil")
	}
	if a, b := nested(16383, ident), nested(16383, node(api.NIdent, "b")); !ast.Same(a, a) || ast.Same(a, b) {
		t.Error("P8.3: trees of many levels")
	}
}

// TestAnswersAreNew changes an argument behind a call, and a result.
func TestAnswersAreNew(t *testing.T) {
	kids := make([]api.Node, 2, 4)
	kids[0], kids[1] = node(api.NArgs, "", node(api.NParen, "", node(api.NSeq, "", ident, ident))), node(api.NSeq, "", ident, ident)
	kids[:4][2].Text, kids[:4][3].Text = "kept", "kept"
	n := api.Node{Kind: api.NCall, Kids: kids, From: 3, To: 9}
	want := stripped(n)
	got := ast.Bare(n)
	if !equal(got, want) || kids[:4][2].Text != "kept" || kids[:4][3].Text != "kept" || n.From != 3 {
		t.Error("R3: the argument has changed")
	}
	for _, p := range places(&n) {
		p.Text = "changed"
	}
	if !equal(got, want) {
		t.Error("R3: the result hangs on the argument")
	}
	again := ast.Bare(got)
	for _, p := range places(&got) {
		p.Text = "changed"
		p.Kids = append(p.Kids, node(api.NEmpty, ""))
	}
	if !equal(again, want) {
		t.Error("R3: a result hangs on another")
	}
	one := again.Kids[0].Kids[0]
	_ = append(one.Kids, node(api.NEmpty, ""))
	for _, p := range places(&one) {
		p.Text = "changed"
	}
	if !equal(again.Kids[1], want.Kids[1]) {
		t.Error("R3: lists of one result share memory")
	}
}

// TestExamples are the document's own, and trees of programs.
func TestExamples(t *testing.T) {
	quasi := node(api.NQuasi, "")
	asked := node(api.NMember, "?.", ident, ident)
	deep := node(api.NIndex, "", ident, node(api.NAssign, "=", node(api.NMember, "", ident, ident), ident))
	deep.Text = "?."
	for i, c := range []struct {
		n    api.Node
		want api.Errno
	}{
		{node(api.NIdent, "if"), api.ErrAstShape}, {node(api.NIdent, "await"), api.OK}, {api.Node{}, api.ErrAstShape}, {api.Node{Kind: api.NIdent, Text: "a", From: -5, To: -9}, api.OK},
		{api.Node{Kind: api.NIdent, Text: "a", Kids: []api.Node{}}, api.OK}, {node(api.NWord, "super"), api.ErrAstShape}, {asked, api.ErrAstShape},
		{node(api.NChain, "", asked), api.OK}, {node(api.NChain, "", node(api.NChain, "", asked)), api.ErrAstShape},
		{node(api.NChain, "", node(api.NMember, "", node(api.NChain, "", asked), ident)), api.ErrAstShape}, {node(api.NChain, "", node(api.NMember, "?.", node(api.NChain, "", asked), ident)), api.OK},
		{node(api.NChain, "", deep), api.OK}, {node(api.NChain, "", node(api.NIndex, "?.", ident, asked)), api.ErrAstShape},
		{node(api.NAssign, "=", node(api.NMember, "", node(api.NChain, "", asked), ident), ident), api.OK}, {node(api.NAssign, "=", node(api.NMember, "", asked, ident), ident), api.ErrAstShape},
		{node(api.NAssign, "=", node(api.NParen, "", node(api.NChain, "", asked)), ident), api.ErrAstShape}, {node(api.NAssign, "=", node(api.NParen, "", node(api.NArrPat, "")), ident), api.ErrAstShape},
		{node(api.NTagged, "", ident, node(api.NTemplate, "", quasi, ident, quasi)), api.OK}, {node(api.NTemplate, "", quasi, quasi), api.ErrAstShape}, {node(api.NTemplate, "", quasi, quasi, quasi), api.ErrAstShape},
		{node(api.NUpdate, "x++", ident), api.OK}, {node(api.NNew, "", ident), api.ErrAstShape}, {node(api.NObject, "", node(api.NMethod, "static ", ident, ident)), api.ErrAstShape},
	} {
		if got := ast.Check(c.n); got != c.want {
			t.Errorf("P8.1: row %d, %s: %d, want %d", i, show(c.n), got, c.want)
		}
	}
}
