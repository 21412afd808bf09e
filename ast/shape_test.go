package ast_test

import (
	"fmt"
	"math/rand"
	"runtime/debug"
	"slices"
	"strings"
	"sync"
	"testing"

	"platen/api"
	"platen/ast"
)

func node(kind int, text string, kids ...api.Node) api.Node {
	return api.Node{Kind: kind, Text: text, Kids: kids}
}

// show writes a tree with the numbers of its kinds.
func show(n api.Node) string {
	s := fmt.Sprintf("%d", n.Kind)
	if n.Text != "" {
		s += fmt.Sprintf("%q", n.Text)
	}
	for _, k := range n.Kids {
		s += " (" + show(k) + ")"
	}
	return s
}

// agree holds Check against the grammar for n.
func agree(t *testing.T, g *rules, n api.Node) {
	t.Helper()
	want := api.ErrAstShape
	if g.accepts(&n) {
		want = api.OK
	}
	if got := ast.Check(n); got != want {
		t.Errorf("P8.1: Check(%s) = %d, want %d", show(n), got, want)
	}
}

// maker makes trees by the grammar.
type maker struct {
	*rules
	least map[string]api.Node
	hosts map[string]func(api.Node) api.Node
}

func newMaker(t *testing.T) *maker {
	m := &maker{readGrammar(t), map[string]api.Node{}, map[string]func(api.Node) api.Node{}}
	for range len(m.order) {
		for _, name := range m.order {
			m.findLeast(name)
		}
	}
	m.findHosts("start", func(n api.Node) api.Node { return n })
	for name := range m.trees {
		if _, ok := m.least[name]; !ok || m.hosts[name] == nil {
			t.Fatalf("%q is never made", name)
		}
	}
	return m
}

// findLeast makes the first tree of a name whose kids are made already.
func (m *maker) findLeast(name string) {
	if _, ok := m.least[name]; ok {
		return
	}
	for _, p := range m.trees[name] {
		if p.kind < 0 {
			if n, ok := m.least[p.text]; ok {
				m.least[name] = n
				return
			}
			continue
		}
		if kids, ok := m.leastRow(p.kids); ok {
			m.least[name] = node(p.kind, m.classes[p.text].samples[0], kids...)
			return
		}
	}
}

// leastRow makes the shortest row of kids.
func (m *maker) leastRow(names []string) ([]api.Node, bool) {
	var kids []api.Node
	for _, name := range names {
		if strings.ContainsAny(name, "*?@") {
			continue
		}
		n, ok := m.least[strings.TrimSuffix(name, "+")]
		if !ok {
			return nil, false
		}
		kids = append(kids, n)
	}
	return kids, true
}

// plainRows returns rows of names, one for each kid, that names stands for.
func (m *maker) plainRows(names []string, depth int) [][]string {
	if len(names) == 0 {
		return [][]string{nil}
	}
	first, rest := names[0], names[1:]
	if first[0] == '@' {
		var out [][]string
		for _, one := range m.rows[first] {
			if depth > 0 || len(one) == 0 {
				out = append(out, m.plainRows(append(slices.Clone(one), rest...), depth-1)...)
			}
		}
		return out
	}
	name := strings.TrimRight(first, "*+?")
	counts := map[string][]int{"": {1}, "?": {0, 1}, "*": {0, 1, 2}, "+": {1, 2, 3}}[first[len(name):]]
	var out [][]string
	for _, behind := range m.plainRows(rest, depth) {
		for _, count := range counts {
			out = append(out, append(slices.Repeat([]string{name}, count), behind...))
		}
	}
	return out
}

// findHosts finds for each name a tree around a hole where it may stand.
func (m *maker) findHosts(name string, host func(api.Node) api.Node) {
	type place struct {
		name string
		host func(api.Node) api.Node
	}
	queue := []place{{name, host}}
	for len(queue) > 0 {
		at := queue[0]
		queue = queue[1:]
		if m.hosts[at.name] != nil {
			continue
		}
		m.hosts[at.name] = at.host
		for _, p := range m.trees[at.name] {
			if p.kind < 0 {
				queue = append(queue, place{p.text, at.host})
			}
			for _, c := range m.contexts(at.name, p) {
				queue = append(queue, place{c.name, func(n api.Node) api.Node { return at.host(c.fill(n)) }})
			}
		}
	}
}

// context is a place in a tree where a kid of a name may stand.
type context struct {
	name string
	tree api.Node
	at   int
}

func (c context) fill(n api.Node) api.Node {
	kids := slices.Clone(c.tree.Kids)
	kids[c.at] = n
	return node(c.tree.Kind, c.tree.Text, kids...)
}

// contexts are the places for kids in the trees of a production.
func (m *maker) contexts(name string, p production) []context {
	var out []context
	if p.kind < 0 {
		return nil
	}
	for _, row := range m.plainRows(p.kids, 2) {
		n := node(p.kind, m.classes[p.text].samples[0])
		for _, kid := range row {
			n.Kids = append(n.Kids, m.least[kid])
		}
		for i, kid := range row {
			out = append(out, context{kid, n, i})
		}
	}
	return out
}

// sample is a tree, and a name that it may stand for.
type sample struct {
	name string
	tree api.Node
}

// samples are some trees of every production: those of all its rows of kids,
// with all texts, or only some of each.
func (m *maker) samples(rows int, texts int) []sample {
	var out []sample
	for _, name := range m.order {
		for _, p := range m.trees[name] {
			if p.kind < 0 {
				continue
			}
			all := m.classes[p.text].samples
			for i, row := range m.plainRows(p.kids, 2) {
				for _, text := range all[:min(texts, len(all))] {
					if i >= rows {
						break
					}
					n := node(p.kind, text)
					for _, kid := range row {
						n.Kids = append(n.Kids, m.least[kid])
					}
					out = append(out, sample{name, n})
				}
			}
		}
	}
	return out
}

// pool are trees to be put anywhere: one of every sort, and odd ones.
func (m *maker) pool() []api.Node {
	a := node(api.NIdent, "a")
	out := []api.Node{node(-1, ""), node(api.NProgram+1, ""), node(1<<40, ""), node(-1<<63, ""), node(api.NNone, "a"), node(api.NNone, "", a), node(api.NIdent, "a", a),
		node(api.NIdent, "if"), node(api.NIdent, "yield"), node(api.NIdent, "await"), node(api.NIdent, ""), node(api.NIdent, "1"), node(api.NIdent, "\xff"), node(api.NBlock, "", node(api.NDirective, "'a'"))}
	seen := map[string]bool{}
	for _, s := range m.samples(3, 100) {
		if key := show(s.tree); !seen[key] {
			seen[key] = true
			out = append(out, s.tree)
		}
	}
	for kind := range api.NProgram + 1 {
		out = append(out, node(kind, ""), node(kind, "", a))
	}
	return out
}

// shared calls ask for every number below count, from several goroutines.
func shared(count int, ask func(int)) {
	// Each look makes much that is soon forgotten.
	defer debug.SetGCPercent(debug.SetGCPercent(2000))
	var group sync.WaitGroup
	const workers = 8
	for w := range workers {
		group.Go(func() {
			for i := w; i < count; i += workers {
				ask(i)
			}
		})
	}
	group.Wait()
}

// TestSamples holds that what the grammar makes is accepted by both.
func TestSamples(t *testing.T) {
	m := newMaker(t)
	all := m.samples(100, 100)
	if len(all) < 300 {
		t.Fatalf("%d samples", len(all))
	}
	for _, s := range all {
		n := m.hosts[s.name](s.tree)
		if !m.accepts(&n) || ast.Check(n) != api.OK {
			t.Errorf("P8.1: %s for %s: %v, Check %d", show(n), s.name, m.accepts(&n), ast.Check(n))
		}
	}
}

// TestContexts puts every tree of the pool into every place of every shape.
func TestContexts(t *testing.T) {
	m := newMaker(t)
	pool := m.pool()
	var all []context
	var names []string
	for _, name := range m.order {
		for _, p := range m.trees[name] {
			longest := 0
			for _, c := range m.contexts(name, p) {
				longest = max(longest, len(c.tree.Kids))
			}
			for _, c := range m.contexts(name, p) {
				if len(c.tree.Kids) == longest {
					all = append(all, c)
					names = append(names, name)
				}
			}
		}
	}
	shared(len(all), func(i int) {
		for _, n := range pool {
			agree(t, m.rules, m.hosts[names[i]](all[i].fill(n)))
		}
	})
	for _, n := range pool {
		agree(t, m.rules, n)
	}
}

// TestTexts gives every shape every text.
func TestTexts(t *testing.T) {
	m := newMaker(t)
	set := map[string]bool{}
	for _, c := range classes() {
		for i, s := range c.samples {
			set[s] = true
			if i > 0 {
				continue
			}
			set[s+" "], set[" "+s], set[s+"\n"], set["/**/"+s], set[s+"a"], set["a"+s], set[s+"="], set[s+"\xff"], set[s+"//"] = true, true, true, true, true, true, true, true, true
		}
	}
	for _, s := range strings.Split("enum|let|static|async|of|1a|01|1_|a-b|-a|a.|.a|a..b|a.b-c|a-b.c|a:|:a|a:b:c|a:b.c|a.b:c|#|##a|#1|#!a|'|\"|'a\"|'a\n'|'\\x'|/a|//|/*/|/a/g-|/[/|/a\n/|`|${|$${|}|\\|\\\\|{|$\\{|<|>|a<|a}|"+
		"new.|import.|new . target|super.a|++|--|x+++|y++|static  get|static static|get static|static\tget|async *|*async|static short|getset|is|=>|,|...|?|. |await|instanceof |not|void 0|Var|VAR", "|") {
		set[s] = true
	}
	var texts []string
	for s := range set {
		texts = append(texts, s)
	}
	all := m.samples(1, 1)
	shared(len(all), func(i int) {
		s := all[i]
		for _, text := range texts {
			n := s.tree
			n.Text = text
			agree(t, m.rules, m.hosts[s.name](n))
		}
	})
}

// rowsOf are rows that are near to kids.
func rowsOf(kids []api.Node, put []api.Node) [][]api.Node {
	var out [][]api.Node
	for i := range kids {
		out = append(out, slices.Delete(slices.Clone(kids), i, i+1), slices.Insert(slices.Clone(kids), i, kids[i]))
		for j := range i {
			swapped := slices.Clone(kids)
			swapped[i], swapped[j] = swapped[j], swapped[i]
			out = append(out, swapped)
		}
	}
	for i := range len(kids) + 1 {
		for _, n := range put {
			out = append(out, slices.Insert(slices.Clone(kids), i, n))
		}
	}
	return out
}

// TestRows takes kids away, puts some in, and moves them, up to two times.
func TestRows(t *testing.T) {
	m := newMaker(t)
	a := node(api.NIdent, "a")
	put := []api.Node{{}, a, node(api.NSpread, "", a), node(api.NRest, "", a), node(api.NDirective, "'a'"), node(api.NEmpty, ""), node(api.NJText, "t"), m.least["case"], m.least["default"], m.least["block"], m.least["quasi"]}
	all := m.samples(100, 1)
	shared(len(all), func(i int) {
		s := all[i]
		for _, kids := range rowsOf(s.tree.Kids, put) {
			agree(t, m.rules, m.hosts[s.name](node(s.tree.Kind, s.tree.Text, kids...)))
			if len(kids) > 3 {
				continue
			}
			for _, more := range rowsOf(kids, put[:5]) {
				agree(t, m.rules, m.hosts[s.name](node(s.tree.Kind, s.tree.Text, more...)))
			}
		}
	})
}

// random makes a tree of a name; more levels than depth only where none ends
// sooner.
func (m *maker) random(r *rand.Rand, name string, depth int) api.Node {
	if depth <= 0 {
		return m.least[name]
	}
	p := m.trees[name][r.Intn(len(m.trees[name]))]
	if p.kind < 0 {
		return m.random(r, p.text, depth)
	}
	texts := m.classes[p.text].samples
	n := node(p.kind, texts[r.Intn(len(texts))])
	rows := m.plainRows(p.kids, 2)
	for _, kid := range rows[r.Intn(len(rows))] {
		n.Kids = append(n.Kids, m.random(r, kid, depth-1))
	}
	return n
}

// places are all nodes of a tree.
func places(n *api.Node) []*api.Node {
	out := []*api.Node{n}
	for i := range n.Kids {
		out = append(out, places(&n.Kids[i])...)
	}
	return out
}

// own returns a copy of n with memory of its own.
func own(n api.Node) api.Node {
	n.Kids = slices.Clone(n.Kids)
	for i := range n.Kids {
		n.Kids[i] = own(n.Kids[i])
	}
	return n
}

// TestRandom asks of trees of some levels, as the grammar makes them, and with
// one or two nodes replaced.
func TestRandom(t *testing.T) {
	m := newMaker(t)
	pool := m.pool()
	accepted := make([]int, 4000)
	shared(len(accepted), func(i int) {
		r := rand.New(rand.NewSource(int64(i)))
		n := own(m.random(r, "start", 2+i%12))
		if ast.Check(n) != api.OK {
			t.Errorf("P8.1: Check(%s) = %d", show(n), ast.Check(n))
		}
		all := places(&n)
		for range 6 {
			from, to := all[r.Intn(len(all))], all[r.Intn(len(all))]
			kept := *to
			*to = own(pool[r.Intn(len(pool))])
			agree(t, m.rules, n)
			if m.accepts(&n) {
				accepted[i]++
			}
			*to = kept
			moved := own(*from)
			*to = moved
			agree(t, m.rules, n)
			*to = kept
		}
	})
	total := 0
	for _, count := range accepted {
		total += count
	}
	if total < 500 {
		t.Errorf("only %d trees with replaced nodes are accepted", total)
	}
}
