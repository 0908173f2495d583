package project_test

import (
	"math/rand"
	"reflect"
	"slices"
	"strings"
	"testing"

	"duet/api"
	"duet/global"
	"duet/project"
)

// places is what a role does, place by place: what stands at the end of each way, whose steps are labels, and `.` to an only Kid. Two are merged if they say the same of each way that both have.
type places map[string]string

// head is what must be the same in two that are merged.
func head(l api.Local) string {
	s := strings.Repeat("k", l.Kind) + l.With + " " + strings.Repeat("s", l.Sort) + " " + l.Name
	if l.Kind == api.Pick {
		s += " " + strings.Join(l.Labels, ",")
	}
	return s
}

func placesOf(l api.Local) places {
	var kids []places
	for _, kid := range l.Kids {
		kids = append(kids, placesOf(kid))
	}
	return around(l, kids)
}

// around is a part, whatever its Kids are, with such places in them.
func around(l api.Local, kids []places) places {
	out := places{"": head(l)}
	for i, kid := range kids {
		step := "/."
		if len(l.Labels) > 0 {
			step = "/" + l.Labels[i]
		}
		for way, what := range kid {
			out[step+way] = what
		}
	}
	return out
}

func together(list ...places) (places, bool) {
	out, steps := places{}, map[string]int{}
	for _, p := range list {
		for way, what := range p {
			if had, has := out[way]; has && had != what {
				return nil, false
			} else if !has && way != "" {
				steps[way[:strings.LastIndex(way, "/")]]++
			}
			out[way] = what
		}
	}
	for _, count := range steps {
		if count > api.MaxLabels {
			return nil, false
		}
	}
	return out, true
}

// reckoned is what Of must say, place by place; false, if something can't be merged.
func reckoned(g api.Global, role string) (places, bool) {
	var kids []places
	for _, kid := range g.Kids {
		p, ok := reckoned(kid, role)
		if !ok {
			return nil, false
		}
		kids = append(kids, p)
	}
	part := api.Local{Kind: g.Kind, Sort: g.Sort, Name: g.Name, Labels: g.Labels}
	switch {
	case g.Kind == api.Rec && kids[0][""] == head(variable(g.Name)):
		return placesOf(end()), true
	case g.Kind == api.Rec && len(kids[0]) == 1:
		return kids[0], true
	case g.From == role:
		part.With = g.To
	case g.To == role:
		part.With, part.Kind = g.From, g.Kind+1
	case g.From != "":
		return together(kids...)
	}
	return around(part, kids), true
}

// smallTalk is all conversations of so many parts, whatever global.Check says of them.
func smallTalk(parts int) []api.Global {
	if parts == 1 {
		return []api.Global{{Kind: api.End}, {Kind: api.Var, Name: "x"}, {Kind: api.Var, Name: "y"}}
	}
	var out []api.Global
	for _, kid := range smallTalk(parts - 1) {
		kids := []api.Global{kid}
		out = append(out, api.Global{Kind: api.Rec, Name: "x", Kids: kids}, api.Global{Kind: api.Rec, Name: "y", Kids: kids}, api.Global{Kind: api.Send, From: "a", To: "b", Sort: api.Int, Kids: kids}, api.Global{Kind: api.Send, From: "b", To: "c", Sort: api.Bool, Kids: kids}, api.Global{Kind: api.Pick, From: "b", To: "c", Labels: []string{"m"}, Kids: kids})
	}
	for first := 1; first < parts-1; first++ {
		for _, x := range smallTalk(first) {
			for _, y := range smallTalk(parts - 1 - first) {
				kids := []api.Global{x, y}
				out = append(out, api.Global{Kind: api.Pick, From: "a", To: "b", Labels: []string{"m", "n"}, Kids: kids}, api.Global{Kind: api.Pick, From: "b", To: "c", Labels: []string{"n", "o"}, Kids: kids})
			}
		}
	}
	return out
}

// wantReckoned says whether it could all be merged.
func wantReckoned(t *testing.T, g api.Global, role string) bool {
	t.Helper()
	s, _ := global.Write(g)
	want, ok := reckoned(g, role)
	l, e := project.Of(g, role)
	if !ok {
		if e != api.ErrNone || !reflect.DeepEqual(l, api.Local{}) {
			t.Fatalf("Of(%s, %s): %s, %d, want ErrNone", s, role, plain(l), e)
		}
		return false
	}
	if e != api.OK || !reflect.DeepEqual(placesOf(l), want) {
		t.Fatalf("Of(%s, %s): %s, %d, want %v", s, role, plain(l), e, want)
	}
	if e := project.Check(l); e != api.OK {
		t.Fatalf("Of(%s, %s): %s, of which Check says %d", s, role, plain(l), e)
	}
	return true
}

func TestP38OfAllSmallOnes(t *testing.T) {
	well, none := 0, 0
	for parts := 1; parts <= 6; parts++ {
		for _, g := range smallTalk(parts) {
			if global.Check(g) != api.OK {
				continue
			}
			for _, role := range []string{"a", "b", "c", "d"} {
				if wantReckoned(t, g, role) {
					well++
				} else {
					none++
				}
			}
		}
	}
	if well < 10000 || none < 1000 {
		t.Errorf("too few: %d, %d", well, none)
	}
}

// anyTalk is a conversation of four roles; what stands behind a label is often much the same as behind the first one, so that there is much to be merged.
func anyTalk(dice *rand.Rand, deep int, names []string) api.Global {
	if deep == 0 || dice.Intn(8) == 0 {
		if len(names) > 0 && dice.Intn(3) > 0 {
			return api.Global{Kind: api.Var, Name: names[dice.Intn(len(names))]}
		}
		return api.Global{Kind: api.End}
	}
	if dice.Intn(5) == 0 {
		name := []string{"x", "y"}[dice.Intn(2)]
		return api.Global{Kind: api.Rec, Name: name, Kids: []api.Global{anyTalk(dice, deep-1, append(slices.Clone(names), name))}}
	}
	roles := dice.Perm(4)
	g := api.Global{Kind: api.Send, From: "abcd"[roles[0] : roles[0]+1], To: "abcd"[roles[1] : roles[1]+1], Sort: 1 + dice.Intn(2)}
	first := anyTalk(dice, deep-1, names)
	g.Kids = []api.Global{first}
	if dice.Intn(3) > 0 {
		g.Kind, g.Sort = api.Pick, 0
		g.Labels = someLabels(dice)
		for range g.Labels[1:] {
			g.Kids = append(g.Kids, changed(dice, first, deep-1, names))
		}
	}
	return g
}

func someLabels(dice *rand.Rand) []string {
	var labels []string
	from := dice.Intn(8)
	for i := from; i < min(9, from+1+dice.Intn(3)); i++ {
		labels = append(labels, "mnopqrstu"[i:i+1])
	}
	return labels
}

// changed has other labels here and there, and seldom another part.
func changed(dice *rand.Rand, g api.Global, deep int, names []string) api.Global {
	if dice.Intn(40) == 0 {
		return anyTalk(dice, max(0, deep), names)
	}
	if g.Kind == api.Rec {
		names = append(slices.Clone(names), g.Name)
	}
	kids := g.Kids
	g.Kids = nil
	for _, kid := range kids {
		g.Kids = append(g.Kids, changed(dice, kid, deep-1, names))
	}
	if labels := someLabels(dice); g.Kind == api.Pick && len(labels) == len(g.Labels) {
		g.Labels = labels
	}
	return g
}

// walked says something else each time, as the conversation goes on, and looks whether each role is where it does its part of it.
func walked(t *testing.T, dice *rand.Rand, g api.Global, team map[string]api.Local) {
	t.Helper()
	s, _ := global.Write(g)
	for range 40 {
		for g.Kind == api.Rec {
			g = putTalk(g.Kids[0], g)
		}
		for role, l := range team {
			for l.Kind == api.Rec {
				l = put(l.Kids[0], l)
			}
			team[role] = l
		}
		if g.Kind == api.End {
			for role, l := range team {
				if l.Kind != api.End {
					t.Fatalf("%s: at the end %s does %s", s, role, plain(l))
				}
			}
			return
		}
		from, to, k := team[g.From], team[g.To], dice.Intn(len(g.Kids))
		at := k
		if g.Kind == api.Pick {
			at = slices.Index(to.Labels, g.Labels[k])
		}
		if from.Kind != g.Kind || to.Kind != g.Kind+1 || from.With != g.To || to.With != g.From || from.Sort != g.Sort || to.Sort != g.Sort || !slices.Equal(from.Labels, g.Labels) || at < 0 {
			t.Fatalf("%s: at %s>%s they do %s and %s", s, g.From, g.To, plain(from), plain(to))
		}
		team[g.From], team[g.To], g = from.Kids[k], to.Kids[at], g.Kids[k]
	}
}

// put is l with a Rec in the place of its Vars.
func put(l, rec api.Local) api.Local {
	if l.Name == rec.Name && l.Kind == api.Var {
		return rec
	}
	if l.Name == rec.Name && l.Kind == api.Rec {
		return l
	}
	kids := l.Kids
	l.Kids = nil
	for _, kid := range kids {
		l.Kids = append(l.Kids, put(kid, rec))
	}
	return l
}

func putTalk(g, rec api.Global) api.Global {
	if g.Name == rec.Name && g.Kind == api.Var {
		return rec
	}
	if g.Name == rec.Name && g.Kind == api.Rec {
		return g
	}
	kids := g.Kids
	g.Kids = nil
	for _, kid := range kids {
		g.Kids = append(g.Kids, putTalk(kid, rec))
	}
	return g
}

// TestP38ManyOnes looks also whether the roles, each doing its part, together do what the conversation says.
func TestP38ManyOnes(t *testing.T) {
	dice := rand.New(rand.NewSource(38))
	talks, merged, none := 0, 0, 0
	for range 40000 {
		g := anyTalk(dice, 2+dice.Intn(4), nil)
		if global.Check(g) != api.OK {
			continue
		}
		team := map[string]api.Local{}
		for _, role := range []string{"a", "b", "c", "d"} {
			if wantReckoned(t, g, role) {
				team[role], _ = project.Of(g, role)
			}
		}
		if len(team) < 4 {
			none++
			continue
		}
		talks++
		if wide(team, g) {
			merged++
		}
		for range 3 {
			walked(t, dice, g, map[string]api.Local{"a": team["a"], "b": team["b"], "c": team["c"], "d": team["d"]})
		}
	}
	if talks < 5000 || merged < 300 || none < 3000 {
		t.Errorf("too few: %d, %d, %d", talks, merged, none)
	}
}

// wide says whether one offers more labels than are picked in any one place.
func wide(team map[string]api.Local, g api.Global) bool {
	most := mostLabels(g)
	for _, l := range team {
		if mostOffered(l) > most {
			return true
		}
	}
	return false
}

func mostLabels(g api.Global) int {
	most := len(g.Labels)
	for _, kid := range g.Kids {
		most = max(most, mostLabels(kid))
	}
	return most
}

func mostOffered(l api.Local) int {
	most := len(l.Labels)
	for _, kid := range l.Kids {
		most = max(most, mostOffered(kid))
	}
	return most
}
