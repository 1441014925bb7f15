package builder_test

import (
	"fmt"
	"reflect"
	"strings"
	"testing"

	"builder/builder"
)

func TestBuildLines(t *testing.T) {
	manifests{
		{behindRule("build a:c"), "a<|| c: cat "},
		{behindRule("build a|b:c d|e||f"), "a b<d|e|f c: cat d"},
		{behindRule("build   a   b   |   d   :   c   e   |   f   ||   g   "), "a b d<e|f|g c: cat e"},
		{behindRule("build a b | d e: c f g | h i || j k"), "a b d e<f g|h i|j k c: cat f g"},
		{behindRule("build a |: c"), "a<|| c: cat "},
		{behindRule("build a: c |"), "a<|| c: cat "},
		{behindRule("build a: c ||"), "a<|| c: cat "},
		{behindRule("build a: c | ||"), "a<|| c: cat "},
		{behindRule("build a: c | d"), "a<|d| c: cat "},
		{behindRule("build a: c || d"), "a<||d c: cat "},
		{behindRule("build a: c d || e"), "a<d||e c: cat d"},
		{behindRule("build a: c a a | a || a"), "a<a a|a|a c: cat a a"},
		{behindRule("build a: c.x d"), "a<.x d|| c: cat .x d"},
		{behindRule("build a: c/d"), "a</d|| c: cat /d"},
		{behindRule("build a: c$none.d"), "a<.d|| c: cat .d"},
		{behindRule("build a: c\nbuild b: c a"), "a<|| c: cat ; b<a|| c: cat a"},
		{behindRule("build b: c a\nbuild a: c b"), "b<a|| c: cat a; a<b|| c: cat b"},
		{behindRule("build .logs .log.new2 x/.log: c log"), ".logs .log.new2 x/.log<log|| c: cat log"},
		{"v = q\n" + behindRule("build $v${v}x | y$v: c z$v | $v || ${v}.\nv = r"), "qqx yq<zq|q|q. c: cat zq"},
	}.try(t)
}

func TestBuildLinesOfAWrongShape(t *testing.T) {
	for _, text := range []string{
		"build ",
		"build a",
		"build a$:",
		"build a$:b c",
		"build a$$$: c",
		"build :",
		"build : c",
		"build | a: c",
		"build |: c",
		"build a | b | d: c",
		"build a | | b: c",
		"build a || b: c",
		"build a ||| b: c",
		"build a:",
		"build a:  ",
		"build a: |",
		"build a: .x",
		"build a: $none.x",
		"build a: c b:d",
		"build a: c :",
		"build a: c: b",
		"build a:: c",
		"build a: c | b | d",
		"build a: c | | d",
		"build a: c || b || d",
		"build a: c || b | d",
		"build a: c ||| d",
		"build a: c | b || d | e",
		"build a$.: c",
		"build ${a:b}: c",
		"build ${a b}: c",
		"build ${a|b}: c",
		"build ${: c",
		"build a: c $.",
		"build a: c ${b",
		"build a: c | $=",
		"build a: c || ${}",
	} {
		manifests{{behindRule(text), "syntax at 3"}}.try(t)
	}
}

func TestPathsMustBeNames(t *testing.T) {
	for _, path := range []string{".log", ".log.new", ".lo${g}", "a$:b", "a$|b", "a$ b", "a$$", "$$", "é", "a*", "a\tb", "$none", "${none}", strings.Repeat("n", 33), "${long}n", "#", "=", "{}"} {
		for _, form := range []string{"build %s: c", "build a %s: c", "build a | %s: c", "build a: c %s", "build a: c b | %s", "build a: c || %s", "default %s"} {
			text := "g = g\nlong = " + strings.Repeat("n", 32) + "\n" + behindRule(fmt.Sprintf(form, path))
			manifests{{text, "name at 5"}}.try(t)
		}
	}
	long := strings.Repeat("n", 32)
	manifests{
		{behindRule("build " + long + ": c"), long + "<|| c: cat "},
		{behindRule("build aZ0._/-: c"), "aZ0._/-<|| c: cat "},
	}.try(t)
}

// Which of a build line's errors is told.
func TestErrorsOfABuildLineInOrder(t *testing.T) {
	manifests{
		{"build é", "syntax at 1"},
		{"build é$:", "syntax at 1"},
		{"build é $.: x", "name at 1"},
		{"build $. é: x", "syntax at 1"},
		{"build é || a: x", "name at 1"},
		{"build a || é: x", "syntax at 1"},
		{"build | é: x", "name at 1"},
		{"build a | b | é: x", "name at 1"},
		{"build a$$ $.: x", "name at 1"},
		{"build a$$|$.: x", "name at 1"},
		{"build é: x :", "name at 1"},
		{"build é:", "name at 1"},
		{"build $.: x é", "syntax at 1"},
		{"build : x é", "name at 1"},
		{"build : é", "name at 1"},
		{"build | a: x é", "name at 1"},
		{"build a | b | d: x é", "name at 1"},
		{"build a: é", "name at 1"},
		{"build a: | é", "name at 1"},
		{"build a: $none", "name at 1"},
		{"build a: x é :", "name at 1"},
		{"build a: x : é", "syntax at 1"},
		{"build a: x é $.", "name at 1"},
		{"build a: x $. é", "syntax at 1"},
		{"build a: x | b | é", "name at 1"},
		{"build a: x || b | é", "name at 1"},
		{"build a: x || b || é", "name at 1"},
		{"build : x", "syntax at 1"},
		{"build a a | b |: x", "syntax at 1"},
		{"build a a: x | b | d", "syntax at 1"},
		{"build a a: x", "rule at 1"},
		{"build a: x\n é", "rule at 1"},
		{behindRule("build a: c\nbuild a: x"), "rule at 4"},
		{behindRule("build a: c\nbuild a: c || b | d"), "syntax at 4"},
		{behindRule("build a a: c\n x"), "twice at 3"},
		{behindRule("build a: c\n x\nbuild a: c"), "syntax at 4"},
	}.try(t)
}

func TestRuleSoFar(t *testing.T) {
	manifests{
		{"build a: c\n" + behindRule(""), "rule at 1"},
		{behindRule("build a: cc"), "rule at 3"},
		{behindRule("build a: C"), "rule at 3"},
		{behindRule("build a: phony"), "rule at 3"},
		{"v = c\n" + behindRule("build a: v"), "rule at 4"},
	}.try(t)
}

func TestOutsTwice(t *testing.T) {
	manifests{
		{behindRule("build a a: c"), "twice at 3"},
		{behindRule("build a b a: c"), "twice at 3"},
		{behindRule("build a | a: c"), "twice at 3"},
		{behindRule("build a | b b: c"), "twice at 3"},
		{"v = a\n" + behindRule("build a $v: c"), "twice at 4"},
		{behindRule("build a: c\nbuild b: c\nbuild d a: c"), "twice at 5"},
		{behindRule("build a | b: c\nbuild d | b: c"), "twice at 4"},
		{behindRule("build a | b: c\nbuild b: c"), "twice at 4"},
		{behindRule("build a: c b\nbuild b: c a\nbuild A: c"), "a<b|| c: cat b; b<a|| c: cat a; A<|| c: cat "},
	}.try(t)
}

func TestMostEdges(t *testing.T) {
	text := "rule c\n command = x\n"
	var want []string
	for i := range 64 {
		text += fmt.Sprintf("build e%d: c\n", i)
		want = append(want, fmt.Sprintf("e%d<|| c: x", i))
	}
	manifests{
		{text, strings.Join(want, "; ")},
		{text + "v = 1", strings.Join(want, "; ")},
		{text + "build e64: c", "syntax at 67"},
		{text + "build e0: c", "syntax at 67"},
		{text + "build e64: d", "syntax at 67"},
		{text + "build é: c", "name at 67"},
		{text + "build e64: c é", "name at 67"},
	}.try(t)
}

func TestEdgesOwnVariables(t *testing.T) {
	manifests{
		{"v = 1\nrule r\n command = $v\nbuild a: r\n v = $v$v\n v = $v$v\nbuild b: r", "a<|| r: 1111; b<|| r: 1"},
		{"v = 1\nrule r\n command = $w$x\nbuild a: r\n w = $v\n v = 3\n x = $v\nv = 2", "a<|| r: 13"},
		{"rule r\n command = <$v$w>\nbuild a: r\n v = 1\nbuild b: r\n w = $v", "a<|| r: <1>; b<|| r: <>"},
		{"rule r\n command = <$v>\nbuild a: r\nbuild b: r\n v =\nv = 2", "a<|| r: <2>; b<|| r: <>"},
		{"rule r\n command = $v\nbuild a$v: r $v.b\n v = 1", "a<.b|| r: 1"},
		{"rule r\n command = $v\nbuild a: r\n v = $$v$ $:$|", "a<|| r: $v :|"},
	}.try(t)
}

func TestCommands(t *testing.T) {
	manifests{
		{"rule r\n command = $in,$out\nbuild a b | c d: r e f | g || h", "a b c d<e f|g|h r: e f,a b c d"},
		{"rule r\n command = <$in>\nin = x\nout = y\nbuild a: r", "a<|| r: <>"},
		{"rule r\n command = $in $out $o\nbuild a: r c\n in = no\n out = none\n o = $out$in", "a<c|| r: c a noneno"},
		{"in = x\nout = y\nrule r\n command = $w\nbuild a: r c\n w = $in$out", "a<c|| r: xy"},
		{"rule r\n command = $v\nv = 1\nbuild a: r\nv = 2\nbuild b: r\nv = 3", "a<|| r: 3; b<|| r: 3"},
		{"rule r\n command = ${v}$$$:$|$ z$none\nbuild a: r", "a<|| r: $:| z"},
		{"rule r\n command = $v\nv = $$in\nbuild a: r c", "a<c|| r: $in"},
		{"rule r\n command =   x  y  \nbuild a: r", "a<|| r: x  y  "},
		{"rule command\n command = $command\ncommand = 1\nbuild a: command", "a<|| command: 1"},
	}.try(t)
}

// Of several wrong lines the first is told, a command that is too long behind all.
func TestErrorsInTheOrderOfLines(t *testing.T) {
	wrong := []struct{ text, reason string }{
		{"x", "syntax"},
		{"v = $.", "syntax"},
		{" v = 1", "syntax"},
		{"rule c\n command = x", "rule"},
		{"rule d", "syntax"},
		{"default é", "name"},
		{"build a: none", "rule"},
		{"build é: c", "name"},
		{"build a a: c", "twice"},
	}
	for _, first := range wrong {
		for _, second := range wrong {
			if first.text == "rule d" && second.text == " v = 1" {
				continue // a rule and its binding
			}
			text := behindRule("v = 1\n" + first.text + "\n" + second.text)
			manifests{{text, first.reason + " at 4"}}.try(t)
		}
	}
}

func TestEdgesAreTheCallers(t *testing.T) {
	m, err := builder.Parse(behindRule("build a b | d: c e f | g h || i j\nbuild k: c a"))
	if err != nil {
		t.Fatal(err)
	}
	want := told(m.Edges())
	edges := m.Edges()
	for _, list := range [][]string{edges[0].Outs, edges[0].Ins, edges[0].Implicit, edges[0].Order} {
		list[0] = "changed"
		_ = append(list[:1], "changed too")
	}
	if got, want := told(edges[:1]), "changed changed too d<changed changed too|changed changed too|changed changed too c: cat e f"; got != want {
		t.Errorf("the lists of one answer share memory: %s, want %s", got, want)
	}
	edges[1] = builder.Edge{}
	if got := told(m.Edges()); got != want {
		t.Errorf("Edges behind a change of what it handed out: %s, want %s", got, want)
	}
}

func TestManifestsStandAlone(t *testing.T) {
	text := "v = 1\nrule r\n command = $v\nbuild a: r"
	first, err := builder.Parse(text)
	if err != nil {
		t.Fatal(err)
	}
	edges := first.Edges()
	for _, other := range []string{"v = 2\nrule r\n command = $v$v\nbuild a b: r", "x", text} {
		builder.Parse(other)
	}
	manifests{
		{"build a: r", "rule at 1"},
		{"rule r\n command = <$v>\nbuild a: r", "a<|| r: <>"},
	}.try(t)
	if !reflect.DeepEqual(first.Edges(), edges) {
		t.Errorf("a manifest has changed: %v, want %v", first.Edges(), edges)
	}
}
