package builder_test

import (
	"errors"
	"fmt"
	"strings"
	"testing"

	"builder/builder"
)

// told tells edges as text: OUTS<INS|IMPLICIT|ORDER RULE: COMMAND, a semicolon between.
func told(edges []builder.Edge) string {
	var each []string
	for _, e := range edges {
		each = append(each, fmt.Sprintf("%s<%s|%s|%s %s: %s", strings.Join(e.Outs, " "), strings.Join(e.Ins, " "), strings.Join(e.Implicit, " "), strings.Join(e.Order, " "), e.Rule, e.Command))
	}
	return strings.Join(each, "; ")
}

// reasonName tells which one reason an error is.
func reasonName(err error) string {
	names := []string{"name", "none", "room", "down", "syntax", "rule", "twice", "cycle", "target"}
	told := ""
	for i, reason := range reasons() {
		if errors.Is(err, reason) {
			told += names[i]
		}
	}
	return told
}

// parsed tells what Parse answers: the edges, or the reason and the line.
func parsed(t *testing.T, text string) string {
	t.Helper()
	m, err := builder.Parse(text)
	if err == nil {
		if m == nil {
			t.Fatalf("Parse(%q): neither a manifest nor an error", text)
		}
		return told(m.Edges())
	}
	var fault *builder.Fault
	if m != nil || !errors.As(err, &fault) || err.Error() == "" {
		t.Fatalf("Parse(%q): a manifest %v beside an error, or an error %q without a Fault", text, m, err)
	}
	return fmt.Sprint(reasonName(err), " at ", fault.At)
}

// manifests is texts and what is told of them, by turns.
type manifests [][2]string

func (list manifests) try(t *testing.T) {
	t.Helper()
	for _, each := range list {
		if got := parsed(t, each[0]); got != each[1] {
			t.Errorf("Parse(%q): %s, want %s", each[0], got, each[1])
		}
	}
}

// behindRule is a text whose first two lines are the rule c.
func behindRule(text string) string {
	return "rule c\n command = cat $in\n" + text
}

// shown is a text that shows, at its end, what the variable v is.
func shown(text string) string {
	return text + "\nrule show\n command = $v\nbuild o: show"
}

func TestParseExamples(t *testing.T) {
	manifests{
		{"rule c\n  command = cat $in\nbuild o: c a b", "o<a b|| c: cat a b"},
		{"v = 1\nrule c\n command = echo $v $w\nbuild o: c\n w = $v\nv = 2", "o<|| c: echo 2 1"},
		{"rule r\n command = x\nbuild a b | c: r d | e || f", "a b c<d|e|f r: x"},
		{"build a: r", "rule at 1"},
		{"x", "syntax at 1"},
		{"rule r\n command = x\nbuild a: r\nbuild a: r", "twice at 4"},
	}.try(t)
}

func TestParseOfMuch(t *testing.T) {
	manifests{
		{strings.Repeat("#", 4000), ""},
		{strings.Repeat("\n", 4000), ""},
		{strings.Repeat("$\n", 2000), ""},
		{strings.Repeat("#", 4001), "syntax at 0"},
		{strings.Repeat(" ", 4001), "syntax at 0"},
		{"x\n" + strings.Repeat("#", 3999), "syntax at 0"},
		{"x\n" + strings.Repeat("#", 3998), "syntax at 1"},
	}.try(t)
}

func TestLines(t *testing.T) {
	manifests{
		{"", ""},
		{"\n\n", ""},
		{"   ", ""},
		{"#", ""},
		{"   # x = $.\n#y", ""},
		{"v = 1\n\n \n#\n  #\nx", "syntax at 6"},
		{"v = 1\nw = 2\nx\ny", "syntax at 3"},
		{"v = 1\n\nx\n", "syntax at 3"},
		{"\tv = 1", "syntax at 1"},
		{"\t", "syntax at 1"},
		{"v = 1\r\n\r\n", "syntax at 2"},
		{"v\x00 = 1", "syntax at 1"},
		{shown("v = # no remark"), "o<|| show: # no remark"},
		{shown("v = 1\r"), "o<|| show: 1\r"},
	}.try(t)
}

func TestJoinedLines(t *testing.T) {
	manifests{
		{shown("v = a$\nb"), "o<|| show: ab"},
		{shown("v = a $\n   b $\n c"), "o<|| show: a b c"},
		{shown("v = a$$\nw = b"), "o<|| show: a$"},
		{shown("v = a$$$\nb"), "o<|| show: a$b"},
		{shown("v = a$$$$\nw = b"), "o<|| show: a$$"},
		{shown("v = a$\n\nw = b"), "o<|| show: a"},
		{shown("v = a$\n   \nw = b"), "o<|| show: a"},
		{shown("v = a$\n$\n$\nb"), "o<|| show: ab"},
		{shown("v = a$\n$$\nw = b"), "o<|| show: a$"},
		{shown("v = a$\n   $$$\n  b"), "o<|| show: a$b"},
		{shown("v = a$\n\tb"), "o<|| show: a\tb"},
		{shown("$\n  v = 1"), "o<|| show: 1"},
		{shown("v$\n=$\n1"), "o<|| show: 1"},
		{shown("v = $\n# no remark"), "o<|| show: # no remark"},
		{shown("u = 7\nv = $$u$u"), "o<|| show: $u7"},
		{shown("u = 7\nv = $\n$u$\n$u"), "o<|| show: 77"},
		{"v = x$", ""},
		{"v = x$\n", ""},
		{"$", ""},
		{"rule c\n command = cat$", ""},
		{" $\nv = 1", "syntax at 1"},
		{"# c $\n still $\n and still\nx", "syntax at 4"},
		{"v = 1$\n2\nx", "syntax at 3"},
		{"v = 1\nx $\n\n", "syntax at 2"},
		{"v = $\n$.", "syntax at 1"},
		{"rule c\n command = cat $in $\n   $out\nbuild o $\n p: $\n c $\n  q", "o p<q|| c: cat q o p"},
		{"rule c\n $\n command = cat", ""},
		{"rule c\n$\n command = cat", "syntax at 1"},
		{behindRule("build a: c\n w = 1$\n 2\n x"), "syntax at 6"},
	}.try(t)
}

func TestLinesThatBeginWithABlank(t *testing.T) {
	manifests{
		{" v = 1", "syntax at 1"},
		{"v = 1\n w = 2", "syntax at 2"},
		{behindRule("default a\n v = 1"), "syntax at 4"},
		{behindRule("build a: c\nv = 1\n w = 2"), "syntax at 5"},
		{" build a: c", "syntax at 1"},
		{behindRule("build a: c\n build b: c"), "syntax at 4"},
		{behindRule("build a: c\n\n # x\n   v = 1\n#\n w = 2\n"), "a<|| c: cat "},
		{"rule c\n\n#\n   # command\n    command = x", ""},
	}.try(t)
}

func TestBindings(t *testing.T) {
	manifests{
		{shown("v=1"), "o<|| show: 1"},
		{shown("v   =   1"), "o<|| show: 1"},
		{shown("v = 1 2  "), "o<|| show: 1 2  "},
		{shown("v = = 1"), "o<|| show: = 1"},
		{shown("v ="), "o<|| show: "},
		{shown("v =   "), "o<|| show: "},
		{shown("v = \xff\x00é:|"), "o<|| show: \xff\x00é:|"},
		{"aZ09_- = 1", ""},
		{"- = 1\n_ = 2\n9 = 3", ""},
		{"v", "syntax at 1"},
		{"v ", "syntax at 1"},
		{"v 1", "syntax at 1"},
		{"v w = 1", "syntax at 1"},
		{"v. = 1", "syntax at 1"},
		{"é = 1", "syntax at 1"},
		{"$v = 1", "syntax at 1"},
		{"= 1", "syntax at 1"},
		{"v\t= 1", "syntax at 1"},
		{behindRule("build a: c\n v"), "syntax at 4"},
		{behindRule("build a: c\n = 1"), "syntax at 4"},
		{behindRule("build a: c\n v w = 1"), "syntax at 4"},
		{behindRule("build a: c\n    v=1\n w=2\n x y"), "syntax at 6"},
	}.try(t)
}

func TestDollarsInValues(t *testing.T) {
	manifests{
		{shown("v = $$$ $:$|"), "o<|| show: $ :|"},
		{shown("v = $$w$$$$"), "o<|| show: $w$$"},
		{shown("w = 1\nv = $w ${w} $w${w}$w"), "o<|| show: 1 1 111"},
		{shown("w = 1\nwx = 2\nv = $wx ${w}x $w.x"), "o<|| show: 2 1x 1.x"},
		{shown("w-_9Z = 1\nv = $w-_9Z ${w-_9Z}"), "o<|| show: 1 1"},
		{shown("w = 1\nv = <$W$none${none}>"), "o<|| show: <>"},
		{shown("w = $$u\nu = 1\nv = $w"), "o<|| show: $u"},
		{shown("v = 1\nv = $v$v\nv = $v$v"), "o<|| show: 1111"},
		{shown("w = 1\nv = $w\nw = 2"), "o<|| show: 1"},
		{shown("v = {$$}"), "o<|| show: {$}"},
		{"v = $.", "syntax at 1"},
		{"v = $é", "syntax at 1"},
		{"v = $\tx", "syntax at 1"},
		{"v = $}", "syntax at 1"},
		{"v = $#", "syntax at 1"},
		{"v = ${", "syntax at 1"},
		{"v = ${}", "syntax at 1"},
		{"v = ${w", "syntax at 1"},
		{"v = ${w x}", "syntax at 1"},
		{"v = ${ w}", "syntax at 1"},
		{"v = ${w.x}", "syntax at 1"},
		{"v = ${$w}", "syntax at 1"},
		{"v = $$$.", "syntax at 1"},
		{"v = 1\nv = $v$=", "syntax at 2"},
	}.try(t)
}

// How much may come of a `$` is counted just behind it, not at the end.
func TestTooMuchComesOfADollar(t *testing.T) {
	many := "m = " + strings.Repeat("y", 1000) + "\nm = $m$m\n"
	manifests{
		{shown(many + "v = $m$m"), "o<|| show: " + strings.Repeat("y", 4000)},
		{many + "v = .$m$m", "syntax at 3"},
		{many + "v = $m$m$m", "syntax at 3"},
		{many + "v = $m${m}..", ""},
		{many + "v = $m$m$$", "syntax at 3"},
		{many + "v = $m$m$none", ""},
		{many + "v = $m$m.$none", "syntax at 3"},
		{many + "v = $m$m.$ ", "syntax at 3"},
		{many + "v = $m$m.\nw = $v", "syntax at 4"},
		{many + "v = $m$m.\nw = ${v}", "syntax at 4"},
		{many + behindRule("build a: c\n v = $m$m\n w = .$v"), "syntax at 7"},
		{many + "default $m", "name at 3"},
		{many + "default $m$m$m", "syntax at 3"},
		{many + "rule r\n command = $m$m$m", ""},
		{many + "rule r\n command = $m$m$m\nbuild a: r", "syntax at 0"},
		{many + "rule r\n command = $m$m$$\nbuild a: r", "syntax at 0"},
		{many + "rule r\n command = $m$m\nbuild a: r", "a<|| r: " + strings.Repeat("y", 4000)},
		{many + "rule r\n command = $m$m.\nbuild a: r", "a<|| r: " + strings.Repeat("y", 4000) + "."},
		{many + "rule r\n command = .$w\nbuild a: r\n w = $m$m", "syntax at 0"},
		{many + "rule r\n command = $m$m$in\nbuild a: r i", "syntax at 0"},
		{many + "rule r\n command = $m$m$m\nbuild a: r\nx", "syntax at 6"},
	}.try(t)
}

func TestKeywordsNeedABlank(t *testing.T) {
	manifests{
		{"rule=5\nbuild=6\ndefault=7\n" + shown("v = $rule$build$default"), "o<|| show: 567"},
		{"rule", "syntax at 1"},
		{"build", "syntax at 1"},
		{"default", "syntax at 1"},
		{"rule = 5", "syntax at 1"},
		{"build = 6", "syntax at 1"},
		{"default = 7", "name at 1"},
		{"rules c", "syntax at 1"},
		{"rules = c", ""},
		{"Rule c\n command = x", "syntax at 1"},
		{"build: c", "syntax at 1"},
		{"default:a", "syntax at 1"},
		{"default\ta", "syntax at 1"},
	}.try(t)
}

func TestRules(t *testing.T) {
	manifests{
		{"rule   c   \n command=x", ""},
		{"rule aZ09_-\n command = x\nbuild a: aZ09_-", "a<|| aZ09_-: x"},
		{"rule rule\n command = x\nrule command\n command = y\nbuild a: rule\nbuild b: command", "a<|| rule: x; b<|| command: y"},
		{"rule \n command = x", "syntax at 1"},
		{"rule c d\n command = x", "syntax at 1"},
		{"rule c.d\n command = x", "syntax at 1"},
		{"rule $v\n command = x", "syntax at 1"},
		{"rule c #\n command = x", "syntax at 1"},
		{"rule c", "syntax at 1"},
		{"rule c\n\n  \n # x\nv = 1", "syntax at 1"},
		{"rule c\ncommand = x", "syntax at 1"},
		{"rule c\nx", "syntax at 1"},
		{"rule c\n depfile = x", "syntax at 2"},
		{"rule c\n depfile = x\n command = y", "syntax at 2"},
		{"rule c\n\n command\n", "syntax at 3"},
		{"rule c\n Command = x", "syntax at 2"},
		{"rule c\n command = x\n command = x", "syntax at 3"},
		{"rule c\n command = x\n\n depfile = y", "syntax at 4"},
		{"rule c\n command = x\n x", "syntax at 3"},
		{"rule c\n command = $.\n x", "syntax at 2"},
		{"rule c\n command = ${\n", "syntax at 2"},
		{"rule c\n command = ${x", "syntax at 2"},
		{"rule c\n command = x $= y", "syntax at 2"},
		{behindRule("rule c\n command = x"), "rule at 3"},
		{behindRule("rule c"), "rule at 3"},
		{behindRule("rule c\n x"), "rule at 3"},
		{behindRule("rule c d"), "syntax at 3"},
		{behindRule("rule C\n command = x"), ""},
		{"rule c\n command =\nbuild a: c", "a<|| c: "},
	}.try(t)
}

func TestDefaults(t *testing.T) {
	manifests{
		{"default a b", ""},
		{"default   a$\n  b  ", ""},
		{"default a\ndefault a a", ""},
		{"v = a\ndefault $v ${v}c", ""},
		{"default ", "syntax at 1"},
		{"default    ", "syntax at 1"},
		{"default :", "syntax at 1"},
		{"default |", "syntax at 1"},
		{"default a:b", "syntax at 1"},
		{"default a|b", "syntax at 1"},
		{"default a || b", "syntax at 1"},
		{"default a b:", "syntax at 1"},
		{"default $.", "syntax at 1"},
		{"default é", "name at 1"},
		{"default $none", "name at 1"},
		{"default .log", "name at 1"},
		{"default .log.new", "name at 1"},
		{"default a$ b", "name at 1"},
		{"default a$:b", "name at 1"},
		{"default a$|b", "name at 1"},
		{"default é | b", "name at 1"},
		{"default a | é", "syntax at 1"},
		{"default é $.", "name at 1"},
		{"default $. é", "syntax at 1"},
	}.try(t)
}
