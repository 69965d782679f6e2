package tests

import (
	"encoding/hex"
	"fmt"
	"math"
	"regexp"
	"slices"
	"strconv"
	"strings"
	"testing"

	"loop.example/g00105/impl"
)

func sameDeeds(a, b []impl.Deed) bool {
	return slices.EqualFunc(a, b, sameDeed)
}

// told has what a console tells of a life, each of it ending a line.
func told(words ...string) string {
	var out strings.Builder
	for _, word := range words {
		out.WriteString(word + "\n")
	}
	return out.String()
}

// readsScript wants a script to have just these sectors and deeds, and the console to tell what RunLife does.
func readsScript(t *testing.T, what, text string, sectors int, deeds []impl.Deed) {
	t.Helper()
	gotSectors, gotDeeds, code := impl.ReadScript(text)
	if code != 0 || gotSectors != sectors || !sameDeeds(gotDeeds, deeds) {
		t.Fatalf("%s: ReadScript(%q) = %d, %+v, %d, not %d, %+v", what, text, gotSectors, gotDeeds, code, sectors, deeds)
	}
	life := mustLive(t, sectors, deeds)
	if got, want := impl.Console(text), told(life.Told...); got != want {
		t.Fatalf("%s: Console(%q) = %q, not %q", what, text, got, want)
	}
}

// refusesScript wants a script to be a fault at this line.
func refusesScript(t *testing.T, what, text string, line int) {
	t.Helper()
	sectors, deeds, code := impl.ReadScript(text)
	if sectors != 0 || len(deeds) != 0 || code != line {
		t.Errorf("%s: ReadScript(%q) = %d, %+v, %d, not the fault %d", what, text, sectors, deeds, code, line)
	}
	if got, want := impl.Console(text), fmt.Sprintf("fault %d\n", line); got != want {
		t.Errorf("%s: Console(%q) = %q, not %q", what, text, got, want)
	}
}

// A saidLine is a line of a script, the deed that it is, and what is told of it.
type saidLine struct {
	line string
	d    impl.Deed
	want string
}

// everyCommand has each command without `power`, with it, and with KEEP.
func everyCommand() []saidLine {
	round := "ok 1,3 02010001020000010001a0fe0aa0fe0a00"
	return []saidLine{
		{"show", impl.Deed{Text: "\x06"}, "ok"},
		{"join 3", impl.Deed{Text: "\x01\x03"}, "ok"},
		{"power 0 0 0 join 1", impl.Deed{Text: "\x01\x01", Cut: true}, "cut"},
		{"power 1 0 10 join 1", impl.Deed{Text: "\x01\x01", Cut: true, Step: 1, Part: 10}, "cut"},
		{"power 0 2 5 0,1,2,3 join 1", impl.Deed{Text: "\x01\x01", Cut: true, Torn: 2, Part: 5, Keep: []int{0, 1, 2, 3}}, "cut"},
		{"show", impl.Deed{Text: "\x06"}, "ok 3a"},
		{"power 1 7 0 0 join 1", impl.Deed{Text: "\x01\x01", Cut: true, Step: 1, Torn: 7, Keep: []int{0}}, "cut"},
		{"show", impl.Deed{Text: "\x06"}, "ok 1a 3a"},
		{"link 3 1 1 50 0", impl.Deed{Text: "\x02\x03\x01\x01\x32\x00"}, "ok"},
		{"power 1 0 3 raw 020301020000", impl.Deed{Text: "\x02\x03\x01\x02\x00\x00", Cut: true, Step: 1, Part: 3}, "cut"},
		{"power 1 0 3 4,0 raw 020301020000", impl.Deed{Text: "\x02\x03\x01\x02\x00\x00", Cut: true, Step: 1, Part: 3, Keep: []int{4, 0}}, "cut"},
		{"link 1 3 2 0 0", impl.Deed{Text: "\x02\x01\x03\x02\x00\x00"}, "ok"},
		{"audit 0", impl.Deed{Text: "\x05\x00"}, "fail 3"},
		{"power 1 1000000000 64 clear", impl.Deed{Text: "\x04", Cut: true, Step: 1, Torn: 1000000000, Part: 64}, "cut"},
		{"power 0 0 64 audit 0", impl.Deed{Text: "\x05\x00", Cut: true, Part: 64}, "fail 3"},
		{"clear", impl.Deed{Text: "\x04"}, "ok 0"},
		{"power 1 1 2 0 clear", impl.Deed{Text: "\x04", Cut: true, Step: 1, Torn: 1, Part: 2, Keep: []int{0}}, "cut"},
		{"audit 0", impl.Deed{Text: "\x05\x00"}, round},
		{"power 0 1 2 3 audit 0", impl.Deed{Text: "\x05\x00", Cut: true, Torn: 1, Part: 2, Keep: []int{3}}, round},
		{"raw 0501", impl.Deed{Text: "\x05\x01"}, "ok  00000000"},
		{"join 9", impl.Deed{Text: "\x01\x09"}, "ok"},
		{"power 0 0 1 leave 9", impl.Deed{Text: "\x03\x09", Cut: true, Part: 1}, "cut"},
		{"power 1 0 1 1 leave 9", impl.Deed{Text: "\x03\x09", Cut: true, Step: 1, Part: 1, Keep: []int{1}}, "cut"},
		{"leave 9", impl.Deed{Text: "\x03\x09"}, "ok"},
		{"power 1 0 0 show", impl.Deed{Text: "\x06", Cut: true, Step: 1}, "ok 1p0 3p0 9l"},
		{"power 1 0 0 0,0 show", impl.Deed{Text: "\x06", Cut: true, Step: 1, Keep: []int{0, 0}}, "ok 1p0 3p0 9l"},
		{"raw 00", impl.Deed{Text: "\x00"}, "fail 1"},
		{"power 1 0 0 raw ff0a20", impl.Deed{Text: "\xff\n ", Cut: true, Step: 1}, "fail 1"},
	}
}

func linesSaid(all []saidLine) []string {
	var out []string
	for _, x := range all {
		out = append(out, x.line)
	}
	return out
}

func deedsSaid(all []saidLine) []impl.Deed {
	var out []impl.Deed
	for _, x := range all {
		out = append(out, x.d)
	}
	return out
}

// scriptOf has a hall line ahead of the others, each line with its end.
func scriptOf(sectors int, lines ...string) string {
	return told(append([]string{fmt.Sprintf("hall %d", sectors)}, lines...)...)
}

// TestScriptsLetterByLetter has a script of each command, its deeds field by field, and what is told letter by letter.
func TestScriptsLetterByLetter(t *testing.T) {
	all := everyCommand()
	text := scriptOf(60, linesSaid(all)...)
	readsScript(t, "each command", text, 60, deedsSaid(all))
	var want []string
	for _, x := range all {
		want = append(want, x.want)
	}
	if got := impl.Console(text); got != told(want...) {
		t.Errorf("the console tells %q, not %q", got, told(want...))
	}
	for _, x := range all {
		readsScript(t, "alone", scriptOf(40, x.line), 40, []impl.Deed{x.d})
	}
}

// linesPassedOver has remarks, lines of blanks and empty ones.
func linesPassedOver() []string {
	return []string{
		"", " ", "       ", strings.Repeat(" ", impl.MaxWords), "#", " #", "##", "# a remark", "   #join 1", "#hall 40", "# hall 40", "# power 1 0 3 join 1", "#1", "#,", "# ~!\"$%&",
		"# 2 3 4 5 6 7 8", strings.Repeat("#", impl.MaxWords), "#" + strings.Repeat(" ", impl.MaxWords-1), strings.Repeat(" ", impl.MaxWords-1) + "#",
	}
}

// shortened lets MaxLines of them stay below MaxScript.
func shortened(line string) string {
	return line[:min(len(line), 40)]
}

// amidst has the lines with one of others ahead of each of them and behind the last one.
func amidst(lines []string, at func(int) string) []string {
	var out []string
	for i, line := range lines {
		out = append(out, at(i), line)
	}
	return append(out, at(len(lines)))
}

// Promise 17: lines that are passed over change nothing, wherever they stand.
func TestLinesPassedOverChangeNothing(t *testing.T) {
	all := everyCommand()
	others := linesPassedOver()
	lines := append([]string{"hall 60"}, linesSaid(all)...)
	for from := range others {
		text := told(amidst(lines, func(i int) string { return shortened(others[(from+i)%len(others)]) })...)
		readsScript(t, "between all lines", text, 60, deedsSaid(all))
		readsScript(t, "between all lines, without the last end", strings.TrimSuffix(text, "\n"), 60, deedsSaid(all))
	}
	for at := range len(lines) + 1 {
		for _, other := range others {
			readsScript(t, "one of them", told(slices.Insert(slices.Clone(lines), at, other)...), 60, deedsSaid(all))
		}
		readsScript(t, "many of them", told(slices.Insert(slices.Clone(lines), at, others[4:15]...)...), 60, deedsSaid(all))
	}
	readsScript(t, "a last line of blanks", told(lines...)+"  ", 60, deedsSaid(all))
	readsScript(t, "a last line that is a remark", told(lines...)+"# end", 60, deedsSaid(all))
}

// TestBlanksOfLines has blanks at the beginning and the end of each line, and more than one between its parts.
func TestBlanksOfLines(t *testing.T) {
	all := everyCommand()
	lines := append([]string{"hall 60"}, linesSaid(all)...)
	for what, turn := range map[string]func(string) string{
		"ahead":            func(line string) string { return " " + line },
		"behind":           func(line string) string { return line + " " },
		"between":          func(line string) string { return strings.ReplaceAll(line, " ", "  ") },
		"many of them":     func(line string) string { return "     " + strings.ReplaceAll(line, " ", "      ") + "    " },
		"a hundred":        func(line string) string { return strings.Repeat(" ", 20) + line + strings.Repeat(" ", 80) },
		"behind the first": func(line string) string { return strings.Replace(line, " ", "   ", 1) },
	} {
		var turned []string
		for _, line := range lines {
			turned = append(turned, turn(line))
		}
		readsScript(t, "blanks "+what, told(turned...), 60, deedsSaid(all))
	}
	for i, line := range lines {
		turned := slices.Clone(lines)
		turned[i] = line + strings.Repeat(" ", impl.MaxWords-len(line))
		readsScript(t, "a line of MaxWords bytes", told(turned...), 60, deedsSaid(all))
		turned[i] += " "
		refusesScript(t, "a line of one byte more than MaxWords", told(turned...), i+1)
		turned[i] = strings.Repeat(" ", impl.MaxWords-len(line)) + line
		readsScript(t, "a line of MaxWords bytes", told(turned...), 60, deedsSaid(all))
		turned[i] = " " + turned[i]
		refusesScript(t, "a line of one byte more than MaxWords", told(turned...), i+1)
	}
}

// TestPowerAheadOfLink: such a line has ten parts or eleven, which PartsOf refuses; a link is cut by `raw`.
func TestPowerAheadOfLink(t *testing.T) {
	refusesScript(t, "power and link", scriptOf(40, "join 1", "power 1 0 3 link 1 2 0 0 1"), 3)
	refusesScript(t, "power with KEEP and link", scriptOf(40, "join 1", "power 1 0 3 0 link 1 2 0 0 1"), 3)
	text := scriptOf(40, "join 1", "join 2", "power 1 0 3 raw 020102000001", "clear", "show", "power 1 0 3 0 raw 020102000001", "clear", "show")
	if got, want := impl.Console(text), told("ok", "ok", "cut", "ok 0", "ok 1a 2a", "cut", "ok 1", "ok 1p1 2p1"); got != want {
		t.Errorf("Console(%q) = %q, not %q", text, got, want)
	}
}

func TestScriptsOfNothing(t *testing.T) {
	for what, text := range map[string]string{
		"no text at all": "", "an empty line": "\n", "empty lines": "\n\n\n", "a blank": " ", "a remark": "#", "remarks alone": "# a\n#hall 40\n  # join 1\n", "MaxLines of them": strings.Repeat("#\n", impl.MaxLines),
		"MaxScript blanks": strings.Repeat(strings.Repeat(" ", 99)+"\n", impl.MaxScript/100),
	} {
		refusesScript(t, what, text, 1)
	}
}

func TestLastLines(t *testing.T) {
	join1 := []impl.Deed{{Text: "\x01\x01"}}
	readsScript(t, "no deed", "hall 40\n", 40, nil)
	readsScript(t, "no deed, without an end", "hall 40", 40, nil)
	readsScript(t, "an end", "hall 40\njoin 1\n", 40, join1)
	readsScript(t, "no end", "hall 40\njoin 1", 40, join1)
	readsScript(t, "two ends", "hall 40\njoin 1\n\n", 40, join1)
	refusesScript(t, "a fault and an end", "hall 40\njoin\n", 2)
	refusesScript(t, "a fault without an end", "hall 40\njoin", 2)
	refusesScript(t, "a hall that is a fault, without an end", "#\n\nhall", 3)
	if got := impl.Console("hall 40"); got != "" {
		t.Errorf("the console tells %q of no deed", got)
	}
}

// ofBytes is a right script of so many bytes, filled by remarks.
func ofBytes(size int) string {
	text := "hall 40\njoin 1\nshow\n"
	for size-len(text) > 300 {
		text += "#" + strings.Repeat("x", 198) + "\n"
	}
	return text + "#" + strings.Repeat("y", size-len(text)-1)
}

func TestMaxScript(t *testing.T) {
	deeds := []impl.Deed{{Text: "\x01\x01"}, {Text: "\x06"}}
	for _, size := range []int{200, impl.MaxScript - 1, impl.MaxScript} {
		text := ofBytes(size)
		readsScript(t, fmt.Sprintf("%d bytes", len(text)), text, 40, deeds)
		readsScript(t, "the last one an end", text[:len(text)-1]+"\n", 40, deeds)
	}
	for _, size := range []int{impl.MaxScript + 1, impl.MaxScript + 2, 2 * impl.MaxScript} {
		text := ofBytes(size)
		refusesScript(t, fmt.Sprintf("%d bytes", len(text)), text, -1)
		refusesScript(t, "the last one an end", text[:len(text)-1]+"\n", -1)
	}
	refusesScript(t, "one more, which ends the last line", ofBytes(impl.MaxScript)+"\n", -1)
}

func TestMaxLines(t *testing.T) {
	deeds := []impl.Deed{{Text: "\x01\x01"}, {Text: "\x06"}}
	for _, other := range []string{"\n", "#\n", " \n"} {
		first := "hall 40\n" + strings.Repeat(other, impl.MaxLines-3) + "join 1\n"
		readsScript(t, "MaxLines, an end", first+"show\n", 40, deeds)
		readsScript(t, "MaxLines, no end", first+"show", 40, deeds)
		refusesScript(t, "one line more", first+"show\n"+other, -1)
		refusesScript(t, "one line more, no end", first+"show\n#", -1)
		refusesScript(t, "one line more, a blank", first+"show\n ", -1)
		refusesScript(t, "a deed in the line beyond", first+"#\nshow", -1)
		refusesScript(t, "many more", first+strings.Repeat(other, 500), -1)
	}
	refusesScript(t, "empty lines alone", strings.Repeat("\n", impl.MaxScript), -1)
}

// TestTooLongScriptsWithFaults: whatever else is wrong, a text that passes a limit is told as such.
func TestTooLongScriptsWithFaults(t *testing.T) {
	for what, text := range map[string]string{
		"no hall, too many lines":      strings.Repeat("#\n", impl.MaxLines+1),
		"no hall, too many bytes":      strings.Repeat(strings.Repeat(" ", 199)+"\n", 31),
		"one line of too many bytes":   strings.Repeat("x", impl.MaxScript+1),
		"a fault in the first line":    "x\n" + strings.Repeat("\n", impl.MaxLines),
		"a fault in the second line":   "hall 40\nx\n" + strings.Repeat("\n", impl.MaxLines),
		"a fault in the last line":     "hall 40\n" + strings.Repeat("\n", impl.MaxLines) + "x",
		"a fault and too many bytes":   "hall 40\nx\n" + strings.Repeat(strings.Repeat(" ", 199)+"\n", 30),
		"a byte that is none, and all": "\x00\n" + strings.Repeat("\xff\n", impl.MaxScript),
		"many deeds":                   "hall 40\n" + strings.Repeat("show\n", impl.MaxLines),
	} {
		refusesScript(t, what, text, -1)
	}
}

func TestMaxDeedsOfScripts(t *testing.T) {
	many := slices.Repeat([]string{"show"}, impl.MaxDeeds-1)
	deeds := append([]impl.Deed{{Text: "\x01\x05"}}, slices.Repeat([]impl.Deed{{Text: "\x06"}}, impl.MaxDeeds-1)...)
	lines := append([]string{"hall 40", "join 5"}, many...)
	readsScript(t, "MaxDeeds", told(lines...), 40, deeds)
	readsScript(t, "MaxDeeds, and lines that are passed over", told(lines...)+"#\n\n# show\n", 40, deeds)
	refusesScript(t, "one more", told(lines...)+"show\n", impl.MaxDeeds+2)
	refusesScript(t, "one more, without an end", told(lines...)+"show", impl.MaxDeeds+2)
	refusesScript(t, "one more, behind a remark", told(lines...)+"#\n\njoin 6\n", impl.MaxDeeds+4)
	refusesScript(t, "one more, and a fault behind it", told(lines...)+"show\n#\nx\n", impl.MaxDeeds+2)
	refusesScript(t, "one more that is a fault itself", told(lines...)+"shown\n", impl.MaxDeeds+2)
	refusesScript(t, "many more", told(lines...)+strings.Repeat("show\n", 18), impl.MaxDeeds+2)
	refusesScript(t, "one more, with a power", told(lines...)+"power 0 0 0 join 1\n", impl.MaxDeeds+2)
	refusesScript(t, "a fault ahead of one more", told(slices.Replace(slices.Clone(lines), 20, 21, "x")...)+"show\n", 21)
	refusesScript(t, "a fault in a line that is passed over, behind MaxDeeds", told(lines...)+"#\x7f\n", impl.MaxDeeds+2)
}

func TestSectorsOfScripts(t *testing.T) {
	for _, sectors := range []int{4, 5, 40, impl.MaxSectors - 1, impl.MaxSectors} {
		readsScript(t, "sectors", scriptOf(sectors, "join 1", "join 2", "show"), sectors, deedsOfTexts("\x01\x01", "\x01\x02", "\x06"))
	}
	for _, sectors := range []int{3, impl.MaxSectors + 1, 0, 1, 2, impl.MaxNumber, impl.MaxNumber + 1, -1, -4, -40, math.MaxInt, math.MinInt} {
		refusesScript(t, "sectors that FormatStore refuses", scriptOf(sectors, "join 1"), 1)
		refusesScript(t, "sectors that FormatStore refuses, behind others", "# a\n\n \n"+scriptOf(sectors), 4)
	}
}

func deedsOfTexts(texts ...string) []impl.Deed {
	var out []impl.Deed
	for _, text := range texts {
		out = append(out, impl.Deed{Text: text})
	}
	return out
}

func TestWrongHallLines(t *testing.T) {
	for _, line := range []string{
		"hall", "hall 40 40", "hall 40 #", "hall 40 join 1", "hall x", "hall 040", "hall 0", "hall 4x", "hall x4", "hall +40", "hall -40", "hall 40.", "hall 4,0", "hall 40,", "hall 0x28", "hall 1e2", "hall 40\x00",
		"Hall 40", "HALL 40", "hall40", "halls 40", "hal 40", "hhall 40", "40 hall", "40", "power 0 0 0 hall 40", "power hall 40", "\thall 40", "hall\t40", "hall 40\r", "hall\x0040", "hall 9999999999", "hall 18446744073709551656",
		"join 1", "show", "clear", "raw 06", "power 0 0 0 show", "x", "-", "\"hall 40\"", "hall:40", "h", ".#", "hall #40",
	} {
		for ahead := range 3 {
			text := strings.Repeat("# a\n", ahead) + line + "\nhall 40\njoin 1\n"
			refusesScript(t, "no hall line", text, ahead+1)
			refusesScript(t, "no hall line, the last one", strings.Repeat("\n", ahead)+line, ahead+1)
		}
	}
	refusesScript(t, "a second hall line", "hall 40\nhall 40\n", 2)
	refusesScript(t, "another second hall line", "hall 40\n\njoin 1\n#\nhall 41\nshow\n", 5)
	refusesScript(t, "a second hall line with power", "hall 40\npower 0 0 0 hall 40\n", 2)
	readsScript(t, "a hall line in a remark", "#hall 50\nhall 40\n# hall 30\n", 40, nil)
}

// faultsAsDeed wants the line to be a fault among deeds that are right, wherever it stands, with its line counted from 1 on.
func faultsAsDeed(t *testing.T, what, line string) {
	t.Helper()
	refusesScript(t, what, scriptOf(40, line), 2)
	refusesScript(t, what+", behind others", scriptOf(40, "join 1", "#", "", "  ", line), 6)
	refusesScript(t, what+", amidst others", scriptOf(40, "# a", "join 1", line, "show"), 4)
	refusesScript(t, what+", without an end", "hall 40\njoin 1\n"+line, 3)
}

func TestWrongCommands(t *testing.T) {
	for _, line := range []string{
		"x", "joi 1", "joins 1", "Join 1", "JOIN 1", "join1", "join,1", "jjoin 1", "1 join", "1", "0", "0105", "06", ",", "-", "raws 06", "Raw 06", "shows", "showshow", "clears", "unlink 1 2 0 0 1", "powers 0 0 0 show", "Power 0 0 0 show",
		"open", "quit", "help", "keep", "hall", "hall 40", "join 1 join 2", "show show", "show; show", "clear show", "\"show\"", "'show'", "show.", ".show", "show,", "join #1", "join 1 #", "join 1 # a remark", "show #", "clear # now", "x#", "x #",
		"join", "leave", "audit", "link", "link 1", "link 1 2", "link 1 2 0", "link 1 2 0 0", "raw",
		"join 1 2", "leave 1 2", "audit 0 0", "clear 0", "show 0", "show 1 2 3", "link 1 2 0 0 1 0", "link 1 2 0 0 1 0 0", "raw 06 06", "raw 01 05", "raw 06 #", "join 1 ,",
	} {
		faultsAsDeed(t, "no command", line)
	}
}

// wrongNumbers has words that ReadDecimal reads nothing of.
func wrongNumbers() []string {
	return []string{"01", "00", "007", "+1", "-1", "-0", "+0", "1000000001", "10000000000", "9999999999", "4294967297", "18446744073709551617", "x", "1x", "x1", "1.", "1.0", "1e0", "0x1", "1,", ",1", "1,2", "1_0", "#1", "join", "show", "\"1\"", "a", "f", "/", ":"}
}

func TestWrongNumbers(t *testing.T) {
	for _, n := range wrongNumbers() {
		for _, form := range []string{"join %s", "leave %s", "audit %s", "link %s 2 0 0 1", "link 1 %s 0 0 1", "link 1 2 %s 0 1", "link 1 2 0 %s 1", "link 1 2 0 0 %s", "power 0 0 0 join %s", "power 0 0 0 1 join %s", "power %s 0 0 show", "power 0 %s 0 show", "power 0 0 %s show", "power 0 0 0 %s show x", "power 0 0 0 1,%s,x show", "power %s 0 0 1 show"} {
			faultsAsDeed(t, "a number that is none", fmt.Sprintf(form, n))
		}
		if n != "1,2" {
			faultsAsDeed(t, "KEEP that is none", fmt.Sprintf("power 0 0 0 %s join 1", n))
			faultsAsDeed(t, "KEEP that is none", fmt.Sprintf("power 0 0 0 3,%s join 1", n))
			faultsAsDeed(t, "KEEP that is none", fmt.Sprintf("power 0 0 0 %s,3 join 1", n))
		}
	}
}

// TestGreatNumbers has the greatest number that is told in every place that takes one.
func TestGreatNumbers(t *testing.T) {
	most, n := "\x80\x94\xeb\xdc\x03", impl.MaxNumber
	readsScript(t, "MaxNumber", scriptOf(40,
		"join 1000000000", "leave 1000000000", "audit 1000000000", "link 1000000000 1000000000 1000000000 1000000000 1000000000",
		"power 0 1000000000 0 1000000000 join 1000000000", "power 1 1000000000 64 0,1000000000,5 show", "join 0", "join 127", "join 128"), 40, []impl.Deed{
		{Text: "\x01" + most}, {Text: "\x03" + most}, {Text: "\x05" + most}, {Text: "\x02" + most + most + most + most + most},
		{Text: "\x01" + most, Cut: true, Torn: n, Keep: []int{n}}, {Text: "\x06", Cut: true, Step: 1, Torn: n, Part: 64, Keep: []int{0, n, 5}}, {Text: "\x01\x00"}, {Text: "\x01\x7f"}, {Text: "\x01\x80\x01"},
	})
}

func TestStepsAndPartsOfPower(t *testing.T) {
	for step := range 4 {
		for _, part := range []int{0, 1, 10, 11, impl.SectorSize - 1, impl.SectorSize, impl.SectorSize + 1, impl.SectorSize + 2, impl.MaxNumber} {
			for keep, numbers := range map[string][]int{"": nil, " 0": {0}, " 3,1": {3, 1}} {
				line := fmt.Sprintf("power %d 0 %d%s join 5", step, part, keep)
				if step > 1 || part > impl.SectorSize {
					faultsAsDeed(t, "a deed that is not DeedOk", line)
					continue
				}
				readsScript(t, "power", scriptOf(40, "join 4", line, "show"), 40, []impl.Deed{{Text: "\x01\x04"}, {Text: "\x01\x05", Cut: true, Step: step, Part: part, Keep: numbers}, {Text: "\x06"}})
			}
		}
	}
}

// keepOf has so many numbers, from one on, with a comma between.
func keepOf(from, many int) (string, []int) {
	var words []string
	var numbers []int
	for n := from; n < from+many; n++ {
		words, numbers = append(words, strconv.Itoa(n)), append(numbers, n)
	}
	return strings.Join(words, ","), numbers
}

func TestKeepsOfPower(t *testing.T) {
	for many := 1; many <= 60; many++ {
		for _, from := range []int{0, 9, 1000} {
			word, numbers := keepOf(from, many)
			readsScript(t, "KEEP", scriptOf(40, "power 1 0 3 "+word+" join 5", "show"), 40, []impl.Deed{{Text: "\x01\x05", Cut: true, Step: 1, Part: 3, Keep: numbers}, {Text: "\x06"}})
		}
	}
	word, _ := keepOf(0, 61)
	faultsAsDeed(t, "KEEP of one more than DeedOk takes", "power 1 0 3 "+word+" join 5")
	faultsAsDeed(t, "KEEP of as many as a line holds", "power 1 0 3 "+strings.Repeat("0,", 191)+"0 show")
	faultsAsDeed(t, "KEEP of more than a line holds", "power 1 0 3 "+strings.Repeat("0,", 192)+"0 show")
	readsScript(t, "KEEP of numbers that are alike", scriptOf(40, "power 1 0 3 "+strings.Repeat("0,", 59)+"0 show"), 40, []impl.Deed{{Text: "\x06", Cut: true, Step: 1, Part: 3, Keep: make([]int, 60)}})
	// 36 numbers of five figures and 24 of six fill the line just to MaxWords.
	first, low := keepOf(10000, 36)
	last, high := keepOf(100000, 24)
	line := "power 0 0 0 " + first + "," + last + " show"
	if len(line) != impl.MaxWords {
		t.Fatalf("the line has %d bytes", len(line))
	}
	readsScript(t, "KEEP up to the end of a line", scriptOf(40, line), 40, []impl.Deed{{Text: "\x06", Cut: true, Keep: append(low, high...)}})
	faultsAsDeed(t, "KEEP beyond the end of a line", strings.Replace(line, "10000,", "100000,", 1))
}

func TestWrongPowers(t *testing.T) {
	for _, line := range []string{
		"power", "power 0", "power 0 0", "power 0 0 0", "power 0 0 0 1", "power 0 0 0 1,2", "power show", "power 0 show", "power 0 0 show", "power join 1", "power 0 join 1", "power 0 0 join 1", "power 0 0 0 0 0 show", "power 0 0 0 1 2 show", "power 0 0 0 1 2 join 3",
		"power 0 0 0 1, show", "power 0 0 0 1,,2 show", "power 0 0 0 1,x show", "power 0 0 0 ,1 show", "power 0 0 0 , show", "power 0 0 0 ,, show", "power 0 0 0 1;2 show", "power 0 0 0 1. show", "power 0 0 0 1,2, show", "power 0 0 0 1,02 show", "power 0 0 0 1,-2 show", "power 0 0 0 1,+2 show",
		"power 0 0 0 1, 2 show", "power 0 0 0 1 ,2 show", "power 0 0 0 1 , 2 show", "power 0 0 0 1join 1", "power 0 0 0 1show", "power 0 0 0 0show", "power 0 0 0 9raw 06", "power 0 0 0 06", "power 0 0 0 1,show", "power 0 0 0 x show", "power 0 0 0 keep show", "power 0 0 0 -1 show", "power 0 0 0 +1 show", "power 0 0 0 a,b show",
		"power 0 0 0 power 0 0 0", "power 0 0 0 power show", "power power 0 0 0 show", "power 0 0 0 power 0 0 0 show", "power 0 0 0 power 0 0 0 join 1", "power 0 0 0 1 power 0 0", "power 0 0 0 1 power", "power 0 0 0 power",
		"show power 0 0 0", "join 1 power 0 0 0", "join power 0 0 0 1", "power 0 0 0 #", "power 0 0 0 # show", "power # 0 0 0 show", "power 0 0 0 1 # show", "power 0 0 0 x", "power 0 0 0 hall 40", "power 0 0 0 hall", "power 0 0 0 1 hall 40", "power 0 0 0 40",
		"power 0 0 0 join", "power 0 0 0 join 1 2", "power 0 0 0 1 join", "power 0 0 0 show 0", "power 0 0 0 1 show 0", "power 0 0 0 clear 1", "power 0 0 0 raw", "power 0 0 0 1 raw", "power 0 0 0 raw 06 06", "power 0,0 0 0 show", "power 0 0,0 0 show", "power 0 0 0,0 show 0",
		"power 2 0 0 show", "power 0 0 65 show", "power 2 0 65 show", "power 1 0 65 1 show",
	} {
		faultsAsDeed(t, "no power", line)
	}
}

func TestRawTexts(t *testing.T) {
	for size := 1; size <= 40; size++ {
		text := strings.Repeat("\x9f\x0a\x00", 14)[:size]
		figures := strings.Repeat("9f0a00", 14)[:2*size]
		readsScript(t, "raw", scriptOf(40, "raw "+figures, "power 1 0 3 raw "+figures, "power 0 1 64 0 raw "+figures), 40,
			[]impl.Deed{{Text: text}, {Text: text, Cut: true, Step: 1, Part: 3}, {Text: text, Cut: true, Torn: 1, Part: 64, Keep: []int{0}}})
	}
	for _, size := range []int{41, 42, 100, 198} {
		faultsAsDeed(t, "a Text that is too long", "raw "+strings.Repeat("06", size))
	}
	faultsAsDeed(t, "a Text that is too long, with power", "power 0 0 0 raw "+strings.Repeat("06", 41))
	for b := range 256 {
		readsScript(t, "raw", scriptOf(40, fmt.Sprintf("raw %02x", b)), 40, deedsOfTexts(string([]byte{byte(b)})))
	}
	for _, figures := range []string{"0", "6", "060", "0x06", "0g", "g0", "0A", "FF", "fF", "06,", "0 6", "6h", "-6", "+6", "#", "06#", "zz", "raw", "06.", "..", "0/", "0:", "0`", "0@", "0G", strings.Repeat("0", 81), strings.Repeat("0", 79)} {
		faultsAsDeed(t, "figures that Unhex refuses", "raw "+figures)
		faultsAsDeed(t, "figures that Unhex refuses, with power", "power 1 0 3 raw "+figures)
	}
	if got, want := impl.Console(scriptOf(40, "raw 0105", "raw 010600", "raw 07", "raw 018500", "raw 06", "raw 04", "raw 0500")), told("ok", "fail 1", "fail 1", "fail 1", "ok 5a", "ok 0", "ok 5 0100000000"); got != want {
		t.Errorf("the console tells %q, not %q", got, want)
	}
}

func TestPartsOfLines(t *testing.T) {
	readsScript(t, "a remark of MaxParts parts", scriptOf(40, "# 2 3 4 5 6 7 8", "show"), 40, deedsOfTexts("\x06"))
	for _, line := range []string{"# 2 3 4 5 6 7 8 9", "#2 2 3 4 5 6 7 8 9", "# a remark that has more words than parts do", "power 0 0 0 0 join 1 2", "power 0 0 0 0 join 1 2 3", "1 2 3 4 5 6 7 8 9", "link 1 2 0 0 1 0 0 0", "join 1 2 3 4 5 6 7 8"} {
		faultsAsDeed(t, "parts", line)
	}
	refusesScript(t, "a remark of one part more ahead of the hall line", "#\n# 2 3 4 5 6 7 8 9\nhall 40\n", 2)
	refusesScript(t, "a remark of one byte more than MaxWords ahead of the hall line", "#\n#"+strings.Repeat("x", impl.MaxWords)+"\nhall 40\n", 2)
	refusesScript(t, "a line of too many blanks", scriptOf(40, "show", strings.Repeat(" ", impl.MaxWords+1), "show"), 3)
	refusesScript(t, "a line of too many blanks, and nothing else", "\n"+strings.Repeat(" ", impl.MaxWords+1), 2)
	refusesScript(t, "a remark that is refused, and no hall line", "# a\n# 2 3 4 5 6 7 8 9\n", 2)
}

// TestBytesOfLines has each byte in each kind of line: those that are not in 32 .. 126 are faults, in remarks too.
func TestBytesOfLines(t *testing.T) {
	for b := range 256 {
		x := string([]byte{byte(b)})
		isRight := b >= 32 && b <= 126
		for _, line := range []string{"#" + x, "# a" + x + "b", "  # " + x} {
			switch {
			case isRight:
				readsScript(t, "a remark", scriptOf(40, line, "show"), 40, deedsOfTexts("\x06"))
				readsScript(t, "a remark ahead", line+"\n"+scriptOf(40, "show"), 40, deedsOfTexts("\x06"))
			case b != '\n':
				faultsAsDeed(t, "a remark with a byte that is none", line)
				refusesScript(t, "a remark ahead with a byte that is none", "\n"+line+"\nhall 40\n", 2)
			}
		}
		if b == ' ' || b == '\n' {
			continue
		}
		for _, line := range []string{"show" + x, x + "show", "sh" + x + "ow", "show " + x} {
			if line[0] != '#' {
				faultsAsDeed(t, "a byte in a command", line)
			}
		}
		if b < '0' || b > '9' {
			faultsAsDeed(t, "a byte in a number", "join 1"+x+"1")
			refusesScript(t, "a byte in the sectors", "hall 4"+x+"\n", 1)
		}
	}
}

// TestLettersOfManyBytes: a line ends with the byte 10 alone, whatever runes there are, and such as are none.
func TestLettersOfManyBytes(t *testing.T) {
	for _, x := range []string{"\u010a", "\u0a0a", "\u000b", "\u000c", "\u000d", "\u0085", "\u2028", "\u2029", "\u00a0", "\u3000", "\ufeff", "\ufffd", "\u0660", "\uff11", "\U0001f600", "\xc0\x8a", "\xe0\x80\x8a", "\xff", "\x8a", "\xc3", "\xf0\x9f", "\xed\xa0\x80", "\r"} {
		faultsAsDeed(t, "letters of many bytes", "# "+x)
		faultsAsDeed(t, "letters of many bytes", "show"+x)
		faultsAsDeed(t, "letters of many bytes", "show"+x+"show")
		faultsAsDeed(t, "letters of many bytes", "join "+x)
		faultsAsDeed(t, "letters of many bytes", "power 0 0 0 "+x+" show")
		refusesScript(t, "letters of many bytes", "#"+x+"hall 40\nhall 40\n", 1)
		refusesScript(t, "letters of many bytes", x+"\nhall 40\n", 1)
		refusesScript(t, "letters of many bytes", "hall 40"+x+"show\n", 1)
		refusesScript(t, "letters of many bytes", "\n\nhall 40\n\n"+x, 5)
	}
	// A rune that is broken off by the end of its line does not take that end along.
	for _, x := range []string{"\xc3", "\xe2\x80", "\xf0\x9f\x98"} {
		refusesScript(t, "a broken rune", "hall 40\n#"+x+"\nshow\n", 2)
		refusesScript(t, "a broken rune", "hall 4\n\nx\n#"+x+"\nshow\n", 3)
	}
}

// TestTwoFaults has the line of the first one told, whatever the two are.
func TestTwoFaults(t *testing.T) {
	faults := []string{"x", "join", "join 01", "hall 40", "\x00", "# \x7f", "# 2 3 4 5 6 7 8 9", "power 2 0 0 show", "power 0 0 0 1, show", "raw 0", strings.Repeat(" ", 401), "raw " + strings.Repeat("06", 41)}
	for _, a := range faults {
		for _, b := range faults {
			refusesScript(t, "two faults", scriptOf(40, "join 1", "#", a, b), 4)
			refusesScript(t, "two faults apart", scriptOf(40, "", a, "show", "#", b, "show"), 3)
		}
		refusesScript(t, "a fault ahead of a hall line that is none", "# a\n"+a+"\nhall 3\n", 2+hallRight(a))
		refusesScript(t, "a hall line that is none ahead of a fault", "# a\nhall 3\n"+a+"\n", 2)
	}
	refusesScript(t, "a hall line that comes behind a deed", "\n#\njoin 1\nhall 40\n", 3)
	refusesScript(t, "a remark that is refused behind a deed without a hall", "\n#\njoin 1\n#\x00\n", 3)
	refusesScript(t, "a remark that is refused ahead of a deed without a hall", "\n#\x00\njoin 1\n", 2)
}

// hallRight has 1 of a line that is right where the hall line is awaited, and is none as a deed.
func hallRight(line string) int {
	if line == "hall 40" {
		return 1
	}
	return 0
}

// formOf is a form that a whole line is held against; N stands for a number.
func formOf(form string) *regexp.Regexp {
	return regexp.MustCompile(`^` + strings.ReplaceAll(form, "N", `(?:0|[1-9][0-9]*)`) + `$`)
}

var (
	hallForm  = formOf(`hall (N)`)
	powerForm = formOf(`power (N) (N) (N)(?: (N(?:,N)*))? (.*)`)
	askForm   = formOf(`(join|link|leave|clear|audit|show)((?: N)*)`)
	rawForm   = formOf(`raw ((?:[0-9a-f]{2})+)`)
	byteForm  = formOf(`[ -~]{0,400}`)
)

// plainNumbers wants words that are numbers by their form.
func plainNumbers(words []string) ([]int, bool) {
	var out []int
	for _, word := range words {
		n, err := strconv.Atoi(word)
		if err != nil || n > 1000000000 {
			return nil, false
		}
		out = append(out, n)
	}
	return out, true
}

// plainText reads a command a second way.
func plainText(line string) (string, bool) {
	if raw := rawForm.FindStringSubmatch(line); raw != nil {
		bytes, err := hex.DecodeString(raw[1])
		return string(bytes), err == nil && len(bytes) <= 40
	}
	ask := askForm.FindStringSubmatch(line)
	if ask == nil {
		return "", false
	}
	op := slices.Index([]string{"", "join", "link", "leave", "clear", "audit", "show"}, ask[1])
	numbers, ok := plainNumbers(strings.Fields(ask[2]))
	if !ok || len(numbers) != toldOf()[op] {
		return "", false
	}
	return varsOf(append([]int{op}, numbers...)...), true
}

// plainDeed reads a line of single blanks a second way.
func plainDeed(line string) (impl.Deed, bool) {
	var d impl.Deed
	if power := powerForm.FindStringSubmatch(line); power != nil {
		numbers, ok := plainNumbers(power[1:4])
		keep, isKeep := plainNumbers(strings.FieldsFunc(power[4], func(r rune) bool { return r == ',' }))
		if !ok || !isKeep || numbers[0] > 1 || numbers[2] > 64 || len(keep) > 60 {
			return impl.Deed{}, false
		}
		d, line = impl.Deed{Cut: true, Step: numbers[0], Torn: numbers[1], Part: numbers[2], Keep: keep}, power[5]
	}
	text, ok := plainText(line)
	d.Text = text
	return d, ok
}

// plainScript reads a script a second way, by the forms of its lines.
func plainScript(text string) (int, []impl.Deed, int) {
	lines := strings.Split(text, "\n")
	if lines[len(lines)-1] == "" {
		lines = lines[:len(lines)-1]
	}
	if len(text) > 6000 || len(lines) > 60 {
		return 0, nil, -1
	}
	sectors, deeds := 0, []impl.Deed(nil)
	for i, line := range lines {
		words := strings.FieldsFunc(line, func(r rune) bool { return r == ' ' })
		if !byteForm.MatchString(line) || len(words) > 8 {
			return 0, nil, i + 1
		}
		plain := strings.Join(words, " ")
		if plain == "" || plain[0] == '#' {
			continue
		}
		if sectors == 0 {
			hall := hallForm.FindStringSubmatch(plain)
			if hall == nil {
				return 0, nil, i + 1
			}
			n, ok := plainNumbers(hall[1:])
			if !ok || n[0] < 4 || n[0] > 400 {
				return 0, nil, i + 1
			}
			sectors = n[0]
			continue
		}
		d, ok := plainDeed(plain)
		deeds = append(deeds, d)
		if !ok || len(deeds) > 40 {
			return 0, nil, i + 1
		}
	}
	if sectors == 0 {
		return 0, nil, 1
	}
	return sectors, deeds, 0
}

// readsByForms holds ReadScript against the second way, and answers the line of the fault.
func readsByForms(t *testing.T, text string) int {
	t.Helper()
	sectors, deeds, code := impl.ReadScript(text)
	wantSectors, wantDeeds, want := plainScript(text)
	if sectors != wantSectors || !sameDeeds(deeds, wantDeeds) || code != want {
		t.Fatalf("ReadScript(%q) = %d, %+v, %d, not %d, %+v, %d", text, sectors, deeds, code, wantSectors, wantDeeds, want)
	}
	return code
}

// consoleByForms holds Console, too, against what RunLife tells of the second way's deeds.
func consoleByForms(t *testing.T, text string) int {
	t.Helper()
	code := readsByForms(t, text)
	want := fmt.Sprintf("fault %d\n", code)
	if code == 0 {
		sectors, deeds, _ := plainScript(text)
		want = told(mustLive(t, sectors, deeds).Told...)
	}
	if got := impl.Console(text); got != want {
		t.Fatalf("Console(%q) = %q, not %q", text, got, want)
	}
	return code
}

// TestLinesOfFewWords has every line of up to four words out of some, and of up to three behind a `power`.
func TestLinesOfFewWords(t *testing.T) {
	words := []string{"join", "link", "clear", "raw", "power", "hall", "#", "0", "1", "65", "06", "1,2", "1,", "show"}
	right := 0
	var each func(line string, left int)
	each = func(line string, left int) {
		if readsByForms(t, scriptOf(40, line)) == 0 {
			right++
		}
		for _, word := range words {
			if left > 0 {
				each(strings.TrimPrefix(line+" "+word, " "), left-1)
			}
		}
	}
	each("", 4)
	each("power 1 0 64", 3)
	each("power 1 0 64 1,2", 3)
	if right < 50 {
		t.Errorf("so few of these lines are right: %d", right)
	}
}

// scripted has a deed as a line can tell it: with numbers from 0 on, something in its Text, and no power where it is not cut.
func scripted(x impl.Deed) impl.Deed {
	if x.Text == "" {
		x.Text = "\x00"
	}
	if !x.Cut {
		return impl.Deed{Text: x.Text}
	}
	isNumber := func(n int) bool { return n >= 0 && n <= impl.MaxNumber }
	if !isNumber(x.Torn) {
		x.Torn = impl.MaxNumber
	}
	x.Keep = slices.DeleteFunc(slices.Clone(x.Keep), func(n int) bool { return !isNumber(n) })
	return x
}

func joined(numbers []int, between string) string {
	var words []string
	for _, n := range numbers {
		words = append(words, strconv.Itoa(n))
	}
	return strings.Join(words, between)
}

// line writes a deed, as a command where its Text is an ask, or else, and now and then, by its bytes.
func (d *draws) line(x impl.Deed) string {
	power := ""
	if x.Cut {
		power = strings.TrimSuffix(fmt.Sprintf("power %d %d %d %s", x.Step, x.Torn, x.Part, joined(x.Keep, ",")), " ") + " "
	}
	ask, ok := plainAsk(x.Text)
	// With power ahead of it a link has more parts than a line may.
	if !ok || d.below(5) == 0 || x.Cut && ask.Op == impl.OpLink {
		return power + "raw " + hex.EncodeToString([]byte(x.Text))
	}
	numbers := []int{}
	for _, n := range placesOf(&ask)[:toldOf()[ask.Op]] {
		numbers = append(numbers, *n)
	}
	word := []string{"", "join", "link", "leave", "clear", "audit", "show"}[ask.Op]
	return strings.TrimSuffix(power+word+" "+joined(numbers, " "), " ")
}

// script draws a life, and a script of it.
func (d *draws) script() (int, []impl.Deed, []string) {
	sectors := d.among(4, 6, 12, 30, 60, 100, impl.MaxSectors)
	lines := []string{fmt.Sprintf("hall %d", sectors)}
	var deeds []impl.Deed
	for _, x := range d.deeds(d.among(0, 1, 10, 25, impl.MaxDeeds)) {
		deeds = append(deeds, scripted(x))
		lines = append(lines, d.line(scripted(x)))
	}
	return sectors, deeds, lines
}

// amongOthers draws so many lines that are passed over into a script, and blanks into its lines.
func (d *draws) amongOthers(lines []string, many int) []string {
	out := slices.Clone(lines)
	for i := range out {
		if d.below(3) == 0 {
			out[i] = strings.Repeat(" ", d.below(3)) + strings.ReplaceAll(out[i], " ", strings.Repeat(" ", 1+d.below(2))) + strings.Repeat(" ", d.below(3))
		}
	}
	others := linesPassedOver()
	for range many {
		out = slices.Insert(out, d.below(len(out)+1), shortened(others[d.below(len(others))]))
	}
	return out
}

// Promise 17, of drawn scripts: each tells what its deeds do, and lines that are passed over change nothing.
func TestDrawnScripts(t *testing.T) {
	draw, words := draws(18), map[string]int{}
	for range 400 {
		sectors, deeds, lines := draw.script()
		readsScript(t, "drawn", told(lines...), sectors, deeds)
		other := told(draw.amongOthers(lines, draw.below(impl.MaxLines-len(lines)+1))...)
		readsScript(t, "drawn, with lines that are passed over", other, sectors, deeds)
		readsScript(t, "drawn, without the last end", strings.TrimSuffix(other, "\n"), sectors, deeds)
		consoleByForms(t, other)
		for _, line := range lines {
			words[strings.Join(wordForm.FindAllString(line, -1), " ")]++
		}
	}
	for _, kind := range []string{"hall", "join", "link", "leave", "clear", "audit", "show", "raw", "power join", "power leave", "power clear", "power audit", "power show", "power raw"} {
		if words[kind] < 20 {
			t.Errorf("%q was seen %d times", kind, words[kind])
		}
	}
}

var wordForm = regexp.MustCompile(`hall|power|join|link|leave|clear|audit|show|raw`)

// turnedScript has a byte of a script changed, left out or put in, or two of its lines the other way round.
func (d *draws) turnedScript(lines []string) string {
	if d.below(4) == 0 {
		a, b := d.below(len(lines)), d.below(len(lines))
		lines[a], lines[b] = lines[b], lines[a]
		return told(lines...)
	}
	text := told(lines...)
	at := d.below(len(text))
	some := "0123456789 ,#\nadefhijklnoprstuvwx\x00\x1f\x7f\r\xc4\x8a"
	put := some[d.below(len(some)):][:1]
	switch d.below(3) {
	case 0:
		return text[:at] + put + text[at+1:]
	case 1:
		return text[:at] + text[at+1:]
	}
	return text[:at] + put + text[at:]
}

// TestTurnedScripts holds scripts with one thing turned against the second way: they are another script, or a fault.
func TestTurnedScripts(t *testing.T) {
	draw, seen := draws(19), map[string]int{}
	for range 300 {
		_, _, lines := draw.script()
		lines = draw.amongOthers(lines, draw.among(0, 5, impl.MaxLines-len(lines)))
		for range 12 {
			code := consoleByForms(t, draw.turnedScript(slices.Clone(lines)))
			seen[fmt.Sprint("right ", code == 0, ", too long ", code < 0)]++
		}
	}
	for _, kind := range []string{"right true, too long false", "right false, too long false", "right false, too long true"} {
		if seen[kind] < 5 {
			t.Errorf("so many turned scripts were seen: %v", seen)
		}
	}
}

func TestScriptsShareNothing(t *testing.T) {
	text := scriptOf(60, linesSaid(everyCommand())...)
	held := strings.Clone(text)
	_, deeds, _ := impl.ReadScript(text)
	for _, d := range deeds {
		sharesNoText(t, "a Text", d.Text, []string{text})
	}
	// What stands behind a list, too, is nobody else's.
	for i := range deeds {
		keep := deeds[i].Keep[:cap(deeds[i].Keep)]
		for at := range keep {
			keep[at] = -1 - i
		}
	}
	for i, d := range deeds {
		for _, n := range d.Keep {
			if n != -1-i {
				t.Errorf("the Keep of the deed %d is another's, too", i)
			}
		}
	}
	for i := range deeds[:cap(deeds)] {
		deeds[:cap(deeds)][i] = impl.Deed{Text: "turned"}
	}
	readsScript(t, "read again", text, 60, deedsSaid(everyCommand()))
	if text != held {
		t.Errorf("the script %q became %q", held, text)
	}
	for what, x := range map[string]string{"a fault": "fault 1\n", "a fault like its script": "fault -1\n", "a right one": text} {
		sharesNoText(t, what, impl.Console(x), []string{x})
	}
}

// Scripts are told from many sides at once: each is as if it were alone.
func TestConsolesAtOnce(t *testing.T) {
	text := scriptOf(60, linesSaid(everyCommand())...)
	want, wrong := impl.Console(text), impl.Console(text+"x")
	done := make(chan bool)
	for range 8 {
		go func() {
			isWell := true
			for range 10 {
				isWell = isWell && impl.Console(text) == want && impl.Console(text+"x") == wrong
			}
			done <- isWell
		}()
	}
	for range 8 {
		if !<-done {
			t.Error("a console beside others tells something else")
		}
	}
}
