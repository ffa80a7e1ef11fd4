package tests

import (
	"fmt"
	"slices"
	"strings"
	"testing"

	"loop.example/g01204/impl"
)

// lineList joins lines.
func lineList(lines ...string) string { return strings.Join(lines, "\n") }

func TestLinesOfMissions(t *testing.T) {
	wantCompiled(t, "", impl.Mission{Rate: 8})
	wantCompiled(t, "rate 1", impl.Mission{Rate: 1})
	wantCompiled(t, "rate 64\n", impl.Mission{Rate: 64})
	wantCompiled(t, "rate 5\nrate 7", impl.Mission{Rate: 7})
	wantCompiled(t, "start 1 -2 3/4", impl.Mission{Rate: 8, Start: impl.Vec{1, -2, 0.75}})
	wantCompiled(t, "start 1 2 3\nstart -0 0/2 -0/2", impl.Mission{Rate: 8})
	wantCompiled(t, "beacon 1 2 3\nbeacon -1/2 0 999999", impl.Mission{Rate: 8, Beacons: []impl.Vec{{1, 2, 3}, {-0.5, 0, 999999}}})
	wantCompiled(t, "fix 3", impl.Mission{Rate: 8})
	wantCompiled(t, "move 1 -1/4 0 400", impl.Mission{Rate: 8, Legs: []impl.Leg{legOf(impl.Vec{1, -0.25, 0}, 400)}})
	wantCompiled(t, "hold 1", impl.Mission{Rate: 8, Legs: []impl.Leg{legOf(impl.Vec{}, 1)}})
	wantCompiled(t, "hold 400", impl.Mission{Rate: 8, Legs: []impl.Leg{legOf(impl.Vec{}, 400)}})
	wantCompiled(t, lineList("hold 1", "fix 400", "hold 2", "move 1 2 3 4", "fix 0", "hold 5"), impl.Mission{Rate: 8, Legs: []impl.Leg{
		legOf(impl.Vec{}, 1), fixLeg(impl.Vec{}, 2, 400), fixLeg(impl.Vec{1, 2, 3}, 4, 400), legOf(impl.Vec{}, 5)}})
	aimed := func(i int64) impl.Leg { return impl.Leg{Ticks: 1, Beacon: i} }
	wantCompiled(t, lineList("beacon 1 2 3", "hold 1", "range 0", "hold 1", "beacon 4 5 6", "range 1", "hold 1", "hold 1", "range 0"), impl.Mission{
		Rate: 8, Beacons: []impl.Vec{{1, 2, 3}, {4, 5, 6}}, Legs: []impl.Leg{aimed(0), aimed(1), aimed(-1), aimed(0)}})
}

func TestRepeats(t *testing.T) {
	one, two, three := legOf(impl.Vec{}, 1), legOf(impl.Vec{}, 2), legOf(impl.Vec{}, 3)
	legs := func(text string, list ...impl.Leg) {
		t.Helper()
		wantCompiled(t, text, impl.Mission{Rate: 8, Legs: list})
	}
	legs("repeat 1\nend")
	legs("repeat 16\nend\n")
	legs(lineList("repeat 1", "hold 1", "end"), one)
	legs(lineList("repeat 3", "hold 1", "end", "hold 2"), one, one, one, two)
	legs(lineList("hold 2", "repeat 2", "hold 1", "hold 2", "end"), two, one, two, one, two)
	legs(lineList("repeat 2", "hold 1", "repeat 2", "hold 2", "end", "hold 3", "end"), one, two, two, three, one, two, two, three)
	legs(lineList("repeat 2", "repeat 2", "repeat 2", "hold 1", "end", "end", "end"), slices.Repeat([]impl.Leg{one}, 8)...)
	legs(lineList("repeat 2", "repeat 1", "repeat 3", "end", "end", "hold 1", "end"), one, one)
	legs(lineList("repeat 2", "hold 1", "end", "repeat 3", "hold 2", "end"), one, one, two, two, two)
	legs(lineList("repeat 2", "repeat 2", "hold 1", "end", "repeat 2", "hold 2", "end", "end"), one, one, two, two, one, one, two, two)
	legs(lineList("repeat 16", "repeat 4", "hold 1", "end", "end"), slices.Repeat([]impl.Leg{one}, 64)...)
	legs(lineList("repeat 2", "hold 1", "fix 2", "end"), one, fixLeg(impl.Vec{}, 1, 2)) // the fix stays
	wantCompiled(t, lineList("repeat 3", "beacon 1 2 3", "end"), impl.Mission{Rate: 8, Beacons: []impl.Vec{{1, 2, 3}, {1, 2, 3}, {1, 2, 3}}})
	wantCompiled(t, lineList("repeat 3", "rate 5", "start 1 2 3", "end"), impl.Mission{Rate: 5, Start: impl.Vec{1, 2, 3}})
	wantCompiled(t, lineList("beacon 0 0 0", "repeat 2", "hold 1", "range 0", "end"), impl.Mission{Rate: 8, Beacons: []impl.Vec{{}}, Legs: []impl.Leg{{Ticks: 1}, {Ticks: 1}}})
}

func TestMistakesInLines(t *testing.T) {
	for _, x := range []struct {
		text       string
		line, code int64
	}{
		{"rate 0", 0, impl.ErrRange}, {"rate 65", 0, impl.ErrRange}, {"rate 999999", 0, impl.ErrRange}, {"hold 1\nrate 8", 1, impl.ErrState}, {"hold 1\nrate 65", 1, impl.ErrRange}, {"hold 1\nrate 0", 1, impl.ErrRange},
		{"hold 1\nrate", 1, impl.ErrSyntax}, {"hold 1\nrate 065", 1, impl.ErrSyntax}, {"hold 1\nrate 1000000", 1, impl.ErrSyntax}, {"move 1 0 0 1\nrate 8\n", 1, impl.ErrState},
		{"hold 1\nstart 0 0 0", 1, impl.ErrState}, {"hold 1\nstart 0 0", 1, impl.ErrSyntax}, {"hold 1\nstart 0 0 1/3", 1, impl.ErrSyntax}, {"start 1 2 3 4", 0, impl.ErrSyntax},
		{strings.Repeat("beacon 1 2 3\n", 7), 6, impl.ErrLimit}, {strings.Repeat("beacon 1 2 3\n", 6) + "beacon 1 2", 6, impl.ErrSyntax}, {strings.Repeat("beacon 1 2 3\n", 6) + "beacon 1 2 1000000", 6, impl.ErrSyntax},
		{"fix 401", 0, impl.ErrRange}, {"fix 999999", 0, impl.ErrRange}, {"fix -1", 0, impl.ErrSyntax},
		{"move 1 2 3 0", 0, impl.ErrRange}, {"move 1 2 3 401", 0, impl.ErrRange}, {"hold 0", 0, impl.ErrRange}, {"hold 401", 0, impl.ErrRange}, {"hold 999999", 0, impl.ErrRange},
		{"hold 400\nhold 1", 1, impl.ErrLimit}, {"hold 1\nhold 400", 1, impl.ErrLimit}, {"hold 200\nmove 1 2 3 201", 1, impl.ErrLimit}, {"hold 400\nmove 1 2 3 401", 1, impl.ErrRange}, {"hold 400\nhold 0", 1, impl.ErrRange}, {"hold 400\nhold x", 1, impl.ErrSyntax}, {"hold 400\nmove 1 2 1/3 0", 1, impl.ErrSyntax},
		{strings.Repeat("hold 1\n", 65), 64, impl.ErrLimit}, {strings.Repeat("hold 1\n", 64) + "hold 0", 64, impl.ErrRange}, {strings.Repeat("hold 1\n", 64) + "move 0 0 0 401", 64, impl.ErrRange}, {strings.Repeat("hold 1\n", 64) + "move 0 0 0", 64, impl.ErrSyntax},
		{"range 0", 0, impl.ErrRange}, {"hold 1\nrange 0", 1, impl.ErrRange}, {"beacon 0 0 0\nrange 0", 1, impl.ErrState}, {"beacon 0 0 0\nrange 1", 1, impl.ErrRange}, {"beacon 0 0 0\nhold 1\nrange 1", 2, impl.ErrRange}, {"beacon 0 0 0\nhold 1\nrange 0\nrange 0", 3, impl.ErrState}, {"beacon 0 0 0\nhold 1\nrange 0\nrange 1", 3, impl.ErrRange}, {"beacon 0 0 0\nbeacon 0 0 0\nhold 1\nrange 1\nrange 0", 4, impl.ErrState}, {"beacon 0 0 0\nhold 1\nrange 0\nrange 00", 3, impl.ErrSyntax}, {"range -1", 0, impl.ErrSyntax}, {"hold 1\nrange 999999", 1, impl.ErrRange},
		{"repeat 0", 0, impl.ErrRange}, {"repeat 17", 0, impl.ErrRange}, {"repeat 1\nrepeat 1\nrepeat 1\nrepeat 1", 3, impl.ErrLimit}, {"repeat 1\nrepeat 1\nrepeat 1\nrepeat 0", 3, impl.ErrRange}, {"repeat 1\nrepeat 1\nrepeat 1\nrepeat 17", 3, impl.ErrRange}, {"repeat 1\nrepeat 1\nrepeat 1\nrepeat", 3, impl.ErrSyntax}, {"repeat 1\nrepeat 1\nrepeat 1\nrepeat 2\nend\nend\nend\nend", 3, impl.ErrLimit},
		{"end", 0, impl.ErrState}, {"end\n", 0, impl.ErrState}, {"end 1", 0, impl.ErrSyntax}, {"end ", 0, impl.ErrSyntax}, {"repeat 2\nend\nend", 2, impl.ErrState}, {"repeat 2\nend\nend 2", 2, impl.ErrSyntax}, {"repeat 1\nend 1", 1, impl.ErrSyntax}, {"repeat 1\nhold 1\nend\nend\n", 3, impl.ErrState},
		{"repeat 1", 1, impl.ErrState}, {"repeat 1\n", 1, impl.ErrState}, {"repeat 2\nhold 1\n", 2, impl.ErrState}, {"repeat 1\nrepeat 1\nend", 3, impl.ErrState}, {"hold 1\nrepeat 16\nrepeat 16\nhold 1\nhold 1", 5, impl.ErrState},
		{"\n", 0, impl.ErrSyntax}, {"\n\n", 0, impl.ErrSyntax}, {"hold 1\n\n", 1, impl.ErrSyntax}, {"hold 1\n\nhold 1", 1, impl.ErrSyntax}, {"repeat 1\nend\n\n", 2, impl.ErrSyntax}, {" ", 0, impl.ErrSyntax}, {"\x00", 0, impl.ErrSyntax},
	} {
		wantMistake(t, x.text, x.line, x.code)
	}
}

// TestMistakesBehindRepeats has lines that have an error only when they are compiled
// again, and lines behind them that have one at once.
func TestMistakesBehindRepeats(t *testing.T) {
	wantMistake(t, lineList("repeat 2", "rate 5", "hold 1", "end", "what"), 1, impl.ErrState)
	wantMistake(t, lineList("repeat 2", "start 0 0 0", "hold 1", "end", "what"), 1, impl.ErrState)
	wantMistake(t, lineList("repeat 2", "hold 201", "end", "what"), 1, impl.ErrLimit)
	wantMistake(t, lineList("repeat 5", "repeat 16", "hold 1", "end", "end", "rate 0"), 2, impl.ErrLimit)
	wantMistake(t, lineList("repeat 7", "beacon 0 0 0", "end", "what"), 1, impl.ErrLimit)
	wantMistake(t, lineList("beacon 0 0 0", "hold 1", "repeat 2", "range 0", "end", "what"), 3, impl.ErrState)
	wantMistake(t, lineList("repeat 2", "hold 201", "what", "end"), 2, impl.ErrSyntax) // what comes first is met first
	wantMistake(t, lineList("repeat 2", "hold 1", "end", "what"), 3, impl.ErrSyntax)
	wantMistake(t, lineList("repeat 2", "hold 201"), 2, impl.ErrState) // without an end nothing is compiled again
	wantMistake(t, lineList("repeat 2", "repeat 2", "hold 101", "end", "hold 1", "end"), 2, impl.ErrLimit)
	wantCompiled(t, lineList("repeat 2", "repeat 2", "hold 100", "end", "end"), impl.Mission{Rate: 8, Legs: slices.Repeat([]impl.Leg{legOf(impl.Vec{}, 100)}, 4)})
	wantMistake(t, lineList("repeat 1", "repeat 1", "repeat 1", "end", "repeat 1", "repeat 1", "end", "end", "end", "end"), 5, impl.ErrLimit)
	wantCompiled(t, lineList("repeat 1", "repeat 1", "repeat 1", "end", "repeat 1", "end", "end", "end", "repeat 1", "repeat 1", "repeat 1", "end", "end", "end"), impl.Mission{Rate: 8})
}

// TestLinesThatAreNone has good lines, in which one word is another one.
func TestLinesThatAreNone(t *testing.T) {
	good := []string{"rate 8", "start 1 2 3", "beacon 1 2 3", "fix 1", "move 1 2 3 4", "hold 1", "range 0", "repeat 1"}
	wholes := []string{"", "-", "-1", "-0", "+1", "00", "01", "1000000", "0000001", "1.0", "1/2", "1e0", "0x1", "1_0", "x", "\u0661", "1\t", "\t1", "1\r", "18446744073709551617", "4294967297"}
	fractions := []string{"", "-", "+1", "00", "01", "-01", "1000000", "0000001", "1.0", "1/3", "1/1", "1/2048", "1/02", "1/", "/2", "1e0", "0x1", "1_0", "x", "\u0661", "1\t", "\t1", "1\r"}
	const before = "beacon 0 0 0\n"
	for _, line := range good {
		words := strings.Split(line, " ")
		for i := range words {
			list := wholes
			switch {
			case i == 0:
				list = []string{"", "Rate", "RATE", "rates", "starts", "mov", "moved", "ends", "END", "log", "tick", "-", "0", words[0] + "\t", "\t" + words[0], strings.ToUpper(words[0]), words[0][1:], words[0] + words[0]}
			case len(words) > 3 && i < 4:
				list = fractions
			}
			for _, word := range list {
				other := slices.Clone(words)
				other[i] = word
				wantMistake(t, before+strings.Join(other, " "), 1, impl.ErrSyntax)
			}
			wantMistake(t, before+strings.Join(slices.Delete(slices.Clone(words), i, i+1), " "), 1, impl.ErrSyntax)
			wantMistake(t, before+strings.Join(slices.Insert(slices.Clone(words), i, ""), " "), 1, impl.ErrSyntax)
			wantMistake(t, before+strings.Join(slices.Insert(slices.Clone(words), i, "1"), " "), 1, impl.ErrSyntax)
		}
		for _, text := range []string{line + " ", line + " 1", line + "\t", line + "\r", line + "\x00", line + " end", strings.ReplaceAll(line, " ", "\t"), strings.ReplaceAll(line, " ", ""), strings.ReplaceAll(line, " ", ","), line + line, line + " " + line, line + "#"} {
			wantMistake(t, before+text, 1, impl.ErrSyntax)
			wantMistake(t, before+text+"\n", 1, impl.ErrSyntax)
		}
		_, _, code := impl.CompileMission(before + "hold 1\n" + line)
		wantBool(t, "a good line: "+line, code != impl.ErrSyntax, true)
	}
}

func TestMissionsThatAreTooLong(t *testing.T) {
	most := strings.Repeat("start 100000/4 200000/8 3\n", 153)
	longest := most + "start 100000/4 2000 3\n"
	wantBool(t, "a text of 4000 bytes", len(longest) == 4000, true)
	wantCompiled(t, longest, impl.Mission{Rate: 8, Start: impl.Vec{25000, 2000, 3}})
	wantMistake(t, most+"start 100000/4 20000 3\n", 0, impl.ErrRange)
	wantMistake(t, longest+"\n", 0, impl.ErrRange)
	wantMistake(t, longest[:3999]+"x", 153, impl.ErrSyntax)
	wantMistake(t, longest[:3999]+"xx", 0, impl.ErrRange)
	wantMistake(t, "x"+longest, 0, impl.ErrRange)
	wantMistake(t, "x"+longest[1:], 0, impl.ErrSyntax)
	fixes := strings.Repeat("fix 1\n", 200)
	wantCompiled(t, fixes, impl.Mission{Rate: 8})
	wantCompiled(t, strings.TrimSuffix(fixes, "\n"), impl.Mission{Rate: 8})
	for _, text := range []string{fixes + "x", fixes + "\n", fixes + "fix 1", strings.Repeat("\n", 201), strings.Repeat("\n", 4000)} {
		wantMistake(t, text, 0, impl.ErrRange)
	}
	wantMistake(t, strings.Repeat("\n", 200), 0, impl.ErrSyntax)
	wantMistake(t, fixes[6:]+"x", 199, impl.ErrSyntax)
	wantMistake(t, fixes[6:]+"end\n", 199, impl.ErrState)
	wantMistake(t, "repeat 1\n"+fixes[6:], 200, impl.ErrState)
	for _, text := range []string{"x", "\n", "hold 1\n", "repeat 16\n", "end\n"} {
		wantMistake(t, strings.Repeat(text, 1000000/len(text)), 0, impl.ErrRange)
	}
}

// TestManyRepeats compiles as many lines as there may be.
func TestManyRepeats(t *testing.T) {
	begin, end := strings.Repeat("repeat 16\n", 3), strings.Repeat("end\n", 3)
	wantCompiled(t, "start 1 2 3\n"+begin+strings.Repeat("fix 1\n", 190)+end+"fix 7\nhold 1", impl.Mission{Rate: 8, Start: impl.Vec{1, 2, 3}, Legs: []impl.Leg{fixLeg(impl.Vec{}, 1, 7)}})
	wantMistake(t, begin+strings.Repeat("fix 1\n", 190)+end+"end", 196, impl.ErrState)
}

// unrolled returns the lines of a script, those in repeats written as often as they
// are compiled.
func unrolled(lines []string) []string {
	for first := len(lines) - 1; first >= 0; first-- { // the last repeat has no other one in it
		var times int
		if _, err := fmt.Sscanf(lines[first], "repeat %d", &times); err != nil {
			continue
		}
		last := first + slices.Index(lines[first:], "end")
		block := slices.Repeat(lines[first+1:last], times)
		lines = slices.Concat(lines[:first], block, lines[last+1:])
	}
	return lines
}

// aPlainScript returns lines without errors, but for limits, with repeats that end.
func (d *dice) aPlainScript(most, deep int) []string {
	var lines []string
	for range 1 + d.below(most) {
		switch d.below(6) {
		case 0:
			lines = append(lines, "hold 1")
		case 1:
			lines = append(lines, fmt.Sprint("fix ", d.below(5)))
		case 2, 3:
			lines = append(lines, "move "+d.aFraction()+" "+d.aFraction()+" "+d.aFraction()+fmt.Sprint(" ", 1+d.below(30)))
		case 4:
			lines = append(lines, "hold 2", fmt.Sprint("range ", d.below(2)))
		case 5:
			if deep > 0 {
				lines = append(lines, fmt.Sprint("repeat ", 1+d.below(4)))
				lines = append(append(lines, d.aPlainScript(1+most/2, deep-1)...), "end")
			}
		}
	}
	return lines
}

// TestRepeatsAreTheirLinesWrittenSeveralTimes is what is promised of repeats.
func TestRepeatsAreTheirLinesWrittenSeveralTimes(t *testing.T) {
	d := &dice{seed: 410}
	compared, limited := 0, 0
	for range 6000 {
		head := []string{"rate 4", "start 1/2 -3 7/8", "beacon 3 4 0", "beacon -5 1/2 6"}
		lines := append(head, d.aPlainScript(9, 3)...)
		plain := lineList(unrolled(lines)...)
		if strings.Count(plain, "\n") > 199 || len(plain) > 4000 {
			continue
		}
		m, _, code := impl.CompileMission(lineList(lines...))
		want, _, wanted := impl.CompileMission(plain)
		if code != wanted || !sameMission(m, want) {
			t.Fatalf("CompileMission %q: got %d and %v, but %d and %v without repeats", lines, code, m, wanted, want)
		}
		wantBool(t, "ValidMission of what is compiled", impl.ValidMission(m), code == impl.OK)
		compared++
		if code != impl.OK {
			wantCode(t, "CompileMission", code, impl.ErrLimit)
			limited++
		}
	}
	if compared < 3000 || limited < 300 || limited > compared/2 {
		t.Errorf("%d texts, %d of them with too many legs or ticks", compared, limited)
	}
}

func TestMissionsAgain(t *testing.T) {
	d := &dice{seed: 411}
	codes := map[int64]int{}
	for range 60000 {
		text := d.aMissionText()
		want, line, wanted := compiled(text)
		got, gotLine, code := impl.CompileMission(text)
		wantMission(t, fmt.Sprintf("CompileMission %q", text), got, gotLine, code, want, line, wanted)
		if t.Failed() {
			return
		}
		if code == impl.OK {
			wantBool(t, "ValidMission of what is compiled", impl.ValidMission(got), true)
		}
		codes[code]++
	}
	for _, code := range []int64{impl.OK, impl.ErrRange, impl.ErrLimit, impl.ErrState, impl.ErrSyntax} {
		if codes[code] < 100 {
			t.Errorf("only %d texts with the code %d", codes[code], code)
		}
	}
}

// TestMissionsWithOneOtherByte changes each byte of a text in turn, leaves it out,
// and writes it twice.
func TestMissionsWithOneOtherByte(t *testing.T) {
	text := "rate 16\nstart 1 -2 3/8\nbeacon 3 4 0\nfix 4\nrepeat 2\nmove 1/2 0 -7 8\nrange 0\nrepeat 3\nhold 2\nend\nend\n"
	check := func(text string) {
		want, line, wanted := compiled(text)
		got, gotLine, code := impl.CompileMission(text)
		wantMission(t, fmt.Sprintf("CompileMission %q", text), got, gotLine, code, want, line, wanted)
	}
	for i := range len(text) {
		for b := range 256 {
			check(text[:i] + string([]byte{byte(b)}) + text[i+1:])
		}
		check(text[:i] + text[i+1:])
		check(text[:i+1] + text[i:])
		check(text[:i])
	}
}
