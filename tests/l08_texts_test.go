package tests

import (
	"fmt"
	"slices"
	"strings"
	"testing"

	"loop.example/g01204/impl"
)

const textOfLog = "log 8 3f800000 80000000 c0000000\n" +
	"beacon 7f7fffff 00000001 ff7fffff\n" +
	"beacon 00000000 00000000 80000000\n" +
	"tick\n" +
	"move 3f800000 40000000 80000000\n" +
	"fix 0 -1 32767\n" +
	"fix -32768 10 -10\n" +
	"range 1 3f000000\n" +
	"range 0 80000000\n" +
	"tick\n"

// logWithText has the text above.
func logWithText() impl.Log {
	return impl.Log{
		Rate: 8, Start: impl.Vec{1, minusZero, -2}, Beacons: []impl.Vec{{greatest, tiniest, -greatest}, {0, 0, minusZero}},
		Entries: []impl.Entry{tickEntry(), moveEntry(1, 2, minusZero), fixEntry(0, -1, 32767), fixEntry(-32768, 10, -10), rangeEntry(1, 0.5), rangeEntry(0, minusZero), tickEntry()},
	}
}

// wantLogText holds both LogText and ReadLog against the text of a valid log.
func wantLogText(t *testing.T, l impl.Log, want string) {
	t.Helper()
	if got := impl.LogText(l); got != want {
		t.Errorf("LogText: got %.300q, want %.300q", got, want)
	}
	got, code := impl.ReadLog(want)
	wantLog(t, startOf("ReadLog ", want), got, code, l, impl.OK)
}

func wantNoLog(t *testing.T, what, text string) {
	t.Helper()
	l, code := impl.ReadLog(text)
	wantLog(t, fmt.Sprintf("ReadLog, %s: %.90q", what, text), l, code, impl.Log{}, impl.ErrSyntax)
}

func TestTextsOfLogs(t *testing.T) {
	wantLogText(t, logWithText(), textOfLog)
	wantLogText(t, impl.Log{Rate: 64}, "log 64 00000000 00000000 00000000\n")
	wantLogText(t, impl.Log{Rate: 1, Beacons: make([]impl.Vec, 1)}, "log 1 00000000 00000000 00000000\nbeacon 00000000 00000000 00000000\n")
	wantLogText(t, impl.Log{Rate: 10, Entries: []impl.Entry{tickEntry()}}, "log 10 00000000 00000000 00000000\ntick\n")
	long := plainLog(slices.Repeat([]impl.Entry{moveEntry(-1, -2, -3), fixEntry(-32768, -32768, -32768)}, 600)...)
	wantLogText(t, long, rawLogText(long))
	six := impl.Log{Rate: 8, Beacons: make([]impl.Vec, 6), Entries: []impl.Entry{rangeEntry(5, 1), rangeEntry(0, 2)}}
	wantLogText(t, six, rawLogText(six))
	for n := -32768; n < 32768; n += 7 {
		l := plainLog(fixEntry(int16(n), 0, int16(-n)))
		wantLogText(t, l, rawLogText(l))
	}
	d := &dice{seed: 440}
	for range 3000 {
		l := d.aLog(8)
		wantLogText(t, l, rawLogText(l))
	}
}

func TestTextsOfLogsThatAreNotValid(t *testing.T) {
	each(badLogs(), func(what string, l impl.Log) {
		if got := impl.LogText(l); got != "" {
			t.Errorf("LogText, %s: got %.90q", what, got)
		}
		if text := rawLogText(l); text != rawLogText(withoutUnused(l)) || !validLog(withoutUnused(l)) {
			wantNoLog(t, what, text)
		}
	})
	wantNoLog(t, "1201 entries", rawLogText(plainLog(slices.Repeat([]impl.Entry{tickEntry()}, 1201)...)))
	wantNoLog(t, "7 beacons", rawLogText(impl.Log{Rate: 8, Beacons: make([]impl.Vec, 7)}))
	wantBool(t, "LogText of many entries", impl.LogText(plainLog(make([]impl.Entry, 100000)...)) == "", true)
	wantBool(t, "LogText of many beacons", impl.LogText(impl.Log{Rate: 8, Beacons: make([]impl.Vec, 100000)}) == "", true)
}

// withoutUnused returns the log without what its entries do not use, which no text
// has.
func withoutUnused(l impl.Log) impl.Log {
	l = logLike(l)
	for i, e := range l.Entries {
		switch e.Kind {
		case impl.EnTick:
			l.Entries[i] = tickEntry()
		case impl.EnMove:
			l.Entries[i] = impl.Entry{Kind: e.Kind, V: e.V}
		case impl.EnFix:
			l.Entries[i] = impl.Entry{Kind: e.Kind, Counts: e.Counts}
		case impl.EnRange:
			l.Entries[i] = rangeEntry(e.Beacon, e.Distance)
		}
	}
	return l
}

func TestNoTextsOfLogs(t *testing.T) {
	const head, beacon = "log 8 3f800000 3f800000 3f800000\n", "beacon 3f800000 3f800000 3f800000\n"
	const move, fix, far = "move 3f800000 3f800000 3f800000\n", "fix 1 2 3\n", "range 0 3f800000\n"
	good := head + beacon + beacon + "tick\n" + move + fix + far
	l, code := impl.ReadLog(good)
	wantCode(t, "ReadLog of what is changed below", code, impl.OK)
	wantBool(t, "ReadLog of what is changed below", len(l.Beacons) == 2 && len(l.Entries) == 4, true)
	for _, text := range []string{
		"", "\n", "\n\n", " ", "log", "log\n", "log 8\n", "log 8 \n", " log 8 3f800000 3f800000 3f800000\n", "log 8 3f800000 3f800000 3f800000", "log 8 3f800000 3f800000\n", "log 8 3f800000 3f800000 3f800000 3f800000\n", "log 3f800000 3f800000 3f800000\n", "log 8 8 3f800000 3f800000 3f800000\n", "log  8 3f800000 3f800000 3f800000\n", "log 8  3f800000 3f800000 3f800000\n", "log 8 3f800000 3f800000 3f800000 \n", "Log 8 3f800000 3f800000 3f800000\n", "logs 8 3f800000 3f800000 3f800000\n", "log8 3f800000 3f800000 3f800000\n", "8 3f800000 3f800000 3f800000\n", "map 8 3f800000 3f800000 3f800000\n",
		"tick\n", beacon, "tick\n" + head, beacon + head, head + head, head + beacon + head, head + "tick\n" + head, "\n" + head, head + "\n", head + "\n" + beacon, head + beacon + "\n", head + beacon + "\n" + "tick\n", head + "tick\n\n", good + "\n", good + " ", good + "x", good + "x\n", good + "\x00", good[:len(good)-1], good[:len(good)-2] + "\n", good + "end\n",
		head + "tick\n" + beacon, head + beacon + "tick\n" + beacon, head + beacon + move + beacon + far, head + fix + beacon, head + beacon + far + beacon,
		head + "tick", head + "tick \n", head + " tick\n", head + "tick 1\n", head + "Tick\n", head + "ticks\n", head + "tick tick\n", head + "tick\r\n", head + "ticktick\n", head + "tick\x00\n", head + "hold\n", head + "end\n", head + "rate 8\n",
		head + "move\n", head + "move \n", head + "move 3f800000 3f800000\n", head + "move 3f800000 3f800000 3f800000 3f800000\n", head + "move 3f800000 3f800000 3f800000 \n", head + "move  3f800000 3f800000 3f800000\n", head + " " + move, head + "move3f800000 3f800000 3f800000\n", head + "moves 3f800000 3f800000 3f800000\n", head + "Move 3f800000 3f800000 3f800000\n", head + "3f800000 3f800000 3f800000\n", head + "move 1 2 3\n", head + "move 3f800000 3f800000 3f800000 8\n", head + "tick 3f800000 3f800000 3f800000\n", head + "fix 3f800000 3f800000 3f800000\n",
		head + "fix\n", head + "fix \n", head + "fix 1\n", head + "fix 1 2\n", head + "fix 1 2 3 4\n", head + "fix 1 2 3 \n", head + "fix  1 2 3\n", head + "fix 1  2 3\n", head + " fix 1 2 3\n", head + "fixes 1 2 3\n", head + "Fix 1 2 3\n", head + "1 2 3\n", head + "fix1 2 3\n", head + "fix 1,2,3\n", head + "move 1 2 3\n",
		head + beacon + "range\n", head + beacon + "range \n", head + beacon + "range 0\n", head + beacon + "range 0 \n", head + beacon + "range 3f800000\n", head + beacon + "range 0 3f800000 \n", head + beacon + "range 0 3f800000 3f800000\n", head + beacon + "range 0 0 3f800000\n", head + beacon + "range  0 3f800000\n", head + beacon + "range 0  3f800000\n", head + beacon + " range 0 3f800000\n", head + beacon + "Range 0 3f800000\n", head + beacon + "ranges 0 3f800000\n", head + beacon + "range 3f800000 0\n",
		head + far, head + beacon + "range 1 3f800000\n", head + beacon + far + "range 1 3f800000\n",
		head + "beacon\n", head + "beacon \n", head + "beacon 3f800000 3f800000\n", head + "beacon 3f800000 3f800000 3f800000 3f800000\n", head + "beacon 3f800000 3f800000 3f800000 \n", head + "beacon  3f800000 3f800000 3f800000\n", head + " " + beacon, head + "Beacon 3f800000 3f800000 3f800000\n", head + "beacons 3f800000 3f800000 3f800000\n", head + "beacon3f800000 3f800000 3f800000\n", head + "beacon 1 2 3\n",
		strings.ReplaceAll(good, " ", "  "), strings.ReplaceAll(good, " ", "\t"), strings.ReplaceAll(good, "\n", " "), strings.ReplaceAll(good, " ", "\n"), strings.ReplaceAll(good, "\n", "\r\n"), strings.ReplaceAll(good, "\n", "\n\n"), strings.ToUpper(good), exampleText,
	} {
		wantNoLog(t, "no text", text)
	}
}

// TestNoWordsOfLogs puts words that are none into each place of a line.
func TestNoWordsOfLogs(t *testing.T) {
	lines := strings.SplitAfter(textOfLog, "\n")
	number := []string{"7f800000", "ff800000", "7fc00000", "7fc00001", "ffc00000", "3F000000", "3f00000", "03f000000", "3f00000g", "+f000000", "0x3f0000", "3f00_000", "1", "0.5"}
	rate := []string{"0", "-1", "65", "-8", "4294967304", "18446744073709551624", "-9223372036854775808", "3f000000"}
	count := []string{"32768", "-32769", "65536", "65535", "-65536", "4294967297", "18446744073709551617", "1/2", "3f000000"}
	index := []string{"2", "-1", "4294967296", "9223372036854775807", "9223372036854775808", "-9223372036854775808", "18446744073709551616", "18446744073709551617"}
	kinds := map[int][][]string{
		0: {{"Log", "beacon", "tick"}, rate, number, number, number},
		1: {{"Beacon", "log", "move"}, number, number, number},
		3: {{"Tick", "tock", "fix", "move", "range", "log"}},
		4: {{"Move", "fix", "log", "tick"}, number, number, number},
		5: {{"Fix", "move", "beacon", "tick"}, count, count, count},
		7: {{"Range", "fix", "tick", "beacon"}, index, number},
	}
	for at, places := range kinds {
		for i, list := range places {
			for _, word := range append(slices.Clone(list), "", "-", "+", "+1", "+0", "01", "00", "02", "-0", "-01", "- 1", "1.0", "1e0", "0x1", "1_0", "1\x00", "\u0661", "x", "NaN", "1,", "1\t", "--1") {
				words := strings.Split(strings.TrimSuffix(lines[at], "\n"), " ")
				words[i] = word
				other := slices.Clone(lines)
				other[at] = strings.Join(words, " ") + "\n"
				wantNoLog(t, "word", strings.Join(other, ""))
			}
		}
	}
}

// TestTextsOfLogsWithOneOtherByte changes each byte of a text in turn, leaves it out,
// and writes it twice. What is read all the same must have this text.
func TestTextsOfLogsWithOneOtherByte(t *testing.T) {
	read := 0
	check := func(text string) {
		l, code := impl.ReadLog(text)
		if code == impl.OK && (rawLogText(l) != text || !validLog(l)) {
			t.Errorf("ReadLog %q: read though it is no text", text)
		}
		if code != impl.OK {
			wantLog(t, "ReadLog", l, code, impl.Log{}, impl.ErrSyntax)
			return
		}
		read++
	}
	for i := range len(textOfLog) {
		for b := range 256 {
			check(textOfLog[:i] + string([]byte{byte(b)}) + textOfLog[i+1:])
		}
		check(textOfLog[:i] + textOfLog[i+1:])
		check(textOfLog[:i+1] + textOfLog[i:])
		check(textOfLog[:i])
	}
	wantBool(t, "many of them are texts of other logs", read > 1000, true)
}

// TestTextsOfLogsThatAreLong has texts with many lines.
func TestTextsOfLogsThatAreLong(t *testing.T) {
	const head = "log 8 3f800000 3f800000 3f800000\n"
	for _, line := range []string{"x", " ", "\n", "tick\n", "tick", head, "beacon 3f800000 3f800000 3f800000\n", "fix 1 2 3\n", "move 3f800000 3f800000 3f800000\n", "range 0 3f800000\n", "- "} {
		wantNoLog(t, "a long text", strings.Repeat(line, 1000000/len(line)))
		wantNoLog(t, "a long text behind a head", head+strings.Repeat(line, 900000/len(line)))
	}
	most := head + strings.Repeat("tick\n", 1200)
	l, code := impl.ReadLog(most)
	wantLog(t, "ReadLog of 1200 entries", l, code, impl.Log{Rate: 8, Start: impl.Vec{1, 1, 1}, Entries: slices.Repeat([]impl.Entry{tickEntry()}, 1200)}, impl.OK)
	wantNoLog(t, "1201 entries", most+"tick\n")
	wantNoLog(t, "an empty line", most+"\n")
}

// TestTextsOfOtherLogs has logs that differ in one number or two.
func TestTextsOfOtherLogs(t *testing.T) {
	d := &dice{seed: 441}
	for range 1000 {
		l := logLike(d.aLog(4))
		l.Start[d.below(3)] *= 3
		l.Rate += int64(d.below(3))
		if len(l.Entries) > 0 {
			e := &l.Entries[d.below(len(l.Entries))]
			switch e.Kind {
			case impl.EnMove:
				e.V[d.below(3)] *= 2
			case impl.EnFix:
				e.Counts[d.below(3)]++
			case impl.EnRange:
				e.Beacon++
			}
		}
		got, code := impl.ReadLog(rawLogText(l))
		if validLog(l) {
			wantLog(t, "ReadLog", got, code, l, impl.OK)
		} else {
			wantLog(t, "ReadLog", got, code, impl.Log{}, impl.ErrSyntax)
		}
	}
}
