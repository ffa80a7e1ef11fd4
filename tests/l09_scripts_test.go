package tests

import (
	"fmt"
	"strings"
	"testing"

	"loop.example/g01204/impl"
)

func TestScripts(t *testing.T) {
	f := twoFleet()
	for _, x := range []struct{ text, want string }{
		{"", ""}, {"\n", "what\n"}, {"\n\n", "what\nwhat\n"}, {"agreed", "yes\n"}, {"agreed\n", "yes\n"}, {"agreed\n\n", "yes\nwhat\n"}, {"\nagreed", "what\nyes\n"},
		{"marks 0\nmarks 1\nmarks 2\nmarks 3\nmarks 4\nmarks 999", "0 0\n0 0\nwhat\nwhat\nwhat\nwhat\n"},
		{"see 0\nmarks 0\nmarks 1\nagreed\nsee 0\nmarks 0\nsee 1\nsee 2", "ok\n1 1\n0 0\nno\nerror state\n1 1\nok\nerror range\n"},
		{"see 0\nsend 0 1\ndeliver 0\nmarks 1\nagreed\nsee 1\nmarks 1\nagreed\ncrash 1\nmarks 1\nsave 1\nsee 1\nsave 1\ncrash 1\nmarks 1", "ok\nok\nok\n1 0\nyes\nok\n2 1\nno\nok\n0 0\nok\nok\nok\nok\n1 1\n"},
		{"send 0 0\nsend 0 1\ncopy 0\ndrop 1\ndrop 0\ndrop 0\ndeliver 0\ncopy 0", "error range\nok\nok\nerror range\nok\nerror range\nerror range\nerror range\n"},
		{strings.Repeat("send 1 0\n", 11) + "send 1 1\ndrop 9\nsend 0 1\nsend 0 1", strings.Repeat("ok\n", 10) + "error limit\nerror range\nok\nok\nerror limit\n"},
	} {
		wantScript(t, f, x.text, x.want, impl.OK)
	}
	wantScript(t, rowFleet(4, 2), "see 3\nsee 3\nmarks 3\nmarks 4\nsend 3 1\ndeliver 0\nmarks 1\nagreed", "ok\nok\n2 2\nwhat\nok\nok\n2 0\nno\n", impl.OK)
	wantScript(t, rowFleet(1, 1), "agreed\nsee 0\nagreed\nmarks 1", "yes\nok\nyes\nwhat\n", impl.OK)
	twice := plainFleet([]impl.Sight{sightAt(0, 0, 0), sightAt(0.25, 0, 0), sightAt(9, 0, 0)})
	wantScript(t, twice, "see 0\nmarks 0\nsee 0\nmarks 0\nsee 0\nmarks 0", "ok\n1 1\nok\n1 2\nok\n2 3\n", impl.OK)
}

// TestLinesThatAreNoQuestions has lines to which the answer is "what".
func TestLinesThatAreNoQuestions(t *testing.T) {
	f := rowFleet(4, 1)
	for _, line := range []string{
		"", " ", "what", "ok", "yes", "Agreed", "AGREED", "agree", "agreed ", " agreed", "agreed 0", "agreed\x00", "agreed\r", "agreedagreed", "agreed agreed",
		"marks", "marks ", "marks  0", " marks 0", "marks 0 ", "marks 0 0", "marks 00", "marks 01", "marks -0", "marks +0", "marks -1", "marks 4", "marks 10", "marks 4294967296", "marks 18446744073709551616", "marks 1e0", "marks 0x1", "marks x", "marks\t0", "marks0", "marks,0", "mark 0", "Marks 0", "marks marks 0", "marks 0\r", "marks \u0660", "markss 0", "0", "1", "marks agreed", "agreed marks 0",
		"see", "see ", "see 00", "see 1000", "see -1", "see 0 0", " see 0", "see 0 ", "See 0", "see  0", "see 0\r", "see\t0", "send 0", "send 0 1 2", "send 0 01", "send 1000 0", "save 0 0", "save", "crash x", "drop -0", "copy +0", "deliver", "deliver 0 1", "take 0", "see 0;see 1", "see 0 see 1",
	} {
		wantScript(t, f, line+"\n", "what\n", impl.OK)
		wantScript(t, f, "see 2\n"+line+"\nmarks 2\n", "ok\nwhat\n1 1\n", impl.OK)
	}
}

func TestScriptsThatAreTooLong(t *testing.T) {
	f := twoFleet()
	most := strings.Repeat("x", 9999)
	wantScript(t, f, most+"x", "what\n", impl.OK)
	wantScript(t, f, most+"\n", "what\n", impl.OK)
	for _, text := range []string{most + "xx", most + "x\n", most + "\n\n", strings.Repeat("\n", 10001), strings.Repeat("see 0\n", 100000), strings.Repeat("agreed", 100000), strings.Repeat("\n", 1000000)} {
		wantScript(t, f, text, "", impl.ErrRange)
	}
	saves, oks := strings.Repeat("save 0\n", 120), strings.Repeat("ok\n", 120)
	wantScript(t, f, saves, oks, impl.OK)
	wantScript(t, f, strings.TrimSuffix(saves, "\n"), oks, impl.OK)
	wantScript(t, f, strings.Repeat("\n", 120), strings.Repeat("what\n", 120), impl.OK)
	for _, text := range []string{saves + "x", saves + "\n", saves + "save 0", saves + saves, strings.Repeat("\n", 121), strings.Repeat("\n", 10000)} {
		wantScript(t, f, text, "", impl.ErrRange)
	}
	row := strings.Repeat(strings.Repeat("y", 82)+"\n", 120)
	wantScript(t, f, row+strings.Repeat("y", 10000-len(row)), "", impl.ErrRange) // 121 lines
	wantScript(t, f, strings.Repeat("y", 10000-len(row))+row, strings.Repeat("what\n", 120), impl.OK)
}

func TestScriptsAgain(t *testing.T) {
	d := &dice{seed: 530}
	answers := map[string]int{}
	for range 4000 {
		f := d.aFleet(6)
		if d.below(9) == 0 {
			f = crowdedFleet()
		}
		text := d.aFleetScript(f, []int{3, 30, 60, 125}[d.below(4)])
		want, wanted := scriptAgain(f, text)
		wantScript(t, f, text, want, wanted)
		if t.Failed() {
			return
		}
		for line := range strings.Lines(want) {
			answers[line]++
		}
		answers[fmt.Sprint(wanted)]++
	}
	for _, line := range []string{"ok\n", "error range\n", "error state\n", "error limit\n", "yes\n", "no\n", "what\n", "0 0\n", "1 1\n", "3 4\n", "0", "2"} {
		if answers[line] < 20 {
			t.Errorf("only %d answers %q", answers[line], line)
		}
	}
}

// TestScriptsAreDeeds holds the answers of a script against what deeds do.
func TestScriptsAreDeeds(t *testing.T) {
	d := &dice{seed: 531}
	for range 500 {
		f := d.aFleet(6)
		deeds := d.someDeeds(f, 100)
		y, done, code := impl.YardAfter(f, deeds)
		wantCode(t, "YardAfter", code, impl.OK)
		text, end := strings.Join(textsOf(deeds), "\n"), ""
		for v, mind := range y.Minds {
			text += fmt.Sprint("\nmarks ", v)
			end += fmt.Sprint(len(mind.Map.Marks), " ", mind.Taken, "\n")
		}
		out, code := impl.RunScript(f, strings.TrimPrefix(text, "\n"))
		wantIndex(t, "deeds that are done", int64(strings.Count(out, "ok\n")), code, done, impl.OK)
		wantBool(t, "marks and sights", strings.HasSuffix(out, end), true)
	}
}

func TestScriptsWithOneOtherByte(t *testing.T) {
	f := rowFleet(3, 2)
	const text = "see 0\nsend 0 1\ncopy 0\ndeliver 0\nmarks 1\nagreed\nsave 1\ncrash 0\nmarks 0\n"
	check := func(text string) {
		want, wanted := scriptAgain(f, text)
		wantScript(t, f, text, want, wanted)
	}
	for i := range len(text) {
		for b := range 256 {
			check(text[:i] + string([]byte{byte(b)}) + text[i+1:])
		}
		check(text[:i] + text[i+1:])
		check(text[:i+1] + text[i:])
		check(text[:i])
	}
}
