package tests

import (
	"fmt"
	"slices"
	"strings"
	"testing"

	"loop.example/g01204/impl"
)

func TestDeedsThatAreValid(t *testing.T) {
	each(badDeeds(), func(what string, d impl.Deed) {
		wantBool(t, "ValidDeed, "+what, impl.ValidDeed(d), false)
		if text := impl.DeedText(d); text != "" {
			t.Errorf("DeedText, %s: got %q", what, text)
		}
	})
	for kind := int64(-1); kind < 10; kind++ {
		for _, a := range []int64{-2, -1, 0, 1, 2, 998, 999, 1000, 1001} {
			for _, b := range []int64{-1, 0, 1, 999, 1000} {
				d := impl.Deed{Kind: kind, A: a, B: b}
				wantBool(t, fmt.Sprint("ValidDeed ", d), impl.ValidDeed(d), validDeed(d))
			}
		}
	}
}

func TestTextsOfDeeds(t *testing.T) {
	for kind := range int64(7) {
		for a := range int64(1000) {
			list := []impl.Deed{{Kind: kind + 1, A: a}}
			if kind+1 == impl.DdSend {
				list = append(list, impl.Deed{Kind: impl.DdSend, A: a, B: 999 - a}, impl.Deed{Kind: impl.DdSend, A: 10, B: a}, impl.Deed{Kind: impl.DdSend, A: a, B: a})
			}
			for _, d := range list {
				want := textOfDeed(d)
				if got := impl.DeedText(d); got != want {
					t.Errorf("DeedText %v: got %q, want %q", d, got, want)
				}
				got, code := impl.ReadDeed(want)
				wantDeed(t, want, got, code, d, impl.OK)
			}
		}
	}
}

func wantDeed(t *testing.T, text string, got impl.Deed, code int64, want impl.Deed, wanted int64) {
	t.Helper()
	if got != want {
		t.Errorf("ReadDeed %.90q: got %v, want %v", text, got, want)
	}
	wantCode(t, fmt.Sprintf("ReadDeed %.90q", text), code, wanted)
}

func wantNoDeed(t *testing.T, text string) {
	t.Helper()
	d, code := impl.ReadDeed(text)
	wantDeed(t, text, d, code, impl.Deed{}, impl.ErrSyntax)
}

func TestNoTextsOfDeeds(t *testing.T) {
	for _, text := range []string{
		"", " ", "\n", "0", "1", "1 0", "what", "agreed", "marks 0", " 0", "  0", "0 0", "see", "see ", "see  0", " see 0", "see 0 ", "see 0\n", "see 0\x00", "see\t0", "see0", "See 0", "SEE 0", "sees 0", "se 0", "see 0 0", "see 0 1", "see 0 see 0", "see,0",
		"send", "send ", "send 0", "send 0 ", "send 1 ", "send 0  1", "send  0 1", "send 0 1 ", "send 0 1 2", "send 0 1 0", "send 0,1", "send 0-1", " send 0 1", "sent 0 1", "send 01", "send x 0", "send 0 x", "send 0 -1", "send -1 0", "send 00 0", "send 0 00", "send 1000 0", "send 0 1000",
		"deliver 0 0", "copy 0 0", "drop 0 0", "save 0 0", "crash 0 0", "deliver", "copy", "drop", "save", "crash", "delivers 0", "deliver 1 2", "copies 0", "crash  0", "restore 0",
		strings.Repeat("see 0 ", 100000), strings.Repeat(" ", 1000000), "see " + strings.Repeat("0", 900000), "see " + strings.Repeat("9", 900000), "send 0 " + strings.Repeat("1", 900000), strings.Repeat("see", 300000) + " 0",
	} {
		wantNoDeed(t, text)
	}
	numbers := []string{"", "-", "+", "-1", "-0", "+0", "+1", "00", "01", "007", "1000", "1001", "9999", "10000", "4294967296", "9223372036854775807", "9223372036854775808", "18446744073709551616", "18446744073709551617", "-18446744073709551616", "1.0", "1e0", "0x1", "1_0", "x", "1x", "\u0661", "1\t", "\t1", "1\r", "1\n", "a", "1,"}
	for _, word := range []string{"see", "deliver", "copy", "drop", "save", "crash"} {
		for _, number := range numbers {
			wantNoDeed(t, word+" "+number)
		}
	}
	for _, number := range numbers {
		wantNoDeed(t, "send "+number+" 1")
		wantNoDeed(t, "send 1 "+number)
		wantNoDeed(t, "send "+number+" 0")
		wantNoDeed(t, "send 0 "+number)
	}
}

// TestTextsOfDeedsWithOneOtherByte changes each byte of a text in turn, leaves it out,
// and writes it twice.
func TestTextsOfDeedsWithOneOtherByte(t *testing.T) {
	check := func(text string) {
		want, ok := deedOf(text)
		got, code := impl.ReadDeed(text)
		if ok {
			wantDeed(t, text, got, code, want, impl.OK)
		} else {
			wantDeed(t, text, got, code, impl.Deed{}, impl.ErrSyntax)
		}
	}
	for _, text := range []string{"see 0", "see 17", "send 0 1", "send 102 34", "deliver 9", "copy 0", "drop 10", "save 3", "crash 999"} {
		for i := range len(text) {
			for b := range 256 {
				check(text[:i] + string([]byte{byte(b)}) + text[i+1:])
				check(text[:i] + string([]byte{byte(b)}) + text[i:])
				check(text + string([]byte{byte(b)}))
			}
			check(text[:i] + text[i+1:])
			check(text[:i])
		}
	}
}

// TestEachDeed has each deed with each of its errors, and with several at once.
func TestEachDeed(t *testing.T) {
	const full = "send 0 1; send 0 1; send 0 1; send 0 1; send 0 1; send 0 1; send 0 1; send 0 1; send 0 1; send 0 1"
	two, none, crowded := twoFleet(), plainFleet(nil, nil), crowdedFleet()
	for _, x := range []struct {
		f            impl.Fleet
		before, deed string
		code         int64
	}{
		{two, "", "see 0", impl.OK}, {two, "", "see 1", impl.OK}, {two, "", "see 2", impl.ErrRange}, {two, "", "see 4", impl.ErrRange}, {two, "", "see 999", impl.ErrRange}, {two, "see 0", "see 0", impl.ErrState}, {two, "see 0", "see 1", impl.OK}, {two, "see 1", "see 1", impl.ErrState}, {none, "", "see 0", impl.ErrState}, {none, "", "see 2", impl.ErrRange},
		{crowded, "see 0", "see 0", impl.ErrLimit}, {crowded, "see 0; see 0", "see 0", impl.ErrLimit}, {crowded, "see 0", "see 1", impl.OK}, {crowded, "see 0; crash 0", "see 0", impl.OK}, {crowded, "see 0; save 0; crash 0", "see 0", impl.ErrLimit},
		{two, "", "send 0 1", impl.OK}, {two, "", "send 1 0", impl.OK}, {two, "", "send 0 0", impl.ErrRange}, {two, "", "send 1 1", impl.ErrRange}, {two, "", "send 2 0", impl.ErrRange}, {two, "", "send 0 2", impl.ErrRange}, {two, "", "send 2 2", impl.ErrRange}, {two, "", "send 2 3", impl.ErrRange}, {two, "", "send 999 0", impl.ErrRange}, {two, "", "send 0 999", impl.ErrRange},
		{two, full[:len(full)-10], "send 1 0", impl.OK}, {two, full, "send 0 1", impl.ErrLimit}, {two, full, "send 1 0", impl.ErrLimit}, {two, full, "send 0 0", impl.ErrRange}, {two, full, "send 0 2", impl.ErrRange}, {two, full, "send 2 1", impl.ErrRange}, {two, full + "; drop 9", "send 0 1", impl.OK}, {two, full + "; deliver 0", "send 0 1", impl.OK}, {two, full + "; copy 0", "send 0 1", impl.ErrLimit}, {two, full + "; crash 0; crash 1", "send 0 1", impl.ErrLimit},
		{two, full, "deliver 9", impl.OK}, {two, full, "copy 9", impl.OK}, {two, full, "drop 9", impl.OK}, {two, full, "deliver 10", impl.ErrRange}, {two, full, "copy 10", impl.ErrRange}, {two, full, "drop 10", impl.ErrRange}, {two, full, "see 0", impl.OK}, {two, full, "save 0", impl.OK},
		{two, "", "deliver 0", impl.ErrRange}, {two, "", "copy 0", impl.ErrRange}, {two, "", "drop 0", impl.ErrRange}, {two, "send 0 1", "deliver 0", impl.OK}, {two, "send 0 1", "deliver 1", impl.ErrRange}, {two, "send 0 1", "copy 1", impl.ErrRange}, {two, "send 0 1", "drop 1", impl.ErrRange}, {two, "send 0 1", "drop 999", impl.ErrRange}, {two, "send 0 1; deliver 0", "deliver 0", impl.ErrRange}, {two, "send 0 1; drop 0", "copy 0", impl.ErrRange}, {two, "send 0 1; copy 0", "copy 0", impl.OK}, {two, "send 0 1; copy 0", "drop 0", impl.OK}, {two, "send 0 0", "drop 0", impl.ErrRange},
		{two, "", "save 0", impl.OK}, {two, "", "save 1", impl.OK}, {two, "", "save 2", impl.ErrRange}, {two, "", "save 999", impl.ErrRange}, {two, "", "crash 0", impl.OK}, {two, "", "crash 1", impl.OK}, {two, "", "crash 2", impl.ErrRange}, {two, "", "crash 4", impl.ErrRange}, {two, "crash 0", "crash 0", impl.OK}, {two, "see 0; crash 0", "see 0", impl.OK}, {two, "see 0; save 0; crash 0", "see 0", impl.ErrState}, {two, "see 0; save 1; crash 0", "see 0", impl.OK}, {two, "see 0; crash 1", "see 0", impl.ErrState},
		{rowFleet(1, 1), "", "send 0 0", impl.ErrRange}, {rowFleet(1, 1), "", "send 0 1", impl.ErrRange}, {rowFleet(4, 1), "", "send 3 2", impl.OK}, {rowFleet(4, 1), "", "see 3", impl.OK}, {rowFleet(4, 1), "", "see 4", impl.ErrRange},
	} {
		before, deed := deedsOf(x.before), deedsOf(x.deed)
		what := x.before + " and then " + x.deed
		start, first, _ := impl.YardAfter(x.f, before)
		end, done, code := impl.YardAfter(x.f, append(before, deed...))
		if x.code == impl.OK {
			k, _, _, _ := depotAfter(x.f, append(before, deed...))
			wantYard(t, what, end, done, code, k.yard(), first+1, impl.OK)
		} else {
			wantYard(t, what, end, done, code, start, first, impl.OK)
			_, wrong, _ := impl.RefusedDeed(x.f, append(doneOf(x.f, before), deed...))
			wantCode(t, "RefusedDeed, "+what, wrong, x.code)
		}
	}
}

// doneOf returns the deeds that are done.
func doneOf(f impl.Fleet, deeds []impl.Deed) []impl.Deed {
	k := depotOf(f)
	return slices.DeleteFunc(slices.Clone(deeds), func(d impl.Deed) bool { return k.take(d) != impl.OK })
}

func TestSightsThatAreTaken(t *testing.T) {
	f := plainFleet([]impl.Sight{{At: impl.Vec{0.5, 0.5, 0.5}, Weight: 1, Time: 5}, {At: impl.Vec{0.75, 0.5, 0.5}, Weight: 3, Time: 4}, {At: impl.Vec{9, 0, 0}, Weight: 2, Time: 7}}, nil)
	first := impl.Mark{At: impl.Vec{0.5, 0.5, 0.5}, Weight: 1, Seen: 1, Last: 5}
	joined := impl.Mark{At: impl.Vec{0.6875, 0.5, 0.5}, Weight: 4, Seen: 2, Last: 5}
	far := impl.Mark{Cell: impl.Place{9, 0, 0}, At: impl.Vec{9, 0, 0}, Weight: 2, Seen: 1, Last: 7}
	for taken, want := range []impl.LandMap{mapOf(), mapOf(first), mapOf(joined), mapOf(joined, far)} {
		y := yardAfter(t, f, slices.Repeat(deedsOf("see 0"), taken))
		wantMap(t, fmt.Sprint(taken, " sights"), y.Minds[0].Map, impl.OK, want, impl.OK)
		wantBool(t, "sights that are taken", y.Minds[0].Taken == int64(taken) && y.Minds[1].Taken == 0 && y.Saved[0].Taken == 0, true)
		wantMap(t, "nothing is saved", y.Saved[0].Map, impl.OK, mapOf(), impl.OK)
		wantMap(t, "the other vehicle sees nothing", y.Minds[1].Map, impl.OK, mapOf(), impl.OK)
	}
	f.Gate = 0.125 // the second sight is another mark, in the same cell, and worse
	y := yardAfter(t, f, deedsOf("see 0; see 0"))
	wantMap(t, "the gate", y.Minds[0].Map, impl.OK, mapOf(first), impl.OK)
	wantBool(t, "the sight is taken", y.Minds[0].Taken == 2, true)
}

// TestSightsWithoutPlaces has a sight for which ObserveMark returns an error.
func TestSightsWithoutPlaces(t *testing.T) {
	f := crowdedFleet()
	x := f.Sights[0][0]
	m, _, code := impl.ObserveMark(impl.LandMap{Side: f.Side}, x.At, x.Weight, x.Time, f.Gate)
	wantCode(t, "ObserveMark", code, impl.OK)
	_, _, code = impl.ObserveMark(m, x.At, x.Weight, x.Time, f.Gate)
	wantCode(t, "ObserveMark again", code, impl.ErrLimit)
	y, done, code := impl.YardAfter(f, deedsOf("see 0; see 0; see 0; see 1; see 0"))
	wantIndex(t, "YardAfter", done, code, 2, impl.OK)
	wantMap(t, "the map stays", y.Minds[0].Map, impl.OK, m, impl.OK)
	wantBool(t, "the sight is not taken", y.Minds[0].Taken == 1, true)
	wantRefused(t, "no place", f, deedsOf("see 0; see 0; see 0"), 1, impl.ErrLimit, impl.OK)
	wantScript(t, f, "see 0\nsee 0\nmarks 0\n", "ok\nerror limit\n1 1\n", impl.OK)
	// A map that comes in may make place: here, a better mark that is lighter, so that the sum is finite.
	f = impl.Fleet{Side: 1e38, Gate: 1, Sights: [][]impl.Sight{{x, x}, {{At: impl.Vec{3e38, 0, 0}, Weight: tiniest, Time: 9}}}}
	f.Sights[0][1].Weight = 0.5
	wantRefused(t, "no place", f, deedsOf("see 0; see 0"), 1, impl.ErrLimit, impl.OK)
	wantRefused(t, "a place", f, deedsOf("see 0; see 1; send 1 0; deliver 0; see 0"), 0, 0, impl.ErrNotFound)
}

// TestPacketsOnTheWire sends packets that differ, and takes some of them.
func TestPacketsOnTheWire(t *testing.T) {
	f := rowFleet(3, 4)
	const sent = "see 0; send 0 1; see 0; send 0 2; see 1; send 1 0; see 1; send 1 2; see 2; send 2 1"
	y := yardAfter(t, f, deedsOf(sent))
	wantBool(t, "five packets", len(y.Wire) == 5, true)
	for i, to := range []int64{1, 2, 0, 2, 1} {
		wantBool(t, "to whom", y.Wire[i].To == to, true)
		m, code := impl.ReadMap(y.Wire[i].Text)
		wantIndex(t, "marks of the packet", int64(len(m.Marks)), code, []int64{1, 2, 1, 2, 1}[i], impl.OK)
	}
	wantBool(t, "the text is that of the map at the time", y.Wire[0].Text == impl.MapText(mapOf(impl.Mark{At: impl.Vec{0, 0, 0.5}, Weight: 1, Seen: 1, Last: 5})), true)
	for i := range 5 {
		rest := slices.Delete(slices.Clone(y.Wire), i, i+1)
		to := y.Wire[i].To
		told, _ := impl.ReadMap(y.Wire[i].Text)
		want, code := impl.MergeMaps(y.Minds[to].Map, told)
		wantCode(t, "MergeMaps", code, impl.OK)
		for _, x := range []struct {
			word  string
			comes bool
			wire  []impl.Packet
		}{{"deliver", true, rest}, {"copy", true, y.Wire}, {"drop", false, rest}} {
			end := yardAfter(t, f, deedsOf(fmt.Sprint(sent, "; ", x.word, " ", i)))
			wantBool(t, x.word+", the wire", slices.Equal(end.Wire, x.wire), true)
			for v := range 3 {
				m := y.Minds[v]
				if x.comes && int64(v) == to {
					m.Map = want
				}
				wantBool(t, fmt.Sprint(x.word, " ", i, ", vehicle ", v), sameMind(end.Minds[v], m), true)
			}
			wantBool(t, "nothing is saved by it", slices.EqualFunc(end.Saved, y.Saved, sameMind), true)
		}
	}
}

// TestCrashes looks at what is kept over a crash: what has been saved, what other
// vehicles know, and what is on its way.
func TestCrashes(t *testing.T) {
	f := rowFleet(2, 3)
	const before = "see 0; save 0; see 0; see 1; send 0 1; send 1 0"
	y := yardAfter(t, f, deedsOf(before))
	end := yardAfter(t, f, deedsOf(before+"; crash 0"))
	want := impl.Yard{Minds: []impl.Mind{y.Saved[0], y.Minds[1]}, Saved: y.Saved, Wire: y.Wire}
	wantYard(t, "a crash", end, 0, impl.OK, want, 0, impl.OK)
	wantBool(t, "one sight is kept", end.Minds[0].Taken == 1 && len(end.Minds[0].Map.Marks) == 1, true)
	wantBool(t, "two sights are in the packet", strings.Count(end.Wire[0].Text, "\n") == 3, true)
	end = yardAfter(t, f, deedsOf(before+"; crash 0; crash 0"))
	wantYard(t, "two crashes", end, 0, impl.OK, want, 0, impl.OK)
	end = yardAfter(t, f, deedsOf(before+"; crash 0; see 0"))
	wantYard(t, "the sight is taken again", end, 0, impl.OK, y, 0, impl.OK)
	end = yardAfter(t, f, deedsOf(before+"; crash 0; see 0; crash 0; see 0"))
	wantYard(t, "the sight is taken again and again", end, 0, impl.OK, y, 0, impl.OK)
	end = yardAfter(t, f, deedsOf(before+"; crash 0; save 0"))
	wantYard(t, "saved behind a crash", end, 0, impl.OK, want, 0, impl.OK)
	end = yardAfter(t, f, deedsOf(before+"; deliver 0; crash 0; send 1 0; deliver 1"))
	wantBool(t, "another vehicle tells what has been lost", len(end.Minds[0].Map.Marks) == 3 && end.Minds[0].Taken == 1, true)
	end = yardAfter(t, f, deedsOf(before+"; crash 1; deliver 0"))
	wantBool(t, "what is on its way comes in", len(end.Minds[1].Map.Marks) == 2 && end.Minds[1].Taken == 0, true)
	end = yardAfter(t, f, deedsOf(before+"; deliver 1; save 0; crash 0"))
	wantBool(t, "what has come in is saved", len(end.Minds[0].Map.Marks) == 3 && end.Minds[0].Taken == 2, true)
	end = yardAfter(t, f, deedsOf("see 0; see 1; crash 0; crash 1"))
	wantYard(t, "nothing has been saved", end, 0, impl.OK, depotOf(f).yard(), 0, impl.OK)
}

// TestCrashesLoseWhatHasNotBeenSaved is what is promised of crashes, for all deeds: a
// crash takes back the mind of one vehicle, and changes nothing else.
func TestCrashesLoseWhatHasNotBeenSaved(t *testing.T) {
	d := &dice{seed: 510}
	lost := 0
	for range 1500 {
		f := d.aFleet(6)
		deeds := d.someDeeds(f, 40)
		v := int64(d.below(len(f.Sights)))
		crash := impl.Deed{Kind: impl.DdCrash, A: v}
		before, done, code := impl.YardAfter(f, deeds)
		want := impl.Yard{Minds: slices.Clone(before.Minds), Saved: before.Saved, Wire: before.Wire}
		want.Minds[v] = before.Saved[v]
		got, more, _ := impl.YardAfter(f, append(slices.Clone(deeds), crash))
		wantYard(t, startOf("a crash behind ", textsOf(deeds)), got, more, code, want, done+1, impl.OK)
		if !sameMind(before.Minds[v], before.Saved[v]) {
			lost++
		}
		save := impl.Deed{Kind: impl.DdSave, A: v}
		saved := impl.Yard{Minds: before.Minds, Saved: slices.Clone(before.Saved), Wire: before.Wire}
		saved.Saved[v] = before.Minds[v]
		got, more, _ = impl.YardAfter(f, append(slices.Clone(deeds), save, crash, crash))
		wantYard(t, startOf("a crash behind it is saved ", textsOf(deeds)), got, more, code, saved, done+3, impl.OK)
	}
	wantBool(t, "crashes that lose something", lost > 300, true)
}
