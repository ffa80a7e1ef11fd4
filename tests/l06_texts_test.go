package tests

import (
	"fmt"
	"slices"
	"strings"
	"testing"

	"loop.example/g01204/impl"
)

const textOfGraph = "graph\n" +
	"pose 3f800000 80000000 c0000000\n" +
	"pose 7f7fffff 00000001 ff7fffff\n" +
	"pose 00000000 00000000 00000000\n" +
	"link 0 2 3f800000 40000000 40400000 3f000000\n" +
	"link 2 1 80000000 80000001 00000000 7f7fffff\n" +
	"link 0 2 bf800000 00000000 ff7fffff 00000001\n"

// graphWithText has the text above.
func graphWithText() impl.PoseGraph {
	return impl.PoseGraph{
		Poses: []impl.Pose{{1, minusZero, -2}, {greatest, tiniest, -greatest}, {}},
		Links: links(
			impl.Link{From: 0, To: 2, Step: impl.Pose{1, 2, 3}, Weight: 0.5},
			impl.Link{From: 2, To: 1, Step: impl.Pose{minusZero, -tiniest, 0}, Weight: greatest},
			impl.Link{From: 0, To: 2, Step: impl.Pose{-1, 0, -greatest}, Weight: tiniest},
		),
	}
}

func wantGraphText(t *testing.T, g impl.PoseGraph, want string) {
	t.Helper()
	if got := impl.GraphText(g); got != want {
		t.Errorf("GraphText: got %.300q, want %.300q", got, want)
	}
	if want != "" {
		got, code := impl.ReadPoseGraph(want)
		wantGraph(t, startOf("ReadPoseGraph ", want), got, code, g, impl.OK)
	}
}

func TestTextsOfGraphs(t *testing.T) {
	wantGraphText(t, graphWithText(), textOfGraph)
	wantGraphText(t, rowOf(nil, 0), "graph\npose 00000000 00000000 00000000\n")
	wantGraphText(t, rowOf(nil, 1, -2), "graph\npose 3f800000 00000000 00000000\npose c0000000 00000000 00000000\n")
	for _, g := range goodGraphs() {
		wantGraphText(t, g, rawGraphText(g))
	}
	long := fullGraph()
	for i := range long.Links { // as long as it can be
		long.Links[i] = linkOn(58, 59, -1, 1)
	}
	wantGraphText(t, long, rawGraphText(long))
	d := &dice{seed: 230}
	for range 3000 {
		g := d.anyGraph(40)
		wantGraphText(t, g, rawGraphText(g))
		h, _, code := impl.SweepOnce(g)
		wantCode(t, "SweepOnce", code, impl.OK)
		wantGraphText(t, h, rawGraphText(h))
	}
}

func wantNoGraph(t *testing.T, what, text string, want int64) {
	t.Helper()
	g, code := impl.ReadPoseGraph(text)
	wantGraph(t, fmt.Sprintf("ReadPoseGraph, %s: %.90q", what, text), g, code, impl.PoseGraph{}, want)
}

func TestTextsOfGraphsThatAreNotValid(t *testing.T) {
	each(badGraphs(), func(what string, g impl.PoseGraph) {
		wantGraphText(t, g, "")
		wantNoGraph(t, what, rawGraphText(g), impl.ErrSyntax)
	})
	wantGraphText(t, impl.PoseGraph{Poses: make([]impl.Pose, 100000)}, "")
	wantGraphText(t, impl.PoseGraph{Poses: make([]impl.Pose, 2), Links: make([]impl.Link, 100000)}, "")
}

func TestNoTextsOfGraphs(t *testing.T) {
	const head, pose, link = "graph\n", "pose 3f800000 3f800000 3f800000\n", "link 0 1 3f800000 3f800000 3f800000 3f800000\n"
	good := head + pose + pose + link + link
	g, code := impl.ReadPoseGraph(good)
	wantCode(t, "ReadPoseGraph of what is changed below", code, impl.OK)
	wantBool(t, "ReadPoseGraph of what is changed below", len(g.Poses) == 2 && len(g.Links) == 2, true)
	for _, text := range []string{
		"", "\n", "\n\n", " ", "graph", "graph\n", "graph \n", " graph\n", "graph\n\n", "Graph\n" + pose, "graph\r\n" + pose, "graphs\n" + pose, "graph pose\n", "map\n" + pose, "graph" + pose, pose, pose + head, link, pose + link, head + head + pose, head + pose + head, "\n" + head + pose,
		head + link, head + link + pose, head + link + pose + pose, head + pose + link, head + pose + link + pose, head + pose + pose + link + pose, head + pose + pose + link + pose + link, head + pose + pose + link + head,
		head + "\n" + pose, head + pose + "\n", head + pose + "\n" + pose, head + pose + pose + "\n" + link, good + "\n", good + " ", good + "x", good + "x\n", good + "\x00", good[:len(good)-1], good[:len(good)-2] + "\n",
		head + "pose\n", head + "pose \n", head + "pose 3f800000 3f800000\n", head + "pose 3f800000 3f800000 3f800000 3f800000\n", head + "pose 3f800000 3f800000 3f800000 \n", head + " " + pose, head + "pose  3f800000 3f800000 3f800000\n", head + "pose3f800000 3f800000 3f800000\n",
		head + "3f800000 3f800000 3f800000\n", head + "Pose 3f800000 3f800000 3f800000\n", head + "poses 3f800000 3f800000 3f800000\n", head + "pose 1 2 3\n", head + "pose 3F800000 3f800000 3f800000\n", head + "pose 7f800000 3f800000 3f800000\n", head + "pose 3f800000 3f800000 7fc00000\n", head + "pose 3f800000,3f800000,3f800000\n",
		head + pose + pose + "link\n", head + pose + pose + "link 0 1\n", head + pose + pose + "link 0 1 3f800000 3f800000 3f800000\n", head + pose + pose + "link 0 1 3f800000 3f800000 3f800000 3f800000 3f800000\n", head + pose + pose + "link 0 1 3f800000 3f800000 3f800000 3f800000 \n", head + pose + pose + " " + link,
		head + pose + pose + "link 0 3f800000 3f800000 3f800000 3f800000\n", head + pose + pose + "0 1 3f800000 3f800000 3f800000 3f800000\n", head + pose + pose + "pose 0 1 3f800000 3f800000 3f800000 3f800000\n", head + pose + pose + "link  0 1 3f800000 3f800000 3f800000 3f800000\n", head + pose + pose + "Link 0 1 3f800000 3f800000 3f800000 3f800000\n",
		strings.ReplaceAll(good, " ", "  "), strings.ReplaceAll(good, " ", "\t"), strings.ReplaceAll(good, "\n", " "), strings.ReplaceAll(good, " ", "\n"), strings.ReplaceAll(good, "\n", "\r\n"), strings.ReplaceAll(good, "\n", "\n\n"), strings.ToUpper(good),
	} {
		wantNoGraph(t, "no text", text, impl.ErrSyntax)
	}
}

// TestNoWordsOfGraphs puts words that are none into each place of a line.
func TestNoWordsOfGraphs(t *testing.T) {
	lines := strings.SplitAfter(textOfGraph, "\n")
	index := []string{"3", "-1", "4294967296", "9223372036854775807", "9223372036854775808", "-9223372036854775808", "18446744073709551616", "18446744073709551617"}
	number := []string{"7f800000", "ff800000", "7fc00000", "7fc00001", "ffc00000", "3F000000", "3f00000", "03f000000", "3f00000g", "+f000000", "0x3f0000", "3f00_000", "1", "0.5"}
	weight := append([]string{"00000000", "80000000", "bf800000"}, number...)
	kinds := map[string][][]string{
		"pose": {{"Pose", "link", "graph"}, number, number, number},
		"link": {{"Link", "pose", "graph"}, append([]string{"2"}, index...), append([]string{"0"}, index...), number, number, number, weight},
	}
	for at, kind := range map[int]string{1: "pose", 3: "pose", 4: "link", 6: "link"} {
		for i, list := range kinds[kind] {
			for _, word := range append(slices.Clone(list), "", "-", "+", "+1", "+0", "01", "00", "02", "-0", "-01", "- 1", "1.0", "1e0", "0x1", "1_0", "1\x00", "\u0661", "x", "NaN", "1,", "1\t", "--1") {
				words := strings.Split(strings.TrimSuffix(lines[at], "\n"), " ")
				words[i] = word
				other := slices.Clone(lines)
				other[at] = strings.Join(words, " ") + "\n"
				wantNoGraph(t, "word", strings.Join(other, ""), impl.ErrSyntax)
			}
		}
	}
}

func TestTextsOfGraphsThatAreTooLong(t *testing.T) {
	for _, text := range []string{"x", " ", "\n", "graph\n", "pose 3f800000 3f800000 3f800000\n", "link 0 1 3f800000 3f800000 3f800000 3f800000\n"} {
		long := textOfGraph + strings.Repeat(text, 1000000/len(text))
		wantNoGraph(t, "1000000 bytes", long, impl.ErrRange)
		wantNoGraph(t, "20001 bytes", long[:20001], impl.ErrRange)
		wantNoGraph(t, "20000 bytes", long[:20000], impl.ErrSyntax)
	}
	wantNoGraph(t, "61 poses", rawGraphText(longChain(61)), impl.ErrSyntax)
	over := fullGraph()
	over.Links = append(over.Links, over.Links[0])
	wantNoGraph(t, "121 links", rawGraphText(over), impl.ErrSyntax)
}

// TestTextsOfGraphsWithOneOtherByte changes each byte of a text in turn, leaves it
// out, and writes it twice. What is read all the same must have this text.
func TestTextsOfGraphsWithOneOtherByte(t *testing.T) {
	check := func(text string) {
		g, code := impl.ReadPoseGraph(text)
		if code == impl.OK && (rawGraphText(g) != text || !validGraph(g)) {
			t.Errorf("ReadPoseGraph %q: read though it is no text", text)
		}
		if code != impl.OK {
			wantGraph(t, "ReadPoseGraph", g, code, impl.PoseGraph{}, impl.ErrSyntax)
		}
	}
	for i := range len(textOfGraph) {
		for b := range 256 {
			check(textOfGraph[:i] + string([]byte{byte(b)}) + textOfGraph[i+1:])
		}
		check(textOfGraph[:i] + textOfGraph[i+1:])
		check(textOfGraph[:i+1] + textOfGraph[i:])
	}
}

// TestTextsOfOtherGraphs has graphs that differ in one number or two.
func TestTextsOfOtherGraphs(t *testing.T) {
	d := &dice{seed: 231}
	for range 500 {
		g := d.anyGraph(5)
		h := cloneOf(g)
		h.Poses[d.below(len(h.Poses))][d.below(3)] += 1
		if len(h.Links) > 0 {
			h.Links[d.below(len(h.Links))].Step[d.below(3)] *= 2
		}
		got, code := impl.ReadPoseGraph(rawGraphText(h))
		if validGraph(h) {
			wantGraph(t, "ReadPoseGraph", got, code, h, impl.OK)
		} else {
			wantGraph(t, "ReadPoseGraph", got, code, impl.PoseGraph{}, impl.ErrSyntax)
		}
	}
}
