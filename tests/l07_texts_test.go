package tests

import (
	"fmt"
	"slices"
	"strings"
	"testing"

	"loop.example/g01204/impl"
)

func wantGridText(t *testing.T, g impl.Grid, want string) {
	t.Helper()
	if got := impl.GridText(g); got != want {
		t.Errorf("GridText %s: got %.300q, want %.300q", startOf(g), got, want)
	}
}

// wantReadable wants the text, and the grid of it again.
func wantReadable(t *testing.T, g impl.Grid, text string) {
	t.Helper()
	wantGridText(t, g, text)
	got, code := impl.ReadGrid(text)
	wantGrid(t, startOf("ReadGrid ", text), got, code, g, impl.OK)
}

func wantNoGrid(t *testing.T, what, text string) {
	t.Helper()
	g, code := impl.ReadGrid(text)
	wantGrid(t, fmt.Sprintf("ReadGrid, %s: %.90q", what, text), g, code, impl.Grid{}, impl.ErrSyntax)
}

func TestTextsOfGrids(t *testing.T) {
	wantReadable(t, impl.Grid{Wide: 1, High: 1, Costs: []uint8{0}}, ".\n")
	wantReadable(t, impl.Grid{Wide: 1, High: 1, Costs: []uint8{255}}, "#\n")
	wantReadable(t, impl.Grid{Wide: 3, High: 2, Costs: []uint8{0, 10, 255, 20, 90, 0}}, ".1#\n29.\n")
	wantReadable(t, impl.Grid{Wide: 2, High: 3, Costs: []uint8{0, 10, 255, 20, 90, 0}}, ".1\n#2\n9.\n")
	wantReadable(t, impl.Grid{Wide: 11, High: 1, Costs: []uint8{0, 10, 20, 30, 40, 50, 60, 70, 80, 90, 255}}, ".123456789#\n")
	for cost := range 256 {
		g := impl.Grid{Wide: 2, High: 1, Costs: []uint8{uint8(cost), 0}}
		text := drawn(g)
		wantBool(t, "a character of its own", text[0] != '?', cost%10 == 0 && cost < 100 || cost == 255)
		if text[0] != '?' {
			wantReadable(t, g, text)
			continue
		}
		wantGridText(t, g, "?.\n")
		wantNoGrid(t, "?", text)
	}
	for wide := int64(1); wide <= 24; wide++ {
		for high := int64(1); high <= 24; high++ {
			g, _ := impl.EmptyGrid(wide, high)
			g.Costs[len(g.Costs)-1] = 90
			row := strings.Repeat(".", int(wide))
			wantReadable(t, g, strings.Repeat(row+"\n", int(high)-1)+row[1:]+"9\n")
		}
	}
}

func TestTextsOfGridsAgain(t *testing.T) {
	d := &dice{seed: 340}
	found := map[bool]int{}
	for range 4000 {
		g := d.aGrid(24)
		text := drawn(g)
		if strings.Contains(text, "?") {
			wantGridText(t, g, text)
			wantNoGrid(t, "other costs", text)
		} else {
			wantReadable(t, g, text)
		}
		found[strings.Contains(text, "?")]++
	}
	if found[true] < 500 || found[false] < 500 {
		t.Errorf("too few of a kind: %v", found)
	}
}

func TestNoTextsOfGrids(t *testing.T) {
	wide := strings.Repeat(".", 24)
	for _, text := range []string{
		"", "\n", "\n\n", ".", "#", "..", ".\n\n", "\n.\n", ".\n.", ".\n..\n", "..\n.\n", "..\n..\n.\n", "..\n\n..\n", "..\n..\n\n", "...\n..\n...\n", "..\n.\n...\n", "..\n...\n.\n", "..\n....\n\n", "..\n\n....\n",
		"?\n", "0\n", ".?\n", "?.\n", ".0\n", ".a\n", ".A\n", ". \n", " .\n", ".\t\n", ".\r\n", ".\n \n", ".\x00\n", ".:\n", "./\n", ".-\n", "..\u00b9\n", ".\n..", "10\n", "250\n", ".,.\n", ". .\n", "@\n", "!\n", "\"\n", "$\n",
		wide + ".\n", wide + wide + "\n", strings.Repeat(".\n", 25), strings.Repeat(wide+"\n", 25), strings.Repeat(wide+".\n", 24), strings.Repeat(wide+"\n", 24) + "\n", strings.Repeat(wide+"\n", 23) + wide, strings.Repeat(wide+"\n", 23) + wide[1:] + "\n",
	} {
		wantNoGrid(t, "no text", text)
	}
	for _, part := range []string{".", "#", "\n", ".\n", wide + "\n", "x", "?"} {
		wantNoGrid(t, "1000000 bytes", strings.Repeat(part, 1000000/len(part)))
		wantNoGrid(t, "1000000 bytes and a newline", strings.Repeat(part, 999999/len(part))+"\n")
	}
}

// TestTextsOfGridsWithOneOtherByte changes each byte of a text in turn, leaves it
// out, and writes it twice. What is read all the same must have this text.
func TestTextsOfGridsWithOneOtherByte(t *testing.T) {
	const text = ".1#9\n.#.2\n345.\n"
	found := map[bool]int{}
	check := func(text string) {
		g, code := impl.ReadGrid(text)
		found[code == impl.OK]++
		if code != impl.OK {
			wantGrid(t, "ReadGrid", g, code, impl.Grid{}, impl.ErrSyntax)
		} else if !validGrid(g) || drawn(g) != text {
			t.Errorf("ReadGrid %q: read though it is no text", text)
		}
	}
	for i := range len(text) {
		for b := range 256 {
			check(text[:i] + string([]byte{byte(b)}) + text[i+1:])
		}
		check(text[:i] + text[i+1:])
		check(text[:i+1] + text[i:])
	}
	if found[true] != 12*11+3 { // each other character of a spot, and the text itself
		t.Errorf("%d texts were read", found[true])
	}
}

func TestGridsOfTextsAreTheirOwn(t *testing.T) {
	g := grid("12", "#.")
	h, _ := impl.ReadGrid(impl.GridText(g))
	h.Costs[0] = 77
	again, code := impl.ReadGrid(impl.GridText(g))
	wantGrid(t, "ReadGrid", again, code, g, impl.OK)
	wantBool(t, "ReadGrid", slices.Equal(h.Costs, g.Costs), false)
}
