package tests

import (
	"fmt"
	"math"
	"strings"
	"testing"

	"loop.example/g01204/impl"
)

const textOfMap = "map 3f800000\n" +
	"-2147483648 0 2147483647 3f800000 80000000 c0000000 00000001 1 0\n" +
	"-1 -10 305 7f7fffff ff7fffff 00000000 7f7fffff 1000000 1000000000\n" +
	"-1 -10 306 00000000 00000001 80000001 40000000 12 345\n"

// mapWithText has the text above.
func mapWithText() impl.LandMap {
	return mapOf(
		impl.Mark{Cell: impl.Place{math.MinInt32, 0, math.MaxInt32}, At: impl.Vec{1, minusZero, -2}, Weight: tiniest, Seen: 1},
		impl.Mark{Cell: impl.Place{-1, -10, 305}, At: impl.Vec{greatest, -greatest, 0}, Weight: greatest, Seen: 1000000, Last: 1000000000},
		impl.Mark{Cell: impl.Place{-1, -10, 306}, At: impl.Vec{0, tiniest, -tiniest}, Weight: 2, Seen: 12, Last: 345},
	)
}

func wantMapText(t *testing.T, m impl.LandMap, want string) {
	t.Helper()
	if got := impl.MapText(m); got != want {
		t.Errorf("MapText: got %q, want %q", got, want)
	}
	if want != "" {
		got, code := impl.ReadMap(want)
		wantMap(t, startOf("ReadMap ", want), got, code, m, impl.OK)
	}
}

func TestTextsOfMaps(t *testing.T) {
	wantMapText(t, mapWithText(), textOfMap)
	wantMapText(t, mapOf(), "map 3f800000\n")
	wantMapText(t, impl.LandMap{Side: tiniest}, "map 00000001\n")
	wantMapText(t, impl.LandMap{Side: greatest, Marks: []impl.Mark{plainMark(0, 0, 0)}}, "map 7f7fffff\n0 0 0 3f000000 3f000000 3f000000 3f800000 1 5\n")
	wantMapText(t, fullMap(), rawMapText(fullMap()))
	long := impl.LandMap{Side: greatest}
	for k := range int32(200) { // as long as it can be
		long.Marks = append(long.Marks, impl.Mark{Cell: impl.Place{math.MinInt32, math.MinInt32, math.MinInt32 + k}, At: impl.Vec{-1, -1, -1}, Weight: 1, Seen: 1000000, Last: 1000000000})
	}
	wantMapText(t, long, rawMapText(long))
	d := &dice{seed: 180}
	for range 3000 {
		m := d.aMap(d.aSide(), 40)
		wantMapText(t, m, rawMapText(m))
	}
}

func wantNoMap(t *testing.T, what, text string, want int64) {
	t.Helper()
	m, code := impl.ReadMap(text)
	wantMap(t, fmt.Sprintf("ReadMap, %s: %.90q", what, text), m, code, impl.LandMap{}, want)
}

func TestTextsOfMapsThatAreNotValid(t *testing.T) {
	each(badMaps(), func(what string, m impl.LandMap) {
		wantMapText(t, m, "")
		wantNoMap(t, what, rawMapText(m), impl.ErrSyntax)
	})
	wantMapText(t, impl.LandMap{Side: 1, Marks: make([]impl.Mark, 100000)}, "")
}

func TestNoTextsOfMaps(t *testing.T) {
	const head, mark = "map 3f800000\n", "1 2 3 3f000000 3f000000 3f000000 3f800000 1 5"
	got, code := impl.ReadMap(head + mark + "\n")
	wantCode(t, "ReadMap of what is changed below", code, impl.OK)
	wantBool(t, "ReadMap of what is changed below", len(got.Marks) == 1, true)
	for _, text := range []string{
		"", "\n", "\n\n", " ", "map", "map\n", "map \n", "map  \n", "map 3f800000", "map 3f80000\n", "map 03f800000\n", "map 3F800000\n", "Map 3f800000\n", "map3f800000\n", "map\t3f800000\n",
		"map  3f800000\n", " map 3f800000\n", "map 3f800000 \n", "map 3f800000\r\n", "map 3f800000 3f800000\n", "map 1\n", "map 1.0\n", "3f800000\n", "map 3f800000\nmap 3f800000\n", "map 3f800000\x00\n",
		head + "\n", "\n" + head, head + mark, head + mark + " ", head + mark + "\n\n", head + "\n" + mark + "\n", head + mark + "\n" + mark + "\n", head + mark + "\nx", head + mark + "\n ", mark + "\n", mark + "\n" + head,
		head + mark + "\r\n", head + mark + " \n", head + " " + mark + "\n", head + mark + "\x00\n", head + mark + " 5\n", head + mark + "\n" + head,
		head + "1 2 3 3f000000 3f000000 3f000000 3f800000 1\n", head + "1 2 3f000000 3f000000 3f000000 3f800000 1 5\n", head + "1 2 3 3f000000 3f000000 3f800000 1 5\n", head + "1 2 3 3f000000 3f000000 3f000000 1 5\n",
		strings.ReplaceAll(head+mark+"\n", " ", "  "), strings.ReplaceAll(head+mark+"\n", " ", "\t"), strings.ReplaceAll(head+mark+"\n", "\n", " "), strings.ReplaceAll(head+mark+"\n", " ", "\n"), strings.ToUpper(head + mark + "\n"),
		head + mark + "\n" + "1 2 2 3f000000 3f000000 3f000000 3f800000 1 5\n", head + mark + "\n" + "1 1 4 3f000000 3f000000 3f000000 3f800000 1 5\n", head + mark + "\n" + "0 9 9 3f000000 3f000000 3f000000 3f800000 1 5\n",
	} {
		wantNoMap(t, "no text", text, impl.ErrSyntax)
	}
}

// TestNoWordsOfMarks puts words that are no numbers into each place of a line.
func TestNoWordsOfMarks(t *testing.T) {
	words := strings.Split("1 2 3 3f000000 3f000000 3f000000 3f800000 1 5", " ")
	place := []string{"2147483648", "-2147483649", "4294967296", "9223372036854775807", "9223372036854775808", "18446744073709551617"}
	number := []string{"7f800000", "ff800000", "7fc00000", "7fc00001", "ffc00000", "3F000000", "3f00000", "03f000000", "3f00000g", "+f000000", "0x3f0000", "3f00_000", "1", "0.5"}
	lists := [][]string{place, place, place, number, number, number, append([]string{"00000000", "80000000", "bf800000"}, number...),
		{"0", "-1", "1000001", "4294967297", "9223372036854775808", "18446744073709551617"}, {"-1", "1000000001", "4294967296", "9223372036854775808", "18446744073709551617"}}
	for i, list := range lists {
		for _, word := range append(list, "", "-", "+", "+1", "01", "00", "-0", "-01", "- 1", "1.0", "1e0", "0x1", "1_0", "1\x00", "\u0661", "x", "NaN", "1,", "1\t", "--1") {
			line := append(append([]string{}, words[:i]...), word)
			line = append(line, words[i+1:]...)
			wantNoMap(t, "word", "map 3f800000\n"+strings.Join(line, " ")+"\n", impl.ErrSyntax)
		}
	}
}

func TestTextsThatAreTooLong(t *testing.T) {
	for _, text := range []string{"x", " ", "\n", "map 3f800000\n", "1 2 3 3f000000 3f000000 3f000000 3f800000 1 5\n"} {
		long := "map 3f800000\n" + strings.Repeat(text, 1000000/len(text))
		wantNoMap(t, "1000000 bytes", long, impl.ErrRange)
		wantNoMap(t, "40001 bytes", long[:40001], impl.ErrRange)
		wantNoMap(t, "40000 bytes", long[:40000], impl.ErrSyntax)
	}
	over := fullMap()
	over.Marks = append(over.Marks, plainMark(200, 0, 0))
	wantNoMap(t, "201 marks", rawMapText(over), impl.ErrSyntax)
}

// TestTextsOfMapsWithOneOtherByte changes each byte of a text in turn, leaves it
// out, and writes it twice. What is read all the same must have this text.
func TestTextsOfMapsWithOneOtherByte(t *testing.T) {
	check := func(text string) {
		m, code := impl.ReadMap(text)
		if code == impl.OK && (rawMapText(m) != text || !validMap(m)) {
			t.Errorf("ReadMap %q: read though it is no text", text)
		}
		if code != impl.OK {
			wantMap(t, "ReadMap", m, code, impl.LandMap{}, impl.ErrSyntax)
		}
	}
	for i := range len(textOfMap) {
		for b := range 256 {
			check(textOfMap[:i] + string([]byte{byte(b)}) + textOfMap[i+1:])
		}
		check(textOfMap[:i] + textOfMap[i+1:])
		check(textOfMap[:i+1] + textOfMap[i:])
	}
}
