package tests

import (
	"fmt"
	"math"
	"strings"
	"testing"

	"loop.example/g01204/impl"
)

func TestTextsOfNumbers(t *testing.T) {
	for _, c := range []struct {
		a    float32
		text string
	}{
		{0, "00000000"}, {minusZero, "80000000"}, {1, "3f800000"}, {-2, "c0000000"}, {infinite, "7f800000"}, {-infinite, "ff800000"},
		{tiniest, "00000001"}, {greatest, "7f7fffff"}, {math.Float32frombits(0xabcdef98), "abcdef98"}, {nan, "7fc00000"}, {otherNaN, "7fc00000"},
	} {
		if got := impl.NumberText(c.a); got != c.text {
			t.Errorf("NumberText %g: got %q, want %q", c.a, got, c.text)
		}
		a, code := impl.ReadNumber(c.text)
		wantNumber(t, "ReadNumber "+c.text, a, c.a)
		wantCode(t, "ReadNumber "+c.text, code, impl.OK)
	}
}

func TestEachNaNHasOneText(t *testing.T) {
	for _, bits := range []uint32{0x7f800001, 0x7fbfffff, 0x7fc00001, 0x7fffffff, 0xff800001, 0xffc00000, 0xffffffff} {
		if got := impl.NumberText(math.Float32frombits(bits)); got != "7fc00000" {
			t.Errorf("NumberText of the bits %08x: got %q", bits, got)
		}
		wantNoNumber(t, fmt.Sprintf("%08x", bits))
	}
}

func wantNoNumber(t *testing.T, text string) {
	t.Helper()
	a, code := impl.ReadNumber(text)
	wantNumber(t, fmt.Sprintf("ReadNumber %.40q", text), a, 0)
	wantCode(t, fmt.Sprintf("ReadNumber %.40q", text), code, impl.ErrSyntax)
}

func TestNoTextsOfNumbers(t *testing.T) {
	for _, text := range []string{
		"", "0", "3f80000", "3f8000000", "03f800000", "3F800000", "7FC00000", "3f80000g", "3f80000/", "3f80000:", "3f80000`", "3f80000@",
		" 3f800000", "3f800000 ", "3f800000\n", " 3f80000", "3f8 0000", "+3f80000", "-3f80000", "0x3f8000", "3f80_000", "1.000000", "\x003f80000", "3f80000\x00",
		"\xff\xff\xff\xff\xff\xff\xff\xff", "３f80000", strings.Repeat("0", 1000000),
	} {
		wantNoNumber(t, text)
	}
}

func TestTextsOfVectorsAndMatrices(t *testing.T) {
	v := impl.Vec{1, otherNaN, minusZero}
	const line = "3f800000 7fc00000 80000000"
	if got := impl.VecText(v); got != line {
		t.Errorf("VecText: got %q, want %q", got, line)
	}
	m := impl.Mat{v, {2, 3, 4}, {infinite, tiniest, 0}}
	const lines = line + "\n40000000 40400000 40800000\n7f800000 00000001 00000000\n"
	if got := impl.MatText(m); got != lines {
		t.Errorf("MatText: got %q, want %q", got, lines)
	}
	d := &dice{seed: 11}
	for range 5000 {
		m := matFrom(d.any)
		v, code := impl.ReadVec(impl.VecText(m[0]))
		wantVec(t, "ReadVec", v, m[0])
		wantCode(t, "ReadVec", code, impl.OK)
		n, code := impl.ReadMat(impl.MatText(m))
		wantMat(t, "ReadMat", n, m)
		wantCode(t, "ReadMat", code, impl.OK)
		a, code := impl.ReadNumber(impl.NumberText(m[0][0]))
		wantNumber(t, "ReadNumber", a, m[0][0])
		wantCode(t, "ReadNumber", code, impl.OK)
	}
}

func TestNoTextsOfVectors(t *testing.T) {
	const a = "3f800000"
	for _, text := range []string{
		"", a, a + " " + a, a + " " + a + " " + a + " " + a, a + " " + a + " " + a + " ", " " + a + " " + a + " " + a, a + "  " + a + " " + a, a + " " + a + "  " + a,
		a + "\t" + a + " " + a, a + " " + a + "\n" + a, a + " " + a + "\u00a0" + a, a + a + a, a + " " + a + " " + a + "\n", a + " " + a + " " + a + "\r",
		a + " " + a + " 3F800000", "7fc00001 " + a + " " + a, a + " ffc00000 " + a, a + " " + a + " 3f80000", a + " 3f80000  " + a, "  ", strings.Repeat(" ", 1000000), strings.Repeat(a+" ", 100000),
	} {
		v, code := impl.ReadVec(text)
		wantVec(t, fmt.Sprintf("ReadVec %.60q", text), v, impl.Vec{})
		wantCode(t, fmt.Sprintf("ReadVec %.60q", text), code, impl.ErrSyntax)
	}
}

func TestNoTextsOfMatrices(t *testing.T) {
	const row = "3f800000 3f800000 3f800000"
	const n = "\n"
	for _, text := range []string{
		"", n, n + n + n, row, row + n, row + n + row + n, row + n + row + n + row, row + n + row + n + row + " ", row + n + row + n + row + n + n, n + row + n + row + n + row + n,
		row + n + row + n + row + n + row + n, row + n + row + n + row + n + " ", row + n + row + n + row + n + row, row + n + n + row + n + row + n, row + " " + row + " " + row + n,
		row + "\r\n" + row + "\r\n" + row + "\r\n", row + " \n" + row + n + row + n, row + n + " " + row + n + row + n, row + n + row + n + "3f800000 3f800000" + n,
		row + n + row + n + "3f800000 3f800000 3f80000A\n", row + n + "3f800000 7fc00001 3f800000\n" + row + n, "3f800000\n3f800000\n3f800000\n", strings.Repeat(n, 1000000),
	} {
		m, code := impl.ReadMat(text)
		wantMat(t, fmt.Sprintf("ReadMat %.90q", text), m, impl.Mat{})
		wantCode(t, fmt.Sprintf("ReadMat %.90q", text), code, impl.ErrSyntax)
	}
}

// TestTextsWithOneOtherByte changes each byte of a text in turn. What is read all the same must have this text.
func TestTextsWithOneOtherByte(t *testing.T) {
	text := impl.MatText(impl.Mat{{1, 2, 3}, {nan, minusZero, infinite}, {tiniest, greatest, -1}})
	for i := range len(text) {
		for b := range 256 {
			other := []byte(text)
			other[i] = byte(b)
			m, code := impl.ReadMat(string(other))
			if code == impl.OK && impl.MatText(m) != string(other) {
				t.Errorf("ReadMat %q: read though it is no text", other)
			}
			hex := strings.ContainsRune("0123456789abcdef", rune(b))
			if code != impl.OK && hex && text[i] != ' ' && text[i] != '\n' && !isNaNText(string(other)) {
				t.Errorf("ReadMat %q: not read", other)
			}
		}
	}
}

// isNaNText reports whether one of the numbers has the bits of a NaN other than 7fc00000.
func isNaNText(text string) bool {
	for _, part := range strings.Fields(text) {
		var bits uint32
		fmt.Sscanf(part, "%x", &bits)
		if a := math.Float32frombits(bits); a != a && bits != 0x7fc00000 {
			return true
		}
	}
	return false
}
