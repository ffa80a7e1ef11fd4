package tests

import (
	"fmt"
	"strings"
	"testing"

	"loop.example/g01204/impl"
)

const textOfState = "3f800000 80000000 c0000000 7f7fffff 00000001 00000000\n" +
	"3f800000 00000000 80000000 00000000 00000000 00000000\n" +
	"40000000 40400000 00000000 00000000 00000000 00000000\n" +
	"00000000 00000000 80000000 00000000 00000000 00000000\n" +
	"00000000 00000000 00000000 00000000 00000000 00000000\n" +
	"00000000 80000000 00000000 00000000 00000001 80000000\n" +
	"bf800000 00000000 00000000 00000000 00000000 7f7fffff\n"

func TestTextsOfStates(t *testing.T) {
	s := impl.State{X: impl.Six{1, minusZero, -2, greatest, tiniest, 0}}
	s.S[0] = impl.Six{1, 0, minusZero}
	s.S[1] = impl.Six{2, 3}
	s.S[2] = impl.Six{0, 0, minusZero}
	s.S[4] = impl.Six{0, minusZero, 0, 0, tiniest, minusZero}
	s.S[5] = impl.Six{-1, 0, 0, 0, 0, greatest}
	if got := impl.StateText(s); got != textOfState {
		t.Errorf("StateText: got %q, want %q", got, textOfState)
	}
	got, code := impl.ReadState(textOfState)
	wantStateCode(t, "ReadState", got, code, s, impl.OK)
	d := &dice{seed: 89}
	for range 5000 {
		s := d.aState()
		got, code := impl.ReadState(impl.StateText(s))
		wantStateCode(t, "ReadState", got, code, s, impl.OK)
		wantBool(t, "SameState", impl.SameState(got, s), true)
	}
}

// rawText writes a state as StateText does, valid or not.
func rawText(s impl.State) string {
	var out strings.Builder
	for _, row := range [][6]float32{s.X, s.S[0], s.S[1], s.S[2], s.S[3], s.S[4], s.S[5]} {
		for i, a := range row {
			out.WriteString(impl.NumberText(a))
			out.WriteByte(" \n"[i/5])
		}
	}
	return out.String()
}

func wantNoState(t *testing.T, what, text string) {
	t.Helper()
	s, code := impl.ReadState(text)
	wantStateCode(t, fmt.Sprintf("ReadState, %s: %.60q", what, text), s, code, impl.State{}, impl.ErrSyntax)
}

func TestTextsOfStatesThatAreNotValid(t *testing.T) {
	for _, bad := range badStates() {
		if text := impl.StateText(bad); text != "" {
			t.Errorf("StateText of a state that is not valid: %q", text)
		}
		wantNoState(t, "not valid", rawText(bad))
	}
	got, code := impl.ReadState(rawText(ones(t)))
	wantStateCode(t, "ReadState of a valid one", got, code, ones(t), impl.OK)
}

func TestNoTextsOfStates(t *testing.T) {
	const n = "\n"
	const row = "00000000 00000000 00000000 00000000 00000000 00000000"
	const six = row + n + row + n + row + n + row + n + row + n + row + n
	const five = "00000000 00000000 00000000 00000000 00000000"
	for _, text := range []string{
		"", n, n + n + n + n + n + n + n, row, row + n, six, six + row, six + row + n + n, n + six + row + n, six + n + row + n, six + row + n + row + n,
		six + row + " ", six + row + " \n", six + " " + row + n, six + row + n + " ", six + row + "\r\n", six + row + "\x00", six + row + n + "\x00", " " + six + row + n,
		six + five + n, six + five + " \n", six + five + " 0000000\n", six + five + " 000000000\n", six + row + " 00000000\n", five + n + six + "00000000\n",
		six + five + "\t00000000\n", six + five + "  00000000\n", six + five + "\u00a000000000\n", six + five + "\n00000000\n", six + five + " 0000000A\n", six + five + " 7FC00000\n",
		six + five + " 7fc00000\n", six + five + " 7fc00001\n", six + five + " 7f800000\n", six + five + " +0000000\n", six + five + " 0x000000\n", six + five + " 0000_000\n",
		strings.ReplaceAll(six+row+n, n, " "), strings.ReplaceAll(six+row+n, " ", n), strings.ReplaceAll(six+row+n, n, "\r\n"),
		strings.Repeat(n, 1000000), strings.Repeat(" ", 1000000), strings.Repeat(row+n, 10000),
	} {
		wantNoState(t, "no text", text)
	}
	got, code := impl.ReadState(six + row + n)
	wantStateCode(t, "ReadState of zeros", got, code, impl.State{}, impl.OK)
}

// TestTextsOfStatesWithOneOtherByte changes each byte of a text in turn. What is
// read all the same must have this text.
func TestTextsOfStatesWithOneOtherByte(t *testing.T) {
	for i := range len(textOfState) {
		for b := range 256 {
			other := []byte(textOfState)
			other[i] = byte(b)
			s, code := impl.ReadState(string(other))
			if code == impl.OK && (impl.StateText(s) != string(other) || !validState(s)) {
				t.Errorf("ReadState %q: read though it is no text", other)
			}
			if code != impl.OK {
				wantStateCode(t, "ReadState", s, code, impl.State{}, impl.ErrSyntax)
			}
		}
	}
}
