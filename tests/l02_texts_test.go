package tests

import (
	"fmt"
	"strings"
	"testing"

	"loop.example/g01204/impl"
)

func TestTextsOfTurns(t *testing.T) {
	q := impl.Turn{1, otherNaN, minusZero, -2}
	const text = "3f800000 7fc00000 80000000 c0000000"
	if got := impl.TurnText(q); got != text {
		t.Errorf("TurnText: got %q, want %q", got, text)
	}
	d := &dice{seed: 51}
	for range 5000 {
		q := turnFrom(d.any)
		got, code := impl.ReadTurn(impl.TurnText(q))
		wantTurnCode(t, "ReadTurn", got, code, q, impl.OK)
		wantBool(t, "SameTurn", impl.SameTurn(got, q), true)
	}
}

func TestNoTextsOfTurns(t *testing.T) {
	const a = "3f800000"
	const three = a + " " + a + " " + a
	for _, text := range []string{
		"", " ", "   ", a, three, three + " ", three + " " + a + " ", " " + three + " " + a, three + " " + a + " " + a, three + "  " + a, a + "  " + three,
		three + "\t" + a, three + "\n" + a, three + "\u00a0" + a, three + a, three + " " + a + "\n", three + " " + a + "\r", three + " " + a + "\x00",
		three + " 3F800000", three + " 7FC00000", three + " 7fc00001", "ffc00000 " + three, a + " 7f800001 " + a + " " + a, three + " 3f80000", three + " 3f8000000",
		three + " 0x3f8000", three + " +3f80000", three + " 3f80_000", three + " 1.000000", three + " 3f80000g", strings.Repeat(" ", 1000000), strings.Repeat(a+" ", 100000),
	} {
		q, code := impl.ReadTurn(text)
		wantTurnCode(t, fmt.Sprintf("ReadTurn %.60q", text), q, code, impl.Turn{}, impl.ErrSyntax)
	}
}
