package tests

import (
	"fmt"
	"regexp"
	"slices"
	"strconv"
	"strings"

	"loop.example/g01204/impl"
)

// Chapter 9 reckoned once more: without goroutines, with maps on the wire in place
// of texts, and with maps as they are reckoned in l05_again_test.go.

func validFleet(f impl.Fleet) bool {
	for _, list := range f.Sights {
		for _, x := range list {
			_, code := cellOf(f.Side, x.At)
			if code != impl.OK || !positive(x.Weight) || x.Weight > 1000000 || !isTime(x.Time) {
				return false
			}
		}
		if len(list) >= 17 {
			return false
		}
	}
	return positive(f.Side) && isFinite(f.Gate) && !(f.Gate < 0) && len(f.Sights) > 0 && len(f.Sights) < 5
}

func validDeed(d impl.Deed) bool {
	for _, n := range []int64{d.A, d.B} {
		if n < 0 || n >= 1000 {
			return false
		}
	}
	return 0 < d.Kind && d.Kind < 8 && (d.Kind == 2 || d.B == 0)
}

var deedPattern = regexp.MustCompile(`^(?:(see|deliver|copy|drop|save|crash)|send (0|[1-9][0-9]{0,2})) (0|[1-9][0-9]{0,2})$`)

// deedOf returns the deed with a text, and reports whether there is one.
func deedOf(text string) (impl.Deed, bool) {
	parts := deedPattern.FindStringSubmatch(text)
	if parts == nil {
		return impl.Deed{}, false
	}
	last, _ := strconv.ParseInt(parts[3], 10, 64)
	if parts[1] == "" {
		first, _ := strconv.ParseInt(parts[2], 10, 64)
		return impl.Deed{Kind: impl.DdSend, A: first, B: last}, true
	}
	kinds := map[string]int64{"see": impl.DdSee, "deliver": impl.DdDeliver, "copy": impl.DdCopy, "drop": impl.DdDrop, "save": impl.DdSave, "crash": impl.DdCrash}
	return impl.Deed{Kind: kinds[parts[1]], A: last}, true
}

// textOfDeed returns the text of a valid deed.
func textOfDeed(d impl.Deed) string {
	words := []string{"", "see", "send", "deliver", "copy", "drop", "save", "crash"}
	if d.Kind == impl.DdSend {
		return fmt.Sprintf("send %d %d", d.A, d.B)
	}
	return fmt.Sprintf("%s %d", words[d.Kind], d.A)
}

// parcel is a map on its way.
type parcel struct {
	to int64
	m  impl.LandMap
}

// depot is a yard whose packets are parcels.
type depot struct {
	f            impl.Fleet
	minds, saved []impl.Mind
	wire         []parcel
}

func depotOf(f impl.Fleet) *depot {
	k := &depot{f: f}
	for range f.Sights {
		k.minds = append(k.minds, impl.Mind{Map: impl.LandMap{Side: f.Side}})
	}
	k.saved = slices.Clone(k.minds)
	return k
}

// open takes in what a parcel has.
func (k *depot) open(p parcel) {
	if m, code := mergedMaps(k.minds[p.to].Map, p.m); code == impl.OK {
		k.minds[p.to].Map = m
	}
}

// look lets a vehicle take its next sight.
func (k *depot) look(v int64) int64 {
	mind, list := k.minds[v], k.f.Sights[v]
	if mind.Taken >= int64(len(list)) {
		return impl.ErrState
	}
	x := list[mind.Taken]
	m, _, _, code := observed(mind.Map, x.At, x.Weight, x.Time, k.f.Gate)
	if code != impl.OK {
		return impl.ErrLimit
	}
	k.minds[v] = impl.Mind{Map: m, Taken: mind.Taken + 1}
	return impl.OK
}

// take does a deed, and returns its code.
func (k *depot) take(d impl.Deed) int64 {
	vehicles, packets := int64(len(k.minds)), int64(len(k.wire))
	switch d.Kind {
	case impl.DdSee, impl.DdSave, impl.DdCrash:
		if d.A >= vehicles {
			return impl.ErrRange
		}
	case impl.DdSend:
		if d.A >= vehicles || d.B >= vehicles || d.A == d.B {
			return impl.ErrRange
		}
		if packets >= 10 {
			return impl.ErrLimit
		}
	default:
		if d.A >= packets {
			return impl.ErrRange
		}
	}
	switch d.Kind {
	case impl.DdSee:
		return k.look(d.A)
	case impl.DdSend:
		k.wire = append(k.wire, parcel{d.B, k.minds[d.A].Map})
	case impl.DdSave:
		k.saved[d.A] = k.minds[d.A]
	case impl.DdCrash:
		k.minds[d.A] = k.saved[d.A]
	}
	if d.Kind == impl.DdDeliver || d.Kind == impl.DdCopy {
		k.open(k.wire[d.A])
	}
	if d.Kind == impl.DdDeliver || d.Kind == impl.DdDrop {
		k.wire = slices.Concat(k.wire[:d.A], k.wire[d.A+1:])
	}
	return impl.OK
}

// yard returns the yard that is now.
func (k *depot) yard() impl.Yard {
	y := impl.Yard{Minds: k.minds, Saved: k.saved}
	for _, p := range k.wire {
		y.Wire = append(y.Wire, impl.Packet{To: p.to, Text: rawMapText(p.m)})
	}
	return y
}

// agreed reports whether all maps are the same.
func (k *depot) agreed() bool {
	return !slices.ContainsFunc(k.minds, func(x impl.Mind) bool { return !sameMap(k.minds[0].Map, x.Map) })
}

// depotAfter returns the depot behind deeds, how many have been done, and the index
// and the code of the first one that has not, or -1.
func depotAfter(f impl.Fleet, deeds []impl.Deed) (k *depot, done, at, wrong int64) {
	k, at = depotOf(f), -1
	for i, d := range deeds {
		code := k.take(d)
		if code == impl.OK {
			done++
		} else if at < 0 {
			at, wrong = int64(i), code
		}
	}
	return k, done, at, wrong
}

// planAgain returns the texts of the deeds by which all vehicles agree.
func planAgain(f impl.Fleet, deeds []impl.Deed) ([]string, int64) {
	k, _, _, _ := depotAfter(f, deeds)
	var plan []string
	add := func(form string, list ...any) { plan = append(plan, fmt.Sprintf(form, list...)) }
	for range k.wire {
		add("drop 0")
	}
	for v := range f.Sights {
		for k.look(int64(v)) == impl.OK {
			add("see %d", v)
		}
	}
	for v := range f.Sights[1:] {
		add("send %d 0", v+1)
		add("deliver 0")
	}
	for v := range f.Sights[1:] {
		add("send 0 %d", v+1)
		add("deliver 0")
	}
	for v := range f.Sights {
		add("save %d", v)
	}
	if len(plan) > 200-len(deeds) {
		return nil, impl.ErrLimit
	}
	return plan, impl.OK
}

var marksPattern = regexp.MustCompile(`^marks ([0-3])$`)

// scriptAgain returns what is answered to a script.
func scriptAgain(f impl.Fleet, text string) (string, int64) {
	if len(text) >= 10001 {
		return "", impl.ErrRange
	}
	k, out, count := depotOf(f), "", 0
	for ; text != ""; count++ {
		line, rest, _ := strings.Cut(text, "\n")
		out, text = out+k.answer(line)+"\n", rest
	}
	if count >= 121 {
		return "", impl.ErrRange
	}
	return out, impl.OK
}

// answer returns what is answered to a line.
func (k *depot) answer(line string) string {
	names := map[int64]string{impl.OK: "ok", impl.ErrRange: "error range", impl.ErrState: "error state", impl.ErrLimit: "error limit"}
	if d, ok := deedOf(line); ok {
		return names[k.take(d)]
	}
	if line == "agreed" && k.agreed() {
		return "yes"
	}
	if line == "agreed" {
		return "no"
	}
	if parts := marksPattern.FindStringSubmatch(line); parts != nil {
		if v, _ := strconv.Atoi(parts[1]); v < len(k.minds) {
			return fmt.Sprint(len(k.minds[v].Map.Marks), " ", k.minds[v].Taken)
		}
	}
	return "what"
}

func sameMind(x, y impl.Mind) bool { return x.Taken == y.Taken && sameMap(x.Map, y.Map) }

func sameYard(x, y impl.Yard) bool {
	return slices.EqualFunc(x.Minds, y.Minds, sameMind) && slices.EqualFunc(x.Saved, y.Saved, sameMind) && slices.Equal(x.Wire, y.Wire)
}
