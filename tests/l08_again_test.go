package tests

import (
	"fmt"
	"math"
	"regexp"
	"slices"
	"strconv"
	"strings"

	"loop.example/g01204/impl"
)

// Chapter 8 reckoned once more: lines are told apart by patterns, and repeats are
// compiled by a function that calls itself; what is done with states goes by
// chapters 3 and 4 as they are reckoned in l03_again_test.go and l04_again_test.go.

const (
	patternOfWhole    = `(0|[1-9][0-9]{0,5})`
	patternOfFraction = `(-?(?:0|[1-9][0-9]{0,5})(?:/(?:2|4|8|16|32|64|128|256|512|1024))?)`
	patternOfThree    = patternOfFraction + ` ` + patternOfFraction + ` ` + patternOfFraction
)

var (
	fractionPattern = regexp.MustCompile(`^` + patternOfFraction + `$`)
	linePatterns    = []*regexp.Regexp{
		regexp.MustCompile(`^(rate|fix|hold|range|repeat) ` + patternOfWhole + `$`),
		regexp.MustCompile(`^(start|beacon) ` + patternOfThree + `$`),
		regexp.MustCompile(`^(move) ` + patternOfThree + ` ` + patternOfWhole + `$`),
		regexp.MustCompile(`^(end)$`),
	}
)

// fractionOf returns the fraction with a text, and reports whether there is one.
func fractionOf(text string) (float32, bool) {
	if !fractionPattern.MatchString(text) {
		return 0, false
	}
	above, below, _ := strings.Cut(text+"/1", "/")
	a, _ := strconv.ParseFloat(above, 64)
	by, _ := strconv.ParseFloat(strings.Split(below, "/")[0], 64)
	if a == 0 {
		return 0, true // not -0
	}
	return float32(a / by), true
}

// missionMaker compiles lines.
type missionMaker struct {
	m     impl.Mission
	fix   int64
	lines []string
}

// mistake is an error in a line.
type mistake struct{ line, code int64 }

// wordsOf returns the words of a line, or just "" if it is none.
func wordsOf(line string) []string {
	for _, pattern := range linePatterns {
		if words := pattern.FindStringSubmatch(line); words != nil {
			return words[1:]
		}
	}
	return []string{""}
}

// block compiles lines up to the end of their repeat, or of the text, and returns
// the index of the line behind.
func (k *missionMaker) block(at, deep int) (int, *mistake) {
	for ; at < len(k.lines); at++ {
		words := wordsOf(k.lines[at])
		if words[0] == "end" && deep > 0 {
			return at + 1, nil
		}
		code := k.take(words)
		if words[0] != "repeat" {
			if code != impl.OK {
				return 0, &mistake{int64(at), code}
			}
			continue
		}
		if code == impl.OK && deep == 3 {
			code = impl.ErrLimit
		}
		if code != impl.OK {
			return 0, &mistake{int64(at), code}
		}
		first := at + 1
		times, _ := strconv.Atoi(words[1])
		for range times {
			behind, wrong := k.block(first, deep+1)
			if wrong != nil {
				return 0, wrong
			}
			at = behind - 1
		}
	}
	if deep > 0 {
		return 0, &mistake{int64(len(k.lines)), impl.ErrState}
	}
	return at, nil
}

// take compiles the words of a line, but for its repeating.
func (k *missionMaker) take(words []string) int64 {
	n, _ := strconv.ParseInt(words[len(words)-1], 10, 64)
	var v impl.Vec
	if len(words) > 3 {
		for i := range v {
			v[i], _ = fractionOf(words[1+i])
		}
	}
	legs := len(k.m.Legs)
	switch word := words[0]; {
	case word == "":
		return impl.ErrSyntax
	case word == "rate" && (n < 1 || n > 64), word == "fix" && n > 400, word == "repeat" && (n < 1 || n > 16),
		(word == "move" || word == "hold") && (n < 1 || n > 400), word == "range" && n >= int64(len(k.m.Beacons)):
		return impl.ErrRange
	case word == "beacon" && len(k.m.Beacons) == 6, (word == "move" || word == "hold") && (legs == 64 || ticksAgain(k.m)+n > 400):
		return impl.ErrLimit
	case (word == "rate" || word == "start") && legs > 0, word == "range" && (legs == 0 || k.m.Legs[legs-1].Beacon != -1), word == "end":
		return impl.ErrState
	}
	switch words[0] {
	case "rate":
		k.m.Rate = n
	case "start":
		k.m.Start = v
	case "beacon":
		k.m.Beacons = append(k.m.Beacons, v)
	case "fix":
		k.fix = n
	case "range":
		k.m.Legs[legs-1].Beacon = n
	case "move", "hold":
		k.m.Legs = append(k.m.Legs, impl.Leg{Ticks: n, Velocity: v, Fix: k.fix, Beacon: -1})
	}
	return impl.OK
}

// compiled returns the mission of a text, and the line and the code of an error.
func compiled(text string) (impl.Mission, int64, int64) {
	lines := strings.Split(text, "\n")
	if lines[len(lines)-1] == "" {
		lines = lines[:len(lines)-1]
	}
	if len(text) > 4000 || len(lines) > 200 {
		return impl.Mission{}, 0, impl.ErrRange
	}
	k := missionMaker{m: impl.Mission{Rate: 8}, lines: lines}
	if _, wrong := k.block(0, 0); wrong != nil {
		return impl.Mission{}, wrong.line, wrong.code
	}
	return k.m, 0, impl.OK
}

// finiteVecs reports whether all numbers of vectors are finite.
func finiteVecs(list ...impl.Vec) bool {
	return !slices.ContainsFunc(list, func(v impl.Vec) bool { return !finiteNumbers(v[:]...) })
}

// validBeginning reports whether missions and logs may begin so.
func validBeginning(rate int64, start impl.Vec, beacons []impl.Vec) bool {
	return rate > 0 && rate < 65 && finiteVecs(start) && len(beacons) < 7 && finiteVecs(beacons...)
}

// ticksAgain returns the number of ticks of a mission.
func ticksAgain(m impl.Mission) int64 {
	ticks := int64(0)
	for _, x := range m.Legs {
		ticks += x.Ticks
	}
	return ticks
}

func validMission(m impl.Mission) bool {
	for _, x := range m.Legs {
		if x.Ticks < 1 || x.Ticks > 400 || x.Fix < 0 || x.Fix > 400 || x.Beacon < -1 || x.Beacon >= int64(len(m.Beacons)) || !finiteVecs(x.Velocity) {
			return false
		}
	}
	return validBeginning(m.Rate, m.Start, m.Beacons) && len(m.Legs) < 65 && ticksAgain(m) < 401
}

// validEntry reports whether a log with so many beacons may have an entry.
func validEntry(beacons int, e impl.Entry) bool {
	switch e.Kind {
	case impl.EnTick:
		return sameEntry(e, impl.Entry{Kind: 1})
	case impl.EnMove:
		return sameEntry(e, impl.Entry{Kind: 2, V: e.V}) && finiteVecs(e.V)
	case impl.EnFix:
		return sameEntry(e, impl.Entry{Kind: 3, Counts: e.Counts})
	case impl.EnRange:
		return sameEntry(e, impl.Entry{Kind: 4, Beacon: e.Beacon, Distance: e.Distance}) && isFinite(e.Distance) && e.Beacon >= 0 && e.Beacon < int64(beacons)
	}
	return false
}

func validLog(l impl.Log) bool {
	if len(l.Entries) > 1200 || !validBeginning(l.Rate, l.Start, l.Beacons) {
		return false
	}
	return !slices.ContainsFunc(l.Entries, func(e impl.Entry) bool { return !validEntry(len(l.Beacons), e) })
}

func sameEntry(e, d impl.Entry) bool {
	return e.Kind == d.Kind && sameVec(e.V, d.V) && e.Counts == d.Counts && e.Beacon == d.Beacon && same(e.Distance, d.Distance)
}

func sameLeg(x, y impl.Leg) bool {
	return x.Ticks == y.Ticks && x.Fix == y.Fix && x.Beacon == y.Beacon && sameVec(x.Velocity, y.Velocity)
}

func sameMission(m, n impl.Mission) bool {
	return m.Rate == n.Rate && sameVec(m.Start, n.Start) && slices.EqualFunc(m.Beacons, n.Beacons, sameVec) && slices.EqualFunc(m.Legs, n.Legs, sameLeg)
}

func sameLog(l, k impl.Log) bool {
	return l.Rate == k.Rate && sameVec(l.Start, k.Start) && slices.EqualFunc(l.Beacons, k.Beacons, sameVec) && slices.EqualFunc(l.Entries, k.Entries, sameEntry)
}

// missionLike returns a mission that shares nothing with m.
func missionLike(m impl.Mission) impl.Mission {
	m.Beacons, m.Legs = slices.Clone(m.Beacons), slices.Clone(m.Legs)
	return m
}

// logLike returns a log that shares nothing with l.
func logLike(l impl.Log) impl.Log {
	l.Beacons, l.Entries = slices.Clone(l.Beacons), slices.Clone(l.Entries)
	return l
}

// trackAgain returns the places of a valid mission.
func trackAgain(m impl.Mission) ([]impl.Vec, int64) {
	at := m.Start
	track := []impl.Vec{at}
	for _, x := range m.Legs {
		for range x.Ticks {
			for i := range at {
				at[i] = sum(at[i], product(x.Velocity[i], quotient(1, float32(m.Rate))))
			}
			track = append(track, at)
		}
	}
	if !finiteVecs(track...) {
		return nil, impl.ErrState
	}
	return track, impl.OK
}

// sensorOfFixes is the sensor that FixSensor returns.
func sensorOfFixes() impl.Sensor {
	return impl.Sensor{Scale: impl.Vec{0.0625, 0.0625, 0.0625}, Every: 1}
}

// farBetween returns how far two points are apart.
func farBetween(u, v impl.Vec) float32 {
	return root(along(0, 2, func(k int) float32 {
		return product(difference(u[k], v[k]), difference(u[k], v[k]))
	}))
}

// shakeOf returns by how much a distance is shaken, and the seed that comes next.
func shakeOf(seed uint32) (float32, uint32) {
	seed = uint32((uint64(seed)*1664525 + 1013904223) % (1 << 32))
	return quotient(float32(int(seed>>16)%9-4), 16), seed
}

// logged returns the log of a mission.
func logged(m impl.Mission, seed uint32) (impl.Log, int64) {
	if !validMission(m) {
		return impl.Log{}, impl.ErrInvalid
	}
	track, code := trackAgain(m)
	if code != impl.OK {
		return impl.Log{}, code
	}
	l := impl.Log{Rate: m.Rate, Start: m.Start, Beacons: m.Beacons}
	put := func(e impl.Entry) { l.Entries = append(l.Entries, e) }
	gone := 0
	for _, x := range m.Legs {
		put(impl.Entry{Kind: impl.EnMove, V: x.Velocity})
		untilFix := x.Fix
		for range x.Ticks {
			gone++
			put(impl.Entry{Kind: impl.EnTick})
			if untilFix--; untilFix == 0 {
				var c impl.Counts
				c, seed = shaken(countsOf(sensorOfFixes(), track[gone]), seed, 4)
				put(impl.Entry{Kind: impl.EnFix, Counts: c})
				untilFix = x.Fix
			}
		}
		if x.Beacon >= 0 {
			var shake float32
			shake, seed = shakeOf(seed)
			far := sum(farBetween(track[gone], m.Beacons[x.Beacon]), shake)
			if !isFinite(far) {
				return impl.Log{}, impl.ErrState
			}
			put(impl.Entry{Kind: impl.EnRange, Beacon: x.Beacon, Distance: far})
		}
	}
	return l, impl.OK
}

// firstOf returns the state before the first entry of a valid log.
func firstOf(l impl.Log) impl.State {
	s := impl.State{X: impl.Six{l.Start[0], l.Start[1], l.Start[2]}}
	for i := range 6 {
		s.S[i][i] = []float32{0.5, 1}[i/3]
	}
	return s
}

// clueOf is the clue of the number of X with an index.
func clueOf(index int, z, noise float32) impl.Clue {
	r := impl.Clue{Z: z, Noise: noise}
	r.H[index] = 1
	return r
}

// learntBy returns the state that has learnt from a clue, if it is not far off.
func learntBy(s impl.State, r impl.Clue) (impl.State, bool, int64) {
	gate, code := gateOf(s, r)
	if code == impl.OK && gate > 9 {
		return s, false, impl.OK
	}
	next := impl.State{}
	if code == impl.OK {
		next, code = updated(s, r)
	}
	return next, code == impl.OK, code
}

// takenBy returns the state behind an entry, and whether it has been taken.
func takenBy(l impl.Log, s impl.State, e impl.Entry) (impl.State, bool, int64) {
	if !validLog(l) || !validState(s) || !validEntry(len(l.Beacons), e) {
		return impl.State{}, false, impl.ErrInvalid
	}
	code := int64(impl.OK)
	switch e.Kind {
	case impl.EnTick:
		s, code = predicted(s, quotient(1, float32(l.Rate)), impl.Vec{0.25, 0.25, 0.25})
	case impl.EnMove:
		for i := 0; i < 3 && code == impl.OK; i++ {
			s, code = updated(s, clueOf(3+i, e.V[i], 0.125))
		}
	case impl.EnFix:
		z, refused := vecOfCounts(sensorOfFixes(), e.Counts), 0
		for i := range 3 {
			next, taken, wrong := learntBy(s, clueOf(i, z[i], 0.5))
			if wrong != impl.OK {
				return impl.State{}, false, wrong
			}
			if !taken {
				refused++
			}
			s = next
		}
		return s, refused == 0, impl.OK
	case impl.EnRange:
		r, wrong := rangeClue(s, l.Beacons[e.Beacon], e.Distance, 0.5)
		if wrong != impl.OK {
			return s, false, impl.OK
		}
		return learntBy(s, r)
	}
	if code != impl.OK {
		return impl.State{}, false, code
	}
	return s, true, impl.OK
}

// replayed returns the state behind entries of a valid log, and the indices of
// those that have not been taken.
func replayed(l impl.Log, s impl.State, from, to int) (impl.State, []int64, int64) {
	var refused []int64
	for i, e := range l.Entries {
		if i < from || i >= to {
			continue
		}
		next, taken, code := takenBy(impl.Log{Rate: l.Rate, Beacons: l.Beacons}, s, e)
		if code != impl.OK {
			return impl.State{}, nil, code
		}
		if !taken {
			refused = append(refused, int64(i))
		}
		s = next
	}
	return s, refused, impl.OK
}

// missAgain returns how far off the state is at the end of a mission.
func missAgain(m impl.Mission, seed uint32) (float32, int64) {
	l, code := logged(m, seed)
	if code != impl.OK {
		return 0, code
	}
	s, _, code := replayed(l, firstOf(l), 0, len(l.Entries))
	if code != impl.OK {
		return 0, code
	}
	track, _ := trackAgain(m)
	miss := farBetween(impl.Vec(s.X[:3]), track[len(track)-1])
	if !isFinite(miss) {
		return 0, impl.ErrState
	}
	return miss, impl.OK
}

// rawLogText writes a log as LogText does, valid or not; fields that an entry does
// not use are left out.
func rawLogText(l impl.Log) string {
	var out strings.Builder
	number := func(list ...float32) string {
		var words []string
		for _, a := range list {
			if a != a {
				a = nan
			}
			words = append(words, fmt.Sprintf("%08x", math.Float32bits(a)))
		}
		return strings.Join(words, " ")
	}
	fmt.Fprintf(&out, "log %d %s\n", l.Rate, number(l.Start[:]...))
	for _, at := range l.Beacons {
		fmt.Fprintf(&out, "beacon %s\n", number(at[:]...))
	}
	for _, e := range l.Entries {
		switch e.Kind {
		case impl.EnTick:
			fmt.Fprintf(&out, "tick\n")
		case impl.EnMove:
			fmt.Fprintf(&out, "move %s\n", number(e.V[:]...))
		case impl.EnFix:
			fmt.Fprintf(&out, "fix %d %d %d\n", e.Counts[0], e.Counts[1], e.Counts[2])
		case impl.EnRange:
			fmt.Fprintf(&out, "range %d %s\n", e.Beacon, number(e.Distance))
		default:
			fmt.Fprintf(&out, "kind %d\n", e.Kind)
		}
	}
	return out.String()
}
