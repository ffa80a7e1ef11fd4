package tests

import (
	"fmt"
	"slices"
	"testing"

	"loop.example/g01204/impl"
)

func wantPacket(t *testing.T, list []impl.Reading, want ...byte) {
	t.Helper()
	data, code := impl.PacketOf(list)
	wantBytes(t, fmt.Sprint("PacketOf ", list), data, code, want, impl.OK)
	wantRead(t, want, list)
}

func wantRead(t *testing.T, data []byte, want []impl.Reading) {
	t.Helper()
	list, code := impl.ReadPacket(data)
	wantFeed(t, startOf("ReadPacket ", data), list, code, want, impl.OK)
}

func wantNoFeed(t *testing.T, what string, data []byte, want int64) {
	t.Helper()
	list, code := impl.ReadPacket(data)
	wantFeed(t, startOf("ReadPacket, ", what, ", ", data), list, code, nil, want)
}

// checked appends the check that data should have.
func checked(data []byte) []byte {
	check := sumOfBytes(data) % 65521
	return append(slices.Clip(data), byte(check%256), byte(check/256))
}

// heaviest returns the full feed whose bytes have a great sum.
func heaviest() []impl.Reading {
	list := fullFeed(0x3affff00-255*256+255, 256)
	for i := range list {
		list[i].Values = impl.Counts{-1, -1, -1}
	}
	return list
}

func TestPackets(t *testing.T) {
	wantPacket(t, nil, 'R', 'D', 0, 0, 150, 0)
	wantPacket(t, []impl.Reading{{Time: 0x01020304, Values: impl.Counts{0x0506, -1, -32768}}},
		'R', 'D', 1, 0, 4, 3, 2, 1, 6, 5, 255, 255, 0, 128, 0x2a, 0x03)
	wantPacket(t, []impl.Reading{{}, {Time: 1000000000, Values: impl.Counts{32767, -2, 256}}},
		'R', 'D', 2, 0, 0, 0, 0, 0, 0, 0, 0, 0, 0, 0, 0, 0xca, 0x9a, 0x3b, 255, 127, 254, 255, 0, 1, 0xb3, 0x05)
	data, code := impl.PacketOf(fullFeed(0, 1))
	wantBool(t, "a full packet", len(data) == 2566 && data[2] == 0 && data[3] == 1 && code == impl.OK, true)
	each(badFeeds(), func(what string, list []impl.Reading) {
		data, code := impl.PacketOf(list)
		wantBytes(t, "PacketOf, "+what, data, code, nil, impl.ErrInvalid)
	})
}

func TestPacketsAreReadAgain(t *testing.T) {
	d := &dice{seed: 130}
	for i := range 3000 {
		list := d.aFeed(256, []int{1, 300, 3900000}[i%3])
		data, code := impl.PacketOf(list)
		wantBytes(t, fmt.Sprint("PacketOf ", list), data, code, packetOf(list), impl.OK)
		wantRead(t, data, list)
	}
}

// TestChecks has sums around the modulus, also one that fits into two bytes, but is greater.
func TestChecks(t *testing.T) {
	list := heaviest()
	data, code := impl.PacketOf(list)
	wantBool(t, "a sum of several times the modulus", sumOfBytes(data) > 6*65521, true)
	wantBytes(t, "PacketOf, a great sum", data, code, packetOf(list), impl.OK)
	wantRead(t, data, list)
	seen := map[int64]bool{}
	for i := 30; i < 50; i++ {
		for k := -2000; k < 2000; k++ {
			list := heaviest()[:i]
			list[0].Values[0] = int16(k)
			data := packetOf(list)
			if over := sumOfBytes(data[:len(data)-2]) - 65521; over >= -20 && over <= 20 && !seen[over] {
				seen[over] = true
				got, code := impl.PacketOf(list)
				wantBytes(t, fmt.Sprint("PacketOf, the modulus and ", over), got, code, data, impl.OK)
				wantRead(t, data, list)
				if over >= 0 && over < 15 {
					plain := slices.Clone(data)
					plain[len(data)-2], plain[len(data)-1] = byte(65521+over), 255
					wantNoFeed(t, "a check that is not below the modulus", plain, impl.ErrProof)
				}
			}
		}
	}
	for _, over := range []int64{-1, 0, 1, 14, 15} {
		wantBool(t, fmt.Sprint("a sum of the modulus and ", over), seen[over], true)
	}
}

func TestPacketsThatAreTooLong(t *testing.T) {
	full := packetOf(fullFeed(0, 1))
	wantRead(t, full, fullFeed(0, 1))
	for _, count := range []int{1, 2, 10, 1000000} {
		wantNoFeed(t, "too long", append(slices.Clip(full), make([]byte, count)...), impl.ErrRange)
		wantNoFeed(t, "too long, and no packet", make([]byte, 2566+count), impl.ErrRange)
	}
	wantNoFeed(t, "as long as may be", make([]byte, 2566), impl.ErrSyntax)
	long := packetOf(append(fullFeed(0, 1), at(256, 1)))
	wantNoFeed(t, "a reading too many", long, impl.ErrRange)
	wantNoFeed(t, "a reading that is told, but not there", append(long[:2564], 0, 0), impl.ErrSyntax)
}

// TestPacketsOfNoFeed has each fault with a good check, and with a bad one.
func TestPacketsOfNoFeed(t *testing.T) {
	none := func(what string, body []byte) {
		t.Helper()
		data := checked(body)
		wantNoFeed(t, what, data, impl.ErrSyntax)
		data[len(data)-1] ^= 1
		wantNoFeed(t, what+", with a bad check", data, impl.ErrSyntax)
	}
	body := func(list ...impl.Reading) []byte {
		data := packetOf(list)
		return data[:len(data)-2]
	}
	for i := range 6 {
		wantNoFeed(t, "too short", []byte{'R', 'D', 0, 0, 150}[:max(0, i-1)], impl.ErrSyntax)
	}
	for _, mark := range []string{"RE", "QD", "rd", "DR", "\x00\x00", "R\x00"} {
		none("another mark", append([]byte(mark), body(at(1, 2))[2:]...))
		none("another mark, no readings", append([]byte(mark), 0, 0))
	}
	for _, count := range []byte{0, 1, 3, 4, 255} {
		data := body(at(1, 2), at(2, 3))
		data[2] = count
		none("another number of readings", data)
	}
	data := body(at(1, 2), at(2, 3))
	data[3] = 1
	none("256 readings more", data)
	for cut := 1; cut <= 20; cut++ {
		data := body(at(1, 2), at(2, 3))
		none("cut off", data[:len(data)-cut])
		none("too much behind it", append(data, make([]byte, cut)...))
	}
	for _, list := range badFeeds() {
		if len(list) <= 256 && list[0].Time >= 0 {
			none(fmt.Sprint("no feed ", list), body(list...))
		}
	}
	for _, time := range []int64{1000000001, 1<<31 - 1, 1 << 31, 1<<32 - 1} {
		none("no time", body(at(time, 1)))
	}
	wantRead(t, checked(body(at(1000000000, 1))), []impl.Reading{at(1000000000, 1)})
}

func TestPacketsWithAnotherCheck(t *testing.T) {
	for _, list := range [][]impl.Reading{nil, {at(0, 0)}, {at(3, 1), at(5, -2)}, fullFeed(0, 1), heaviest()} {
		data := packetOf(list)
		end := len(data) - 2
		for by := 1; by < 65536; by += 1 + by%300 {
			other := slices.Clone(data)
			check := int(data[end]) + 256*int(data[end+1]) + by
			other[end], other[end+1] = byte(check), byte(check>>8)
			wantNoFeed(t, fmt.Sprint("another check, by ", by), other, impl.ErrProof)
		}
	}
}

// TestPacketsWithAnotherByte changes each byte: the feed is another one, and the check says so.
func TestPacketsWithAnotherByte(t *testing.T) {
	list := []impl.Reading{at(0, 5), at(300, -7), at(70000, 32), at(20000000, 1)}
	data := packetOf(list)
	for i := range data {
		for by := 1; by < 256; by++ {
			other := slices.Clone(data)
			other[i] += byte(by)
			got, code := impl.ReadPacket(other)
			want := impl.ErrProof
			if i < 4 || !validFeed(feedIn(other)) {
				want = impl.ErrSyntax
			}
			wantFeed(t, fmt.Sprintf("byte %d changed by %d", i, by), got, code, nil, int64(want))
		}
	}
}

// feedIn returns the readings of a packet, whose head and length are right.
func feedIn(data []byte) []impl.Reading {
	var list []impl.Reading
	for i := 4; i+2 < len(data); i += 10 {
		number := func(k, count int) int64 {
			n := int64(0)
			for j := range count {
				n += int64(data[i+k+j]) << (8 * j)
			}
			return n
		}
		r := impl.Reading{Time: number(0, 4)}
		for j := range r.Values {
			r.Values[j] = int16(number(4+2*j, 2))
		}
		list = append(list, r)
	}
	return list
}

// TestAnyBytes reads bytes of any kind, and packets that have been hurt: what is
// read has the packet that it was read from.
func TestAnyBytes(t *testing.T) {
	d := &dice{seed: 131}
	found := map[int64]int{}
	for range 20000 {
		data := packetOf(d.aFeed(5, 20))
		for range d.below(3) {
			i := d.below(len(data))
			switch d.below(4) {
			case 0:
				data[i] ^= 1 << d.below(8)
			case 1:
				data = slices.Delete(data, i, i+1)
			case 2:
				data = slices.Insert(data, i, byte(d.next()))
			case 3:
				j := d.below(len(data))
				data[i], data[j] = data[j], data[i]
			}
		}
		list, code := impl.ReadPacket(data)
		found[code]++
		if code != impl.OK {
			wantFeed(t, "what is not read", list, code, nil, code)
			continue
		}
		again, code := impl.PacketOf(list)
		wantBytes(t, "what is read", again, code, data, impl.OK)
	}
	wantBool(t, fmt.Sprint("packets of all kinds ", found), found[impl.OK] > 1000 && found[impl.ErrSyntax] > 1000 && found[impl.ErrProof] > 1000 && len(found) == 3, true)
}
