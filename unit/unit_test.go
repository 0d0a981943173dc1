package unit_test

import (
	"math"
	"math/rand"
	"testing"

	"archivist/unit"
)

const top = int64(math.MaxInt64)

// TestDuration (P3.1) has durations.
func TestDuration(t *testing.T) {
	for s, want := range map[string]int64{
		"1h": 3600000000000, "1m": 60000000000, "1s": 1000000000, "1ms": 1000000, "1us": 1000, "1ns": 1,
		"0s": 0, "0h": 0, "0h0ns": 0, "5m": 300000000000, "90m": 5400000000000, "1h30m": 5400000000000,
		"1h2m3s4ms5us6ns": 3723004005006, "2s1500ms": 3500000000, "1m1ms": 60001000000,
		"9223372036854775807ns": top, "2562047h": 2562047 * 3600000000000, "2562047h47m16s854ms775us807ns": top,
	} {
		if got, ok := unit.Duration(s); got != want || !ok {
			t.Errorf("%s: %d %t", s, got, ok)
		}
	}
}

// TestNoDuration (P3.1) has what is no duration, or would wrap.
func TestNoDuration(t *testing.T) {
	for _, s := range []string{
		"", "s", "5", "0", "-1s", "1h-1m", "01s", "00s", "+1s", " 1s", "1s ", "1 s", "1.5s", "1d", "1S", "1sec", "5mss", "1hh", "1µs",
		"1s1h", "1m1h", "1s1s", "1ns1us", "1ms1s", "1h1h", "1h5", "1h5mx", "h1", "1h,1m", "1B", "1s\x00",
		"9223372036854775808ns", "2562048h", "2562047h47m16s854ms775us808ns", "9223372036854775807ns1ns", "9223372036854775807h",
		"9223372036854775807us", "99999999999999999999s", "1h9223372036854775807ns",
	} {
		if got, ok := unit.Duration(s); got != 0 || ok {
			t.Errorf("%q: %d %t", s, got, ok)
		}
	}
}

// TestSpan (P3.2) has numbers, and what is below 0.
func TestSpan(t *testing.T) {
	for n, want := range map[int64]string{
		0: "0s", 1: "1ns", 999: "999ns", 1000: "1us", 1001: "1us1ns", 1000000: "1ms", 1500000000: "1s500ms", 59000000000: "59s",
		60000000000: "1m", 5400000000000: "1h30m", 3600000000001: "1h1ns", 90000000000000: "25h", top: "2562047h47m16s854ms775us807ns",
	} {
		if got, ok := unit.Span(n); got != want || !ok {
			t.Errorf("%d: %s %t", n, got, ok)
		}
	}
	for _, n := range []int64{-1, -3600000000000, math.MinInt64} {
		if got, ok := unit.Span(n); got != "" || ok {
			t.Errorf("%d: %s %t", n, got, ok)
		}
	}
}

// TestBytes (P3.3) has sizes, and what is none.
func TestBytes(t *testing.T) {
	for s, want := range map[string]int64{
		"0B": 0, "0GB": 0, "1B": 1, "1KB": 1024, "1MB": 1048576, "1GB": 1073741824, "1024B": 1024, "3000KB": 3072000,
		"9223372036854775807B": top, "8589934591GB": 8589934591 << 30,
	} {
		if got, ok := unit.Bytes(s); got != want || !ok {
			t.Errorf("%s: %d %t", s, got, ok)
		}
	}
	for _, s := range []string{
		"", "B", "5", "-1B", "01B", "1b", "1kb", "1Kb", "1K", "1TB", "1BB", "1 KB", "1KB ", " 1KB", "1KB1B", "1GB1MB", "1.5KB", "1s",
		"9223372036854775808B", "8589934592GB", "9007199254740992KB", "9223372036854775807KB", "1KB\n",
	} {
		if got, ok := unit.Bytes(s); got != 0 || ok {
			t.Errorf("%q: %d %t", s, got, ok)
		}
	}
}

// TestSize (P3.3) has numbers, and what is below 0.
func TestSize(t *testing.T) {
	for n, want := range map[int64]string{
		0: "0B", 1: "1B", 1023: "1023B", 1024: "1KB", 1025: "1025B", 1536: "1536B", 2048: "2KB", 1048576: "1MB", 1049600: "1025KB",
		1073741824: "1GB", 1 << 40: "1024GB", 1 << 62: "4294967296GB", top: "9223372036854775807B",
	} {
		if got, ok := unit.Size(n); got != want || !ok {
			t.Errorf("%d: %s %t", n, got, ok)
		}
	}
	for _, n := range []int64{-1, -1024, math.MinInt64} {
		if got, ok := unit.Size(n); got != "" || ok {
			t.Errorf("%d: %s %t", n, got, ok)
		}
	}
}

// TestThereAndBack (P3.4) reads what is told of a number as that number.
func TestThereAndBack(t *testing.T) {
	rnd := rand.New(rand.NewSource(3))
	for range 5000 {
		n := int64(rnd.Uint64()>>1) >> rnd.Intn(63)
		if rnd.Intn(4) == 0 {
			n &= -1 << rnd.Intn(40)
		}
		span, _ := unit.Span(n)
		if got, ok := unit.Duration(span); got != n || !ok {
			t.Fatalf("%s of %d: %d %t", span, n, got, ok)
		}
		size, _ := unit.Size(n)
		if got, ok := unit.Bytes(size); got != n || !ok {
			t.Fatalf("%s of %d: %d %t", size, n, got, ok)
		}
	}
}

// TestToldOtherwise (P3.4) has durations whose parts are greater than they need be.
func TestToldOtherwise(t *testing.T) {
	for s, want := range map[string]string{"90m": "1h30m", "60s": "1m", "1000ns": "1us", "1h60m": "2h", "0h": "0s", "1h0m1s": "1h1s", "1500ms1000us": "1s501ms", "26h": "26h"} {
		n, ok := unit.Duration(s)
		if got, _ := unit.Span(n); got != want || !ok {
			t.Errorf("%s: %s", s, got)
		}
	}
}
