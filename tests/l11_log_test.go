package tests

import (
	"math"
	"slices"
	"strconv"
	"strings"
	"testing"

	"loop.example/stopover/impl"
)

// signed is a text with the first figures of its sum behind it, as a record ends.
func signed(text string) string {
	return text + sumOf(text)[:12] + ";"
}

// logOf writes records as the document says, without limits.
func logOf(records []string) string {
	log := ""
	for i, record := range records {
		log += signed(strconv.Itoa(i) + ":" + strconv.Itoa(len(record)) + ":" + record)
	}
	return log
}

// logLists are lists of records whose log has room for one more short one.
func logLists() [][]string {
	lists := [][]string{
		nil, {""}, {"", ""}, {"a record"}, {"a record", ""}, {"0:1:a", ";", ":", ";;::"}, {logOf([]string{"a", "b"})}, {"\x00", "\xff\xfe", "\n", "é"}, {allBytes(), allBytes()},
		slices.Repeat([]string{""}, 12), slices.Repeat([]string{"x"}, 120), {filled(8000)}, {filled(99), filled(100), filled(999), filled(1000)},
	}
	r := numbers{7}
	for range 40 {
		list := make([]string, r.below(14))
		for i := range list {
			list[i] = r.text(r.below(60))
		}
		lists = append(lists, list)
	}
	return lists
}

func checkRead(t *testing.T, log string, records []string, size int) {
	t.Helper()
	got, n := impl.LogRead(log)
	if !slices.Equal(got, records) || n != size {
		t.Errorf("log of %d bytes: %d records, %d bytes; not %d records, %d bytes", len(log), len(got), n, len(records), size)
	}
}

func TestP21AddAndRead(t *testing.T) {
	for i, records := range logLists() {
		log := logOf(records)
		checkRead(t, log, records, len(log))
		for _, record := range []string{"", "more", "1:1:a", "\x00;\xff:", filled(200)} {
			longer, ok := impl.LogAdd(log, record)
			all := append(slices.Clone(records), record)
			if !ok || longer != logOf(all) || !impl.LogOk(longer) {
				t.Errorf("list %d: %v %q", i, ok, longer)
			}
			checkRead(t, longer, all, len(longer))
		}
	}
}

func TestP21FromNothing(t *testing.T) {
	log, records := "", []string(nil)
	for i := range 200 {
		record := "record " + strconv.Itoa(i*i)
		longer, ok := impl.LogAdd(log, record)
		if !ok || !strings.HasPrefix(longer, log) || !impl.LogOk(longer) {
			t.Fatalf("record %d: %v", i, ok)
		}
		log, records = longer, append(records, record)
		checkRead(t, log, records, len(log))
	}
	if log != logOf(records) {
		t.Error("log")
	}
}

func TestP21EmptyLog(t *testing.T) {
	checkRead(t, "", nil, 0)
	if !impl.LogOk("") {
		t.Error("the empty log is right")
	}
	if log, ok := impl.LogAdd("", "abc"); !ok || log != signed("0:3:abc") {
		t.Errorf("%q %v", log, ok)
	}
}

func TestP21Limit(t *testing.T) {
	if impl.LogMaxText != 9000 {
		t.Fatal("limit")
	}
	first := logOf([]string{"first"})
	most := impl.LogMaxText - len(first) - len(signed("1:8000:"))
	full := logOf([]string{"first", filled(most)})
	if log, ok := impl.LogAdd(first, filled(most)); !ok || log != full || len(log) != impl.LogMaxText || !impl.LogOk(log) {
		t.Errorf("just full: %d bytes, %v", len(log), ok)
	}
	for _, record := range []string{filled(most + 1), filled(impl.LogMaxText), filled(100000)} {
		if log, ok := impl.LogAdd(first, record); ok || log != first {
			t.Errorf("one more byte: %d bytes, %v", len(log), ok)
		}
	}
	if log, ok := impl.LogAdd(full, ""); ok || log != full {
		t.Errorf("behind a full one: %d bytes, %v", len(log), ok)
	}
	over := logOf([]string{"first", filled(most + 1)})
	if impl.LogOk(over) {
		t.Error("a log of one byte too many is right")
	}
	checkRead(t, over, []string{"first", filled(most + 1)}, len(over))
	if log, ok := impl.LogAdd(over, ""); ok || log != over {
		t.Error("behind one that is too long")
	}
}

func TestP21ManyRecords(t *testing.T) {
	log, count := "", 0
	for {
		longer, ok := impl.LogAdd(log, "")
		if !ok {
			break
		}
		log = longer
		count++
	}
	records := make([]string, count)
	if log != logOf(records) || len(logOf(append(records, ""))) <= impl.LogMaxText {
		t.Errorf("%d records, %d bytes", count, len(log))
	}
	checkRead(t, log, records, len(log))
}

// Behind a right record stands one that has its own sum, but is not written just so.
func TestP21NoRecord(t *testing.T) {
	ahead := logOf([]string{"right"})
	for _, text := range []string{
		signed("01:1:a"), signed("1:01:a"), signed("+1:1:a"), signed("1:+1:a"), signed(" 1:1:a"), signed("1: 1:a"), signed("1:1 :a"), signed("0:1:a"), signed("2:1:a"), signed("-1:1:a"), signed("1:-1:a"), signed("1:-0:"),
		signed("1:2:a"), signed("1:0:a"), signed("1:1:"), signed("1::"), signed("1::a"), signed(":1:a"), signed("1:1"), signed("1"), signed(""), signed("x:1:a"), signed("1:x:a"), signed("1;1:a"), signed("1:1;a"), signed("11:1:a"), signed("1:0x1:a"),
		signed("1:99999999999999999999:a"), signed("1:9223372036854775807:a"), signed("1:18446744073709551617:a"), signed("1:-9223372036854775808:a"), signed("1:4294967297:a"), signed("4294967297:1:a"), signed("18446744073709551617:1:a"),
		"1:1:a" + sumOf("a")[:12] + ";", "1:1:a" + sumOf("1:1:a")[:11] + ";", "1:1:a" + sumOf("1:1:a")[:13] + ";", "1:1:a" + sumOf("1:1:a") + ";", "1:1:a" + sumOf("1:1:a")[52:] + ";", "1:1:a" + sumOf(ahead + "1:1:a")[:12] + ";",
		"1:1:a" + strings.ToUpper(sumOf("1:1:a")[:12]) + ";", "1:1:a" + sumOf("1:1:a")[:12] + ",", "1:1:a" + sumOf("1:1:a")[:12], "1:1:a" + sumOf("1:1:b")[:12] + ";", "1:1:a000000000000;", "1:1:a;", "1:1:a", " ", ";", "x", ahead, ":", "::", "\x00",
	} {
		checkRead(t, ahead+text, []string{"right"}, len(ahead))
		if impl.LogOk(ahead + text) {
			t.Errorf("%q is right", text)
		}
		for _, record := range []string{"", "more"} {
			if log, ok := impl.LogAdd(ahead+text, record); ok || log != ahead+text {
				t.Errorf("%q: %v", text, ok)
			}
		}
	}
}

// What is right again behind something wrong is not read.
func TestP21FirstWrongOneEnds(t *testing.T) {
	log := logOf([]string{"a", "b", "c"})
	one := len(log) / 3
	checkRead(t, log[:one]+log[2*one:], []string{"a"}, one)
	checkRead(t, log[one:], nil, 0)
	checkRead(t, "x"+log, nil, 0)
	checkRead(t, log[:one]+"x"+log[one:], []string{"a"}, one)
}

func TestP21EachByteCounts(t *testing.T) {
	records := []string{"first", "", "third one"}
	log := logOf(records)
	place := 0
	for i := range log {
		for place < len(records) && i >= len(logOf(records[:place+1])) {
			place++
		}
		for _, flip := range []byte{1, 2, 4, 8, 16, 32, 64, 128} {
			changed := []byte(log)
			changed[i] ^= flip
			checkRead(t, string(changed), records[:place], len(logOf(records[:place])))
			if impl.LogOk(string(changed)) {
				t.Errorf("byte %d by %d", i, flip)
			}
		}
	}
}

func TestP21NewMemory(t *testing.T) {
	log := logOf([]string{"a", "b", "c"})
	first, _ := impl.LogRead(log)
	second, _ := impl.LogRead(log)
	for i := range second[:cap(second)] {
		second[:cap(second)][i] = "changed"
	}
	if !slices.Equal(first, []string{"a", "b", "c"}) {
		t.Errorf("%q", first)
	}
}

func TestP22Torn(t *testing.T) {
	for i, records := range logLists() {
		log := logOf(records)
		for _, record := range []string{"", "a record", "3:1:a;"} {
			all := append(slices.Clone(records), record)
			whole := logOf(all)
			for bytes := -2; bytes <= len(whole)-len(log)+2; bytes++ {
				size := min(len(log)+max(bytes, 0), len(whole))
				torn := impl.LogTorn(log, record, bytes)
				if torn != whole[:size] {
					t.Errorf("list %d, %d bytes: %q", i, bytes, torn)
				}
				if size == len(whole) {
					checkRead(t, torn, all, len(whole))
				} else {
					checkRead(t, torn, records, len(log))
				}
			}
		}
	}
}

func TestP22TornEdges(t *testing.T) {
	log := logOf([]string{"a"})
	whole := logOf([]string{"a", "b"})
	for _, c := range []struct {
		log, record string
		bytes       int
		want        string
	}{
		{log, "b", math.MaxInt, whole}, {log, "b", math.MaxInt - len(log), whole}, {log, "b", math.MaxInt - len(log) + 1, whole}, {log, "b", 1 << 32, whole},
		{log, "b", math.MinInt, log}, {log, "b", -1, log}, {log, "b", -len(log), log}, {log, "b", 0, log}, {log, "b", 1, log + "1"},
		{"", "", math.MaxInt, logOf([]string{""})}, {"", "", 2, "0:"}, {"", "", -1, ""}, {"", "", 0, ""},
		{log + "x", "b", 5, log + "x"}, {log + "x", "b", math.MaxInt, log + "x"}, {log + "x", "b", -1, log + "x"}, {whole[:len(whole)-1], "b", 5, whole[:len(whole)-1]},
		{log, filled(9000), 5, log}, {log, filled(9000), math.MaxInt, log}, {log, filled(9000), -1, log},
	} {
		if torn := impl.LogTorn(c.log, c.record, c.bytes); torn != c.want {
			t.Errorf("%q, %d bytes: %q", c.log, c.bytes, torn)
		}
	}
}

func TestP23CutAnywhere(t *testing.T) {
	for _, records := range logLists() {
		log := logOf(records)
		for size, place := 0, 0; size <= len(log); size++ {
			for place < len(records) && size >= len(logOf(records[:place+1])) {
				place++
			}
			checkRead(t, log[:size], records[:place], len(logOf(records[:place])))
			if impl.LogOk(log[:size]) != (size == len(logOf(records[:place]))) {
				t.Errorf("cut at %d", size)
			}
		}
	}
}
