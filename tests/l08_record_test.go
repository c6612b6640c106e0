package tests

import (
	"fmt"
	"math"
	"regexp"
	"slices"
	"strings"
	"testing"

	"loop.example/g01923/impl"
)

var (
	sourcesOutOfRange  = slices.Concat(integersFarOutside, []int{-2, -1, 4, 5, 97, 255, 256})
	keysOutOfRange     = slices.Concat(integersFarOutside, []int{-99, -2, -1, 0, 100, 101, 999, 1<<32 + 1})
	versionsOutOfRange = slices.Concat(integersFarOutside, []int{-999, -2, -1, 0, 1000, 1001, 9999, 1<<32 + 1})
)

var (
	someSources  = []int{0, 1, 2, 3}
	someKeys     = []int{1, 2, 9, 10, 11, 19, 98, 99}
	someVersions = []int{1, 2, 9, 10, 99, 100, 101, 998, 999}
)

// textFields returns fields of the longest text and of all bytes of a field.
func textFields() []string {
	var all strings.Builder
	for c := byte(32); c <= 126; c++ {
		if c != '|' && c != ';' {
			all.WriteByte(c)
		}
	}
	s := all.String()
	return []string{s[:40], s[40:80], s[80:], strings.Repeat("~", impl.MaxText)}
}

// someFields are the fields of valid records.
func someFields() [][]string {
	return [][]string{
		{"Anna Smith", "Paris", "1980", "555 1234"},
		{"b", "B", "0", "-1"},
		// An empty field: first, in the middle, last, and all of them.
		{"", "Paris", "1980", "555"},
		{"Ann", "", "1980", "555"},
		{"Ann", "Paris", "", "555"},
		{"Ann", "Paris", "1980", ""},
		{"", "", "", "555"},
		{"Ann", "", "", ""},
		{"", "Paris", "", ""},
		{"", "", "", ""},
		// Spaces and marks, and what looks like other parts of a format.
		{" ", "  ", " x ", "'"},
		{"a1.2", ".", "a1", "1.2"},
		{"[,]", "=", "\\", "put delete"},
		textFields(),
	}
}

// badFields are lists of which no valid record is made.
func badFields() [][]string {
	bad := [][]string{
		nil, {}, {""}, {"Ann"}, {"", ""}, {"Ann", "Paris", "1980"}, {"", "", ""},
		{"", "", "", "", ""}, {"Ann", "Paris", "1980", "555", ""}, {"Ann", "Paris", "1980", "555", "x"},
		make([]string, 8), make([]string, 1000),
	}
	parts := []string{
		"|", ";", "a|b", "a;b", "|a", ";a", "a|", "a;", "||", ";|", "|||", strings.Repeat("x", 39) + ";",
		strings.Repeat("x", 41), strings.Repeat(" ", 41), strings.Repeat("x", 5000),
		"\n", "a\tb", "\x00", "\x1f", "\x7f", "\x80", "\xff", "é", "日本", "a\x00", "\xc3|",
	}
	for place := range impl.FieldCount {
		for _, part := range parts {
			for _, fields := range [][]string{{"Ann", "Paris", "1980", "555"}, {"", "", "", ""}} {
				fields[place] = part
				bad = append(bad, fields)
			}
		}
	}
	return bad
}

// validRecords have every combination of some sources, keys and versions, and
// all of someFields.
func validRecords() []impl.Record {
	var all []impl.Record
	fields := someFields()
	for _, source := range someSources {
		for _, key := range someKeys {
			for _, version := range someVersions {
				r := impl.Record{Source: source, Key: key, Version: version}
				r.Fields = slices.Clone(fields[len(all)%len(fields)])
				all = append(all, r)
			}
		}
	}
	for _, list := range fields {
		all = append(all, impl.Record{Source: 1, Key: 12, Version: 123, Fields: slices.Clone(list)})
	}
	return all
}

// invalidRecords differ from a valid one in one field of the struct or in all.
func invalidRecords() []impl.Record {
	valid := []string{"Ann", "Paris", "1980", "555"}
	all := []impl.Record{{}, {Source: -1}, {Source: math.MaxInt, Key: math.MaxInt, Version: math.MaxInt}}
	for _, source := range sourcesOutOfRange {
		all = append(all, impl.Record{Source: source, Key: 1, Version: 1, Fields: slices.Clone(valid)})
	}
	for _, key := range keysOutOfRange {
		all = append(all, impl.Record{Source: 0, Key: key, Version: 1, Fields: slices.Clone(valid)})
	}
	for _, version := range versionsOutOfRange {
		all = append(all, impl.Record{Source: 0, Key: 1, Version: version, Fields: slices.Clone(valid)})
	}
	for _, fields := range badFields() {
		all = append(all, impl.Record{Source: 0, Key: 1, Version: 1, Fields: fields})
		all = append(all, impl.Record{Source: 4, Key: 0, Version: 1000, Fields: fields})
	}
	return all
}

func areEqualRecords(a, b impl.Record) bool {
	return a.Source == b.Source && a.Key == b.Key && a.Version == b.Version && slices.Equal(a.Fields, b.Fields)
}

func recordText(r impl.Record) string {
	return fmt.Sprintf("%c%d.%d|%s", 'a'+r.Source, r.Key, r.Version, strings.Join(r.Fields, "|"))
}

func TestRecordConstants(t *testing.T) {
	if impl.MaxSources != 4 || impl.MaxRecordKey != 99 || impl.FieldCount != 4 {
		t.Error(impl.MaxSources, impl.MaxRecordKey, impl.FieldCount)
	}
	if impl.FieldName != 0 || impl.FieldCity != 1 || impl.FieldYear != 2 || impl.FieldPhone != 3 {
		t.Error(impl.FieldName, impl.FieldCity, impl.FieldYear, impl.FieldPhone)
	}
}

func TestIsValidRecordOfNumbers(t *testing.T) {
	for source := -10; source <= 10; source++ {
		for key := -10; key <= 200; key++ {
			for _, version := range []int{-1, 0, 1, 2, 999, 1000} {
				r := impl.Record{Source: source, Key: key, Version: version, Fields: make([]string, 4)}
				want := 0 <= source && source <= 3 && 1 <= key && key <= 99 && 1 <= version && version <= 999
				if got := impl.IsValidRecord(r); got != want {
					t.Fatalf("IsValidRecord(%v) = %v", r, got)
				}
			}
		}
	}
	for version := -2000; version <= 2000; version++ {
		r := impl.Record{Source: 3, Key: 99, Version: version, Fields: make([]string, 4)}
		if got := impl.IsValidRecord(r); got != (1 <= version && version <= 999) {
			t.Fatalf("IsValidRecord(%v) = %v", r, got)
		}
	}
}

func TestIsValidRecordOfFieldCounts(t *testing.T) {
	for n := range 12 {
		for _, field := range []string{"", "x"} {
			r := impl.Record{Source: 0, Key: 1, Version: 1, Fields: slices.Repeat([]string{field}, n)}
			if got := impl.IsValidRecord(r); got != (n == 4) {
				t.Errorf("IsValidRecord with %d fields = %v", n, got)
			}
		}
	}
	if impl.IsValidRecord(impl.Record{Key: 1, Version: 1}) {
		t.Error("a record without a list of fields is valid")
	}
}

func TestIsValidRecordOfEveryByte(t *testing.T) {
	all := everyByte()
	for i := range len(all) {
		want := 32 <= i && i <= 126 && all[i] != '|' && all[i] != ';'
		for place := range impl.FieldCount {
			for _, field := range []string{all[i : i+1], "a" + all[i:i+1], all[i:i+1] + "a"} {
				r := impl.Record{Source: 0, Key: 1, Version: 1, Fields: make([]string, 4)}
				r.Fields[place] = field
				if got := impl.IsValidRecord(r); got != want {
					t.Errorf("IsValidRecord(%#v) = %v", r, got)
				}
			}
		}
	}
}

func TestIsValidRecordOfFieldLengths(t *testing.T) {
	for n := range 100 {
		for place := range impl.FieldCount {
			r := impl.Record{Source: 0, Key: 1, Version: 1, Fields: make([]string, 4)}
			r.Fields[place] = strings.Repeat("x", n)
			if got := impl.IsValidRecord(r); got != (n <= 40) {
				t.Errorf("IsValidRecord with a field of %d bytes = %v", n, got)
			}
		}
	}
}

func TestValidRecords(t *testing.T) {
	for _, want := range validRecords() {
		if !impl.IsValidRecord(want) {
			t.Errorf("IsValidRecord(%#v) = false", want)
		}
		got, ok := impl.NewRecord(want.Source, want.Key, want.Version, want.Fields)
		if !ok || !areEqualRecords(got, want) {
			t.Errorf("NewRecord of %#v = %#v, %v", want, got, ok)
		}
		name, _, _ := strings.Cut(recordText(want), ".")
		if got := impl.RecordName(want); got != name {
			t.Errorf("RecordName(%#v) = %q, want %q", want, got, name)
		}
		if got := impl.FormatRecord(want); got != recordText(want) {
			t.Errorf("FormatRecord(%#v) = %q", want, got)
		}
	}
}

func TestInvalidRecords(t *testing.T) {
	for _, r := range invalidRecords() {
		if impl.IsValidRecord(r) {
			t.Errorf("IsValidRecord(%#v) = true", r)
		}
		got, ok := impl.NewRecord(r.Source, r.Key, r.Version, r.Fields)
		if ok || !areEqualRecords(got, impl.Record{}) {
			t.Errorf("NewRecord of %#v = %#v, %v", r, got, ok)
		}
		if got := impl.RecordName(r); got != "" {
			t.Errorf("RecordName(%#v) = %q", r, got)
		}
		if got := impl.FormatRecord(r); got != "" {
			t.Errorf("FormatRecord(%#v) = %q", r, got)
		}
	}
}

func TestNewRecordSharesNoMemory(t *testing.T) {
	for _, list := range someFields() {
		fields, all := withSpare(list)
		want := slices.Clone(all)
		r, ok := impl.NewRecord(0, 1, 1, fields)
		if !ok {
			t.Fatalf("NewRecord of %q is false", list)
		}
		all[0], all[3] = "changed", "changed"
		if !slices.Equal(r.Fields, list) {
			t.Errorf("the fields %q became %q with the argument", list, r.Fields)
		}
		copy(all, want)
		other, _ := impl.NewRecord(0, 1, 1, fields)
		r.Fields[0], r.Fields[3] = "changed", "changed"
		r.Fields = append(r.Fields, "appended")
		if !slices.Equal(all, want) {
			t.Errorf("the argument %q became %q with the result", want, all)
		}
		if !slices.Equal(other.Fields, list) {
			t.Errorf("the fields %q became %q with another result", list, other.Fields)
		}
	}
}

// ascendingRecords are strictly ascending, and many of them are not valid.
func ascendingRecords() []impl.Record {
	fields := [][]string{
		{}, {""}, {"", ""}, {"", "", "", ""}, {"", "", "", "", ""}, {"", "", "", " "}, {"", "", "", "a"},
		{"", "", "\xff"}, {"", "a"}, {"B"}, {"a"}, {"a", ""}, {"a", "", "", ""}, {"a", "a", "a", "A"},
		{"a", "a", "a", "a"}, {"a", "a", "a", "a", "a"}, {"a "}, {"aa"}, {"ab", "a"}, {"b", "A"}, {"é"},
	}
	var all []impl.Record
	for _, source := range []int{math.MinInt, -1, 0, 1, 3, math.MaxInt} {
		for _, key := range []int{math.MinInt, 1, 2, 9, 10, math.MaxInt} {
			for _, version := range []int{-1, 1, 2, 10} {
				n := len(all) % 3
				for _, list := range fields[n : len(fields)-n] {
					all = append(all, impl.Record{Source: source, Key: key, Version: version, Fields: list})
				}
			}
		}
	}
	return all
}

func TestCompareRecordsOfAscendingRecords(t *testing.T) {
	all := ascendingRecords()
	for i, a := range all {
		same := impl.Record{Source: a.Source, Key: a.Key, Version: a.Version, Fields: slices.Clone(a.Fields)}
		if got := impl.CompareRecords(a, same); got != 0 {
			t.Errorf("CompareRecords(%#v, %#v) = %d", a, same, got)
		}
		for j := i + 1; j < len(all); j++ {
			less, greater := impl.CompareRecords(a, all[j]), impl.CompareRecords(all[j], a)
			if less != -1 || greater != 1 {
				t.Fatalf("CompareRecords(%#v, %#v) = %d, and in the other order %d", a, all[j], less, greater)
			}
		}
	}
}

func TestCompareRecordsValues(t *testing.T) {
	base := []string{"Ann", "Paris", "1980", "555"}
	r := impl.Record{Source: 1, Key: 9, Version: 9, Fields: base}
	for _, c := range []struct {
		source, key, version int
		fields               []string
		want                 int
	}{
		{1, 9, 9, base, 0},
		// One of the numbers, even if all that follows says the opposite.
		{2, 9, 9, base, -1},
		{0, 9, 9, base, 1},
		{2, 1, 1, nil, -1},
		{0, 99, 999, []string{"z", "z", "z", "z"}, 1},
		{1, 10, 9, base, -1},
		{1, 8, 9, base, 1},
		{1, 10, 1, nil, -1},
		{1, 8, 999, []string{"z", "z", "z", "z"}, 1},
		{1, 9, 10, base, -1},
		{1, 9, 8, base, 1},
		{1, 9, 10, nil, -1},
		{1, 9, 8, []string{"z", "z", "z", "z"}, 1},
		// Each of the fields, even if all that follows says the opposite.
		{1, 9, 9, []string{"Anna", "Paris", "1980", "555"}, -1},
		{1, 9, 9, []string{"An", "Paris", "1980", "555"}, 1},
		{1, 9, 9, []string{"Anna", "", "", ""}, -1},
		{1, 9, 9, []string{"An", "z", "z", "z"}, 1},
		{1, 9, 9, []string{"Ann", "Q", "", ""}, -1},
		{1, 9, 9, []string{"Ann", "", "z", "z"}, 1},
		{1, 9, 9, []string{"Ann", "Paris", "1981", ""}, -1},
		{1, 9, 9, []string{"Ann", "Paris", "198", "z"}, 1},
		{1, 9, 9, []string{"Ann", "Paris", "1980", "5551"}, -1},
		{1, 9, 9, []string{"Ann", "Paris", "1980", "55"}, 1},
		{1, 9, 9, []string{"ann", "Paris", "1980", "555"}, -1},
		// A proper prefix is less, but a shorter list is not always.
		{1, 9, 9, nil, 1},
		{1, 9, 9, base[:3], 1},
		{1, 9, 9, []string{"Ann", "Paris", "1980", "555", ""}, -1},
		{1, 9, 9, []string{"b"}, -1},
		{1, 9, 9, []string{"", "", "", "", "", ""}, 1},
		{1, 9, 9, []string{"Ann", "Paris", "1980"}, 1},
	} {
		other := impl.Record{Source: c.source, Key: c.key, Version: c.version, Fields: c.fields}
		if got := impl.CompareRecords(r, other); got != c.want {
			t.Errorf("CompareRecords(%#v, %#v) = %d, want %d", r, other, got, c.want)
		}
		if got := impl.CompareRecords(other, r); got != -c.want {
			t.Errorf("CompareRecords(%#v, %#v) = %d, want %d", other, r, got, -c.want)
		}
	}
}

func TestCompareRecordsOfEmptyLists(t *testing.T) {
	empties := [][]string{nil, {}, make([]string, 0, 4), []string{"x"}[:0]}
	for _, a := range empties {
		for _, b := range empties {
			if got := impl.CompareRecords(impl.Record{Fields: a}, impl.Record{Fields: b}); got != 0 {
				t.Errorf("CompareRecords with no fields = %d", got)
			}
		}
	}
}

func TestSameOriginValues(t *testing.T) {
	fields := []string{"Ann", "Paris", "1980", "555"}
	r := impl.Record{Source: 1, Key: 2, Version: 3, Fields: fields}
	for _, c := range []struct {
		source, key, version int
		fields               []string
		want                 bool
	}{
		{1, 2, 3, fields, true},
		{0, 2, 3, fields, false},
		{2, 2, 3, fields, false},
		{-1, 2, 3, fields, false},
		{1, 1, 3, fields, false},
		{1, 3, 3, fields, false},
		{1, -2, 3, fields, false},
		{1, 2, 4, fields, true},
		{1, 2, 0, fields, true},
		{1, 2, 3, []string{"Bob", "Paris", "1980", "555"}, true},
		{1, 2, 3, []string{"Ann", "Paris", "1980", ""}, true},
		{1, 2, 3, nil, true},
		{1, 2, 999, []string{"x", "y", "z", "u", "v"}, true},
		// Other pairs with the same sum, digits or ID.
		{2, 1, 3, fields, false},
		{0, 3, 3, fields, false},
		{0, 102, 3, fields, false},
		{2, -98, 3, fields, false},
		{12, 0, 3, fields, false},
	} {
		other := impl.Record{Source: c.source, Key: c.key, Version: c.version, Fields: c.fields}
		if got := impl.SameOrigin(r, other); got != c.want {
			t.Errorf("SameOrigin(%#v, %#v) = %v", r, other, got)
		}
		if got := impl.SameOrigin(other, r); got != c.want {
			t.Errorf("SameOrigin(%#v, %#v) = %v", other, r, got)
		}
	}
}

func TestSameOriginOfAnyRecords(t *testing.T) {
	numbers := []int{math.MinInt, -100, -1, 0, 1, 3, 4, 99, 100, 101, 1 << 32, math.MaxInt}
	everyPairOfNumbers := func(visit func(source, key int)) {
		for _, source := range numbers {
			for _, key := range numbers {
				visit(source, key)
			}
		}
	}
	everyPairOfNumbers(func(source, key int) {
		everyPairOfNumbers(func(otherSource, otherKey int) {
			a := impl.Record{Source: source, Key: key, Version: 1}
			b := impl.Record{Source: otherSource, Key: otherKey, Version: 2, Fields: []string{"x"}}
			want := source == otherSource && key == otherKey
			if got := impl.SameOrigin(a, b); got != want {
				t.Errorf("SameOrigin(%#v, %#v) = %v", a, b, got)
			}
		})
	})
}

func TestRecordNameValues(t *testing.T) {
	for want, r := range map[string]impl.Record{
		"a1":  {Source: 0, Key: 1, Version: 1},
		"a99": {Source: 0, Key: 99, Version: 999},
		"b9":  {Source: 1, Key: 9, Version: 2},
		"b10": {Source: 1, Key: 10, Version: 2},
		"c10": {Source: 2, Key: 10, Version: 12},
		"d1":  {Source: 3, Key: 1, Version: 1},
		"d9":  {Source: 3, Key: 9, Version: 1},
		"d99": {Source: 3, Key: 99, Version: 999},
	} {
		if got := impl.RecordName(r); got != "" {
			t.Errorf("RecordName(%#v) without fields = %q", r, got)
		}
		for _, fields := range someFields() {
			r.Fields = fields
			if got := impl.RecordName(r); got != want {
				t.Errorf("RecordName(%#v) = %q, want %q", r, got, want)
			}
		}
	}
}

func TestFormatRecordValues(t *testing.T) {
	for want, r := range map[string]impl.Record{
		"a1.2|Anna Smith|Paris|1980|555 1234": {Source: 0, Key: 1, Version: 2, Fields: []string{"Anna Smith", "Paris", "1980", "555 1234"}},
		"b10.1||Paris|1980|555":               {Source: 1, Key: 10, Version: 1, Fields: []string{"", "Paris", "1980", "555"}},
		"c9.10|Ann||1980|555":                 {Source: 2, Key: 9, Version: 10, Fields: []string{"Ann", "", "1980", "555"}},
		"c99.99|Ann|Paris||555":               {Source: 2, Key: 99, Version: 99, Fields: []string{"Ann", "Paris", "", "555"}},
		"d1.999|Ann|Paris|1980|":              {Source: 3, Key: 1, Version: 999, Fields: []string{"Ann", "Paris", "1980", ""}},
		"d99.999||||":                         {Source: 3, Key: 99, Version: 999, Fields: []string{"", "", "", ""}},
		"a1.1| | .|a1.1| ":                    {Source: 0, Key: 1, Version: 1, Fields: []string{" ", " .", "a1.1", " "}},
	} {
		if got := impl.FormatRecord(r); got != want {
			t.Errorf("FormatRecord(%#v) = %q, want %q", r, got, want)
		}
	}
}

func TestParseRecordReadsEveryFormat(t *testing.T) {
	for _, want := range validRecords() {
		got, ok := impl.ParseRecord(impl.FormatRecord(want))
		if !ok || got.Source != want.Source || got.Key != want.Key || got.Version != want.Version {
			t.Errorf("ParseRecord of %q = %#v, %v", recordText(want), got, ok)
		}
		if !slices.Equal(got.Fields, want.Fields) {
			t.Errorf("ParseRecord of %q has the fields %q", recordText(want), got.Fields)
		}
	}
}

func TestParseRecordReadsEveryHead(t *testing.T) {
	for source := range impl.MaxSources {
		for key := 1; key <= impl.MaxRecordKey; key++ {
			for version := 1; version <= 999; version++ {
				want := impl.Record{Source: source, Key: key, Version: version, Fields: []string{"", "x", "", "y"}}
				s := impl.FormatRecord(want)
				if got, ok := impl.ParseRecord(s); !ok || !areEqualRecords(got, want) {
					t.Fatalf("ParseRecord(%q) = %#v, %v", s, got, ok)
				}
			}
		}
	}
}

func checkNoRecord(t *testing.T, s string) {
	t.Helper()
	if r, ok := impl.ParseRecord(s); ok || !areEqualRecords(r, impl.Record{}) {
		t.Errorf("ParseRecord(%q) = %#v, %v", s, r, ok)
	}
}

func TestParseRecordRejects(t *testing.T) {
	for _, s := range []string{
		"", "|", "||||", ".||||", "a||||", "a.||||", "a1||||", "a1.||||", "a.1||||", ".1||||", "1.1||||",
		// A field too few or too many.
		"a1.1", "a1.1|", "a1.1|||", "a1.1|||||", "a1.1||||||", "a1.1|Ann|Paris|1980", "a1.1|Ann|Paris|1980|555|",
		"a1.1|Ann|Paris|1980|555|x", "a1.1Ann|Paris|1980|555", "|a1.1||||", "|a1.1|||", "a1|.1||||", "a1|.1|||",
		// Leading zeros.
		"a01.1||||", "a001.1||||", "a1.01||||", "a1.001||||", "a1.0999||||", "a099.1||||", "a00.1||||", "a1.00||||",
		// Beyond the limits.
		"a0.1||||", "a1.0||||", "a100.1||||", "a101.1||||", "a1.1000||||", "a1.1001||||", "a0.0||||",
		"a999999999.1||||", "a9999999999.1||||", "a18446744073709551617.1||||", "a1.18446744073709551617||||",
		"a4294967297.1||||", "a1.4294967297||||",
		// Other sources.
		"e1.1||||", "f1.1||||", "z1.1||||", "A1.1||||", "B1.1||||", "C1.1||||", "D1.1||||", "`1.1||||", "01.1||||",
		"ab1.1||||", "aa1.1||||", "\xff1.1||||", "é1.1||||", "-1.1||||",
		// A missing or a second dot.
		"a11||||", "a1 1||||", "a1,1||||", "a1..1||||", "a1.1.||||", "a1.1.1||||", "a.1.1||||", ".a1.1||||", "a1|1||||",
		"a1||||.1",
		// Signs and spaces.
		"a+1.1||||", "a-1.1||||", "a1.+1||||", "a1.-1||||", "a-0.1||||", " a1.1||||", "a 1.1||||", "a1 .1||||",
		"a1. 1||||", "a1.1 ||||", "\na1.1||||", "a1.1\n||||", "a1.1||||\n", "a1.1||||\x00",
		// No number.
		"ax.1||||", "a1.x||||", "a1x.1||||", "a1.1x||||", "a1.1e1||||", "a0x1.1||||", "a1_0.1||||", "a1.1\x00||||",
		"a１.1||||", "a1.٣||||",
		// Fields that are not valid.
		"a1.1|;|||", "a1.1||;||", "a1.1|||a;b|", "a1.1||||;", "a1.1||||\x7f", "a1.1|\t|||", "a1.1||é||", "a1.1|||\xff|",
		"a1.1||||;a1.1||||", "[a1.1||||]", "put a1.1||||",
		strings.Repeat("|", 10000), "a1.1" + strings.Repeat("|", 10000), "a" + strings.Repeat("1", 10000) + ".1||||",
		strings.Repeat("a", 10000) + "1.1||||", "a1." + strings.Repeat("0", 10000) + "1||||", everyByte(),
	} {
		checkNoRecord(t, s)
	}
}

func TestParseRecordRejectsBadFields(t *testing.T) {
	for _, fields := range badFields() {
		checkNoRecord(t, "a1.1|"+strings.Join(fields, "|"))
	}
}

var recordFormat = regexp.MustCompile(`^[a-d][1-9][0-9]?\.[1-9][0-9]{0,2}(\|[ -:<-{}~]{0,40}){4}$`)

// The promise: a string is parsed if it is the format of a record, which
// FormatRecord finds again, and no other string is.
func checkParsed(t *testing.T, s string) {
	t.Helper()
	if !recordFormat.MatchString(s) {
		checkNoRecord(t, s)
		return
	}
	r, ok := impl.ParseRecord(s)
	if !ok || !impl.IsValidRecord(r) || impl.FormatRecord(r) != s || recordText(r) != s {
		t.Errorf("ParseRecord(%q) = %#v, %v", s, r, ok)
	}
}

func TestParseRecordOfEveryShortString(t *testing.T) {
	everyString("a1.|", 9, func(s string) { checkParsed(t, s) })
	everyString("de019.-+ |", 5, func(s string) {
		checkParsed(t, s+"||||")
		checkParsed(t, s+"1.1||||")
	})
	everyString("0129.", 5, func(s string) { checkParsed(t, "b1"+s+"||||") })
	everyString("a1.|;\x7f", 5, func(s string) { checkParsed(t, "c2.3|"+s) })
}

// everyChange calls visit with s, its prefixes and suffixes, and every string
// with one byte more than s, one less, or one other byte.
func everyChange(s string, visit func(string)) {
	all := everyByte()
	for i := range len(s) + 1 {
		visit(s[:i])
		visit(s[i:])
		for j := range len(all) {
			visit(s[:i] + all[j:j+1] + s[i:])
			if i < len(s) {
				visit(s[:i] + all[j:j+1] + s[i+1:])
			}
		}
		if i < len(s) {
			visit(s[:i] + s[i+1:])
		}
	}
}

// Every change of one byte of a format gives another format or none.
func TestParseRecordOfEveryChange(t *testing.T) {
	for _, s := range []string{"a1.2|Anna Smith|Paris|1980|555 1234", "d99.999||||", "b10.1| |x||" + strings.Repeat("y", 40)} {
		everyChange(s, func(changed string) { checkParsed(t, changed) })
	}
}

func TestParseRecordSharesNoMemory(t *testing.T) {
	s := "a1.2|Anna Smith|Paris|1980|555 1234"
	first, _ := impl.ParseRecord(s)
	second, _ := impl.ParseRecord(s)
	first.Fields[0] = "changed"
	first.Fields = append(first.Fields[:2], "changed")
	if impl.FormatRecord(second) != s {
		t.Errorf("the record became %#v with another result", second)
	}
}

func TestRecordArgumentsAreUnchanged(t *testing.T) {
	for _, list := range slices.Concat(someFields(), badFields()) {
		fields, all := withSpare(list)
		want := slices.Clone(all)
		r := impl.Record{Source: 0, Key: 1, Version: 1, Fields: fields}
		impl.IsValidRecord(r)
		impl.NewRecord(0, 1, 1, fields)
		impl.NewRecord(4, 1, 1, fields)
		impl.CompareRecords(r, r)
		impl.SameOrigin(r, r)
		impl.RecordName(r)
		impl.FormatRecord(r)
		if !slices.Equal(all, want) {
			t.Errorf("%q became %q", want, all)
		}
	}
}
