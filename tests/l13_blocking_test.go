package tests

import (
	"math"
	"slices"
	"strconv"
	"strings"
	"testing"

	"loop.example/g01923/impl"
)

// blockLimits are ascending.
var blockLimits = []int{math.MinInt, math.MinInt + 1, -1, 0, 1, 2, 3, 4, 11, 12, 13, math.MaxInt - 1, math.MaxInt}

// mostListed is the greatest length of a list that is not treated as empty.
const mostListed = 12

// namedRecord has no key but those of its name and, with it, of its year.
func namedRecord(name, year string) impl.Record {
	return recordWith(name, "Paris", year, "")
}

// phoneRecord has no key but that of its phone.
func phoneRecord(phone string) impl.Record {
	return recordWith("", "Paris", "1980", phone)
}

// mixedRecords have equal ones, such with one key in common, such without a
// common key, such with several common keys, and such without keys.
func mixedRecords() []impl.Record {
	l := []impl.Record{
		recordWith("Anna Smith", "Paris", "1980", "555 1234"),
		recordWith("Smyth", "", "", "99 1234"),
		recordWith("Lee", "", "1980", ""),
		recordWith("Anna Smith", "Paris", "1980", "555 1234"),
		recordWith("ANNA smith!", "Rome", "1980", "(555) 12-34"),
		recordWith("", "Paris", "1980", "123"),
		recordWith("Lee", "Oslo", "1981", "1234"),
		recordWith("", "", "", ""),
		recordWith("Lou", "", "1980", "none"),
		recordWith("4u 9", "", "2000", "777-8888"),
		recordWith("9", "", "2000", "778888"),
		recordWith("Robert Rupert", "", "1999", "4711"),
		recordWith("Rupert", "", "1999", "04711"),
		recordWith("Kim", "", "1955", "2222"),
		recordWith("Smith, Anna", "", "1981", ""),
		recordWith("Lee Lou", "Paris", "1980", "81234"),
		recordWith("Tom", "", "19x0", "3333"),
		recordWith("Anna", "Paris", "", ""),
	}
	for i := range l {
		l[i].Source, l[i].Key, l[i].Version = i%impl.MaxSources, 1+i, 1+2*i
	}
	return l
}

// madeRecords returns as many records, each of them made from its index.
func madeRecords(size int, made func(i int) impl.Record) []impl.Record {
	l := make([]impl.Record, size)
	for i := range l {
		l[i] = made(i)
	}
	return l
}

func equalRecords(size int) []impl.Record {
	return madeRecords(size, func(int) impl.Record { return recordWith("Anna Smith", "Paris", "1980", "555 1234") })
}

// oneCommonKey returns records with different names and one phone.
func oneCommonKey(size int) []impl.Record {
	return madeRecords(size, func(i int) impl.Record { return recordWith("nbdlmrtpzvkgx"[i:i+1], "", "", "555 1234") })
}

func withoutCommonKey(size int) []impl.Record {
	return madeRecords(size, func(i int) impl.Record {
		return recordWith("nbdlmrtpzvkgx"[i:i+1], "", strconv.Itoa(1980+i), strconv.Itoa(5550+i))
	})
}

// severalCommonKeys returns records with a year and a phone in common, of which
// every third one has the same name.
func severalCommonKeys(size int) []impl.Record {
	return madeRecords(size, func(i int) impl.Record {
		return recordWith([]string{"Anna Smith", "Ann", "Smyth Lee"}[i%3], "", "1980", "555 1234")
	})
}

// commonKeyOfNeighbours returns records of which each has one key in common with
// the previous one.
func commonKeyOfNeighbours(size int) []impl.Record {
	return madeRecords(size, func(i int) impl.Record {
		return recordWith("nbdlmrtpzvkgx"[i/2:i/2+1], "", "", strconv.Itoa(5550+(i+1)/2))
	})
}

// blockLists are lists that are not treated as empty, of all sizes.
func blockLists() [][]impl.Record {
	lists := [][]impl.Record{nil, {}}
	mixed := mixedRecords()
	for _, a := range mixed {
		lists = append(lists, []impl.Record{a})
		for _, b := range mixed {
			lists = append(lists, []impl.Record{a, b})
		}
	}
	for size := range mostListed + 1 {
		lists = append(lists, equalRecords(size), oneCommonKey(size), withoutCommonKey(size), severalCommonKeys(size), commonKeyOfNeighbours(size))
		for shift := range mixed {
			lists = append(lists, slices.Concat(mixed[shift:], mixed[:shift])[:size])
		}
	}
	return lists
}

// tooManyRecords are lists that would have blocks if they were not so long.
func tooManyRecords() [][]impl.Record {
	var lists [][]impl.Record
	for _, size := range []int{mostListed + 1, mostListed + 2, 1000} {
		lists = append(lists, equalRecords(size), severalCommonKeys(size), slices.Repeat(mixedRecords(), size)[:size])
	}
	return append(lists, oneCommonKey(mostListed+1), withoutCommonKey(mostListed+1), commonKeyOfNeighbours(mostListed+1))
}

// listsWithAnInvalidRecord would have blocks if they did not have that record.
func listsWithAnInvalidRecord() [][]impl.Record {
	var lists [][]impl.Record
	for i, bad := range invalidRecords() {
		lists = append(lists, []impl.Record{bad}, []impl.Record{bad, bad})
		for _, good := range [][]impl.Record{equalRecords(1), equalRecords(2), severalCommonKeys(3), oneCommonKey(mostListed - 1), equalRecords(mostListed)} {
			lists = append(lists, slices.Insert(good, i%(len(good)+1), bad))
		}
	}
	for place := range mostListed {
		list := equalRecords(mostListed)
		list[place].Fields[impl.FieldCity] = "a|b"
		lists = append(lists, list)
	}
	return lists
}

func keysInSteps(r impl.Record) []string {
	var keys []string
	for _, code := range impl.SoundKeys(r.Fields[impl.FieldName]) {
		keys = append(keys, "s"+code)
	}
	if digits := impl.DigitsOf(r.Fields[impl.FieldPhone]); len(digits) >= 4 {
		keys = append(keys, "p"+digits[len(digits)-4:])
	}
	if year := impl.ParseYear(r.Fields[impl.FieldYear]); year != 0 {
		for _, token := range impl.Tokens(r.Fields[impl.FieldName]) {
			keys = append(keys, "y"+strconv.Itoa(year)+string(token[0]))
		}
	}
	return impl.UniteTokens(keys, nil)
}

func blocksInSteps(records []impl.Record) []impl.Block {
	var keys []string
	for _, r := range records {
		keys = impl.UniteTokens(keys, impl.BlockKeys(r))
	}
	var blocks []impl.Block
	for _, key := range keys {
		block := impl.Block{Key: key}
		for i, r := range records {
			if slices.Contains(impl.BlockKeys(r), key) {
				block.Members = append(block.Members, i)
			}
		}
		blocks = append(blocks, block)
	}
	return blocks
}

func blockPairsInSteps(records []impl.Record, most int) []impl.IDPair {
	blocks := impl.BuildBlocks(records)
	var pairs []impl.IDPair
	for a := range records {
		for b := a + 1; b < len(records); b++ {
			if slices.ContainsFunc(blocks, func(block impl.Block) bool {
				return len(block.Members) <= most && slices.Contains(block.Members, a) && slices.Contains(block.Members, b)
			}) {
				pairs = append(pairs, impl.IDPair{A: a, B: b})
			}
		}
	}
	return pairs
}

func keysOfBlocks(blocks []impl.Block) []string {
	var keys []string
	for _, block := range blocks {
		keys = append(keys, block.Key)
	}
	return keys
}

func areEqualBlocks(a, b impl.Block) bool {
	return a.Key == b.Key && slices.Equal(a.Members, b.Members)
}

func checkKeys(t *testing.T, r impl.Record, want ...string) {
	t.Helper()
	checkList(t, "BlockKeys of "+recordText(r), impl.BlockKeys(r), want...)
}

// checkBlocks takes each block as its key, a colon and its members, separated by commas.
func checkBlocks(t *testing.T, records []impl.Record, want ...string) {
	t.Helper()
	var got []string
	for _, block := range impl.BuildBlocks(records) {
		var members []string
		for _, i := range block.Members {
			members = append(members, strconv.Itoa(i))
		}
		got = append(got, block.Key+":"+strings.Join(members, ","))
	}
	if !slices.Equal(got, want) {
		t.Errorf("BuildBlocks(%v) = %q, want %q", beginning(records), got, want)
	}
}

// checkBlockPairs takes the indices of each pair as two arguments.
func checkBlockPairs(t *testing.T, records []impl.Record, most int, indices ...int) {
	t.Helper()
	var want []impl.IDPair
	for pair := range slices.Chunk(indices, 2) {
		want = append(want, impl.IDPair{A: pair[0], B: pair[1]})
	}
	if got := impl.BlockPairs(records, most); !slices.Equal(got, want) {
		t.Errorf("BlockPairs(%v, %d) = %v, want %v", beginning(records), most, got, want)
	}
}

func checkLargest(t *testing.T, records []impl.Record, want int) {
	t.Helper()
	if got := impl.LargestBlock(records); got != want {
		t.Errorf("LargestBlock(%v) = %d, want %d", beginning(records), got, want)
	}
}

func checkOversized(t *testing.T, records []impl.Record, most int, want ...string) {
	t.Helper()
	if got := impl.OversizedBlocks(records, most); !slices.Equal(got, want) {
		t.Errorf("OversizedBlocks(%v, %d) = %q, want %q", beginning(records), most, got, want)
	}
}

// checkShare checks ShareBlock in both orders.
func checkShare(t *testing.T, a, b impl.Record, want bool) {
	t.Helper()
	if impl.ShareBlock(a, b) != want {
		t.Errorf("ShareBlock(%#v, %#v) = %v", a, b, !want)
	}
	if impl.ShareBlock(b, a) != want {
		t.Errorf("ShareBlock(%#v, %#v) = %v", b, a, !want)
	}
}

// checkBlocked checks the promise for one list: blocked pairs share a block, and a
// greater limit never loses a pair. It returns the number of pairs of all limits.
func checkBlocked(t *testing.T, records []impl.Record) int {
	t.Helper()
	count := 0
	var fewer []impl.IDPair
	for _, most := range blockLimits {
		pairs := impl.BlockPairs(records, most)
		if want := blockPairsInSteps(records, most); !slices.Equal(pairs, want) {
			t.Errorf("BlockPairs(%v, %d) = %v, want %v", records, most, pairs, want)
		}
		for _, pair := range pairs {
			checkShare(t, records[pair.A], records[pair.B], true)
		}
		for _, pair := range fewer {
			if !slices.Contains(pairs, pair) {
				t.Errorf("BlockPairs(%v, %d) = %v loses %v", records, most, pairs, pair)
			}
		}
		if most < 2 && len(pairs) > 0 {
			t.Errorf("BlockPairs(%v, %d) = %v", records, most, pairs)
		}
		fewer, count = pairs, count+len(pairs)
	}
	// Without a limit, no other records share a block.
	for a := range records {
		for b := a + 1; b < len(records); b++ {
			checkShare(t, records[a], records[b], slices.Contains(fewer, impl.IDPair{A: a, B: b}))
		}
	}
	return count
}

// The promise.
func TestBlockedPairsShareABlock(t *testing.T) {
	count := 0
	for _, records := range blockLists() {
		count += checkBlocked(t, records)
	}
	if count < 10000 {
		t.Errorf("%d pairs", count)
	}
	for _, most := range blockLimits {
		checkBlockPairs(t, nil, most)
		checkBlockPairs(t, []impl.Record{}, most)
		checkBlockPairs(t, equalRecords(1), most)
		checkBlockPairs(t, withoutCommonKey(2), most)
		checkBlockPairs(t, withoutCommonKey(mostListed), most)
		for _, pair := range [][]impl.Record{equalRecords(2), oneCommonKey(2), severalCommonKeys(2)} {
			if most < 2 {
				checkBlockPairs(t, pair, most)
			} else {
				checkBlockPairs(t, pair, most, 0, 1)
			}
		}
		full := 0
		if most >= mostListed {
			full = mostListed * (mostListed - 1) / 2
		}
		for _, records := range [][]impl.Record{equalRecords(mostListed), oneCommonKey(mostListed)} {
			if pairs := impl.BlockPairs(records, most); len(pairs) != full {
				t.Errorf("BlockPairs(%v, %d) = %v", records, most, pairs)
			}
		}
	}
}

func TestBlockPairsValues(t *testing.T) {
	records := []impl.Record{
		recordWith("Anna Smith", "Paris", "1980", "555 1234"),
		recordWith("Smyth", "", "", "99 1234"),
		recordWith("Lee", "", "1980", ""),
	}
	checkBlockPairs(t, records, 12, 0, 1)
	checkBlockPairs(t, records, 2, 0, 1)
	checkBlockPairs(t, records, 1)
	checkBlockPairs(t, commonKeyOfNeighbours(5), 2, 0, 1, 1, 2, 2, 3, 3, 4)
	// The pairs of one block lie between those of another one.
	records = []impl.Record{phoneRecord("2222"), phoneRecord("1111"), phoneRecord("2222"), phoneRecord("1111"), phoneRecord("2222")}
	checkBlockPairs(t, records, 3, 0, 2, 0, 4, 1, 3, 2, 4)
	checkBlockPairs(t, records, 2, 1, 3)
	checkBlockPairs(t, slices.Repeat(records[:2], 3), 3, 0, 2, 0, 4, 1, 3, 1, 5, 2, 4, 3, 5)
}

func TestBlockKeysValues(t *testing.T) {
	checkKeys(t, recordWith("Anna Smith", "Paris", "1980", "555 1234"), "p1234", "sa500", "ss530", "y1980a", "y1980s")
	checkKeys(t, recordWith("Smyth", "", "", "99 1234"), "p1234", "ss530")
	checkKeys(t, recordWith("Lee", "", "1980", ""), "sl000", "y1980l")
	checkKeys(t, recordWith("", "", "", ""))
	checkKeys(t, recordWith("", "Anna Smith", "", ""))
	checkKeys(t, recordWith("", "5551234", "", "1980"), "p1980")
	checkKeys(t, recordWith("1980", "", "5551234", "Anna"))
	checkKeys(t, recordWith("555 1234", "", "1980", "Anna"), "y19801", "y19805")
	// The keys are those of the fields alone.
	checkKeys(t, impl.Record{Source: 3, Key: 99, Version: 999, Fields: []string{"Lee", "Rome", "1980", ""}}, "sl000", "y1980l")
}

func TestBlockKeysOfPhones(t *testing.T) {
	for _, phone := range []string{"", "1", "12", "123", "1-2-3", "none", "+ ( )", "phone: 555", strings.Repeat("x", 40), " 123 "} {
		checkKeys(t, phoneRecord(phone))
	}
	for _, phone := range []string{"1234", "01234", "51234", "555 1234", "+1 (555) 12-34", "1x2y3z4", " 1 2 3 4 ", strings.Repeat("0", 36) + "1234"} {
		checkKeys(t, phoneRecord(phone), "p1234")
	}
	checkKeys(t, phoneRecord("12345"), "p2345")
	checkKeys(t, phoneRecord("1234 5"), "p2345")
	checkKeys(t, phoneRecord("0000"), "p0000")
	checkKeys(t, phoneRecord("10000"), "p0000")
	checkKeys(t, phoneRecord("0001"), "p0001")
}

func TestBlockKeysOfYears(t *testing.T) {
	for _, year := range notYears {
		checkKeys(t, namedRecord("Anna Smith", year), "sa500", "ss530")
		checkKeys(t, namedRecord("", year))
		checkKeys(t, namedRecord("9", year))
	}
	for _, year := range []string{"1000", "1001", "1980", "2026", "9998", "9999"} {
		checkKeys(t, namedRecord("Anna Smith", year), "sa500", "ss530", "y"+year+"a", "y"+year+"s")
		for _, name := range withoutToken {
			checkKeys(t, namedRecord(name, year))
		}
	}
}

func TestBlockKeysOfNames(t *testing.T) {
	for _, name := range withoutToken {
		for _, year := range []string{"", "1980"} {
			checkKeys(t, namedRecord(name, year))
		}
		checkKeys(t, recordWith(name, "", "1980", "5551234"), "p1234")
	}
	checkKeys(t, namedRecord("Anna", "1980"), "sa500", "y1980a")
	checkKeys(t, namedRecord("ANNA.", "1980"), "sa500", "y1980a")
	checkKeys(t, namedRecord("anna Anna 'anna'", "1980"), "sa500", "y1980a")
	checkKeys(t, namedRecord("O'Neil", "1980"), "so540", "y1980o")
	checkKeys(t, namedRecord("O-Neil", "1980"), "sn400", "so000", "y1980n", "y1980o")
	checkKeys(t, namedRecord("c B a", "1980"), "sa000", "sb000", "sc000", "y1980a", "y1980b", "y1980c")
	// Tokens with the same first byte, and such with the same sound.
	checkKeys(t, namedRecord("Robert Rupert", "1980"), "sr163", "y1980r")
	checkKeys(t, namedRecord("Anna Arthur", "1980"), "sa500", "sa636", "y1980a")
	checkKeys(t, namedRecord("Smith Sam Smyth Anna", "1980"), "sa500", "ss500", "ss530", "y1980a", "y1980s")
	checkKeys(t, namedRecord("Lee Li La 7", "1980"), "sl000", "y19807", "y1980l")
	// Tokens with a digit have no sound.
	checkKeys(t, namedRecord("9", "1980"), "y19809")
	checkKeys(t, namedRecord("4u 4you b2", "1980"), "y19804", "y1980b")
	checkKeys(t, namedRecord("4u 4you b2", ""))
}

func TestBlockKeysOfManyRecords(t *testing.T) {
	for _, r := range slices.Concat(someRecords(), mixedRecords(), validRecords()) {
		keys := impl.BlockKeys(r)
		checkKeys(t, r, keysInSteps(r)...)
		for i := range len(keys) - 1 {
			if keys[i] >= keys[i+1] {
				t.Errorf("BlockKeys(%v) = %q", r, keys)
			}
		}
	}
	for _, r := range invalidRecords() {
		if keys := impl.BlockKeys(r); len(keys) != 0 {
			t.Errorf("BlockKeys(%#v) = %q", r, keys)
		}
	}
}

func TestBuildBlocksValues(t *testing.T) {
	checkBlocks(t, nil)
	checkBlocks(t, []impl.Record{})
	checkBlocks(t, []impl.Record{recordWith("", "", "", "")})
	checkBlocks(t, madeRecords(mostListed, func(int) impl.Record { return phoneRecord("123") }))
	checkBlocks(t, equalRecords(1), "p1234:0", "sa500:0", "ss530:0", "y1980a:0", "y1980s:0")
	checkBlocks(t, equalRecords(2), "p1234:0,1", "sa500:0,1", "ss530:0,1", "y1980a:0,1", "y1980s:0,1")
	all := "0,1,2,3,4,5,6,7,8,9,10,11"
	checkBlocks(t, equalRecords(mostListed), "p1234:"+all, "sa500:"+all, "ss530:"+all, "y1980a:"+all, "y1980s:"+all)
	checkBlocks(t, mixedRecords()[:3], "p1234:0,1", "sa500:0", "sl000:2", "ss530:0,1", "y1980a:0", "y1980l:2", "y1980s:0")
	checkBlocks(t, mixedRecords()[:mostListed],
		"p1234:0,1,3,4,6", "p4711:11", "p8888:9,10", "sa500:0,3,4", "sl000:2,6,8", "sr163:11", "ss530:0,1,3,4",
		"y1980a:0,3,4", "y1980l:2,8", "y1980s:0,3,4", "y1981l:6", "y1999r:11", "y20004:9", "y20009:9,10")
	checkBlocks(t, []impl.Record{phoneRecord("9999"), phoneRecord(""), phoneRecord("1111"), phoneRecord("9999")}, "p1111:2", "p9999:0,3")
}

func TestBuildBlocksOfManyLists(t *testing.T) {
	for _, records := range blockLists() {
		blocks := impl.BuildBlocks(records)
		if want := blocksInSteps(records); !slices.EqualFunc(blocks, want, areEqualBlocks) {
			t.Errorf("BuildBlocks(%v) = %v, want %v", records, blocks, want)
		}
		for i, block := range blocks {
			if i > 0 && blocks[i-1].Key >= block.Key {
				t.Errorf("BuildBlocks(%v) has %q after %q", records, block.Key, blocks[i-1].Key)
			}
			for k := range block.Members {
				if k > 0 && block.Members[k-1] >= block.Members[k] {
					t.Errorf("BuildBlocks(%v) has the members %v", records, block.Members)
				}
			}
		}
	}
}

// Lists of 13 records or more, and lists with an invalid record.
func TestBlocksOfListsThatAreTreatedAsEmpty(t *testing.T) {
	for _, records := range slices.Concat(tooManyRecords(), listsWithAnInvalidRecord()) {
		checkBlocks(t, records)
		checkLargest(t, records, 0)
		for _, most := range blockLimits {
			checkBlockPairs(t, records, most)
			checkOversized(t, records, most)
		}
	}
	// One record less has blocks.
	for _, records := range [][]impl.Record{equalRecords(mostListed), severalCommonKeys(mostListed), oneCommonKey(mostListed)} {
		if len(impl.BuildBlocks(records)) == 0 || len(impl.BlockPairs(records, mostListed)) == 0 || len(impl.OversizedBlocks(records, 0)) == 0 {
			t.Errorf("%v has no blocks", records)
		}
		checkLargest(t, records, mostListed)
	}
}

func TestLargestBlockValues(t *testing.T) {
	checkLargest(t, nil, 0)
	checkLargest(t, []impl.Record{}, 0)
	for size := range mostListed + 1 {
		checkLargest(t, equalRecords(size), size)
		checkLargest(t, oneCommonKey(size), size)
		checkLargest(t, severalCommonKeys(size), size)
		checkLargest(t, withoutCommonKey(size), min(size, 1))
		checkLargest(t, commonKeyOfNeighbours(size), min(size, 2))
		// Lists without blocks.
		checkLargest(t, madeRecords(size, func(int) impl.Record { return recordWith("", "", "", "") }), 0)
		checkLargest(t, madeRecords(size, func(int) impl.Record { return recordWith("7", "Paris", "x", "123") }), 0)
		// The largest block is the first one, or the last one.
		checkLargest(t, append(equalRecords(size), phoneRecord("1234"))[:min(size+1, mostListed)], min(size+1, mostListed))
		checkLargest(t, append(equalRecords(size), namedRecord("Sam", "1980"))[:min(size+1, mostListed)], min(size+1, mostListed))
	}
	checkLargest(t, mixedRecords()[:mostListed], 5)
	for _, records := range blockLists() {
		largest := 0
		for _, block := range blocksInSteps(records) {
			largest = max(largest, len(block.Members))
		}
		checkLargest(t, records, largest)
	}
}

func TestShareBlockValues(t *testing.T) {
	a := recordWith("Anna Smith", "Paris", "1980", "555 1234")
	for _, c := range []struct {
		b    impl.Record
		want bool
	}{
		{recordWith("Smyth", "", "", "99 1234"), true},
		{recordWith("Lee", "", "1980", ""), false},
		// One common key of each kind.
		{phoneRecord("1234"), true},
		{namedRecord("Ann", ""), true},
		{namedRecord("Sam", "1980"), true},
		{namedRecord("Arthur", "1980"), true},
		// Nearly a common key.
		{phoneRecord("12345"), false},
		{phoneRecord("234"), false},
		{namedRecord("Arthur", "1981"), false},
		{namedRecord("Arthur", ""), false},
		{namedRecord("Bob", "1980"), false},
		{recordWith("", "Paris", "1980", ""), false},
		{recordWith("555 1234", "1980", "", "1980"), false},
		{recordWith("", "", "", ""), false},
	} {
		checkShare(t, a, c.b, c.want)
	}
	for _, r := range withoutCommonKey(mostListed + 1)[1:] {
		checkShare(t, withoutCommonKey(1)[0], r, false)
	}
}

func TestShareBlockOfManyRecords(t *testing.T) {
	records := slices.Concat(someRecords(), mixedRecords())
	for i, a := range records {
		keys := impl.BlockKeys(a)
		checkShare(t, a, a, len(keys) > 0)
		for _, b := range records[i+1:] {
			checkShare(t, a, b, haveCommon(keys, impl.BlockKeys(b)))
		}
	}
	for _, bad := range invalidRecords() {
		checkShare(t, bad, bad, false)
		for _, good := range []impl.Record{recordWith("Ann", "Paris", "1980", "555 1234"), recordWith("", "", "", ""), phoneRecord("1234")} {
			checkShare(t, bad, good, false)
		}
	}
	// A record that is not valid has no key, although its fields would have some.
	bad := impl.Record{Source: 0, Key: 0, Version: 1, Fields: []string{"Ann", "Paris", "1980", "555 1234"}}
	checkShare(t, bad, bad, false)
	checkShare(t, bad, recordWith("Ann", "Paris", "1980", "555 1234"), false)
}

// The edge case of the chapter: a block that is too large.
func TestOversizedBlocksAreLeftOut(t *testing.T) {
	for size := 2; size <= mostListed; size++ {
		records := madeRecords(size, func(int) impl.Record { return phoneRecord("1234") })
		checkOversized(t, records, size-1, "p1234")
		checkOversized(t, records, size)
		checkOversized(t, records, size+1)
		checkBlockPairs(t, records, size-1)
		if pairs := impl.BlockPairs(records, size); len(pairs) != size*(size-1)/2 {
			t.Errorf("BlockPairs(%v, %d) = %v", records, size, pairs)
		}
		// Two of them are in another block as well, which is not too large.
		records[0], records[size-1] = recordWith("Lee", "", "", "1234"), recordWith("Lou", "", "", "551234")
		if size > 2 {
			checkOversized(t, records, size-1, "p1234")
			checkBlockPairs(t, records, size-1, 0, size-1)
		}
		checkOversized(t, records, 1, "p1234", "sl000")
		checkBlockPairs(t, records, 1)
	}
	mixed := mixedRecords()[:mostListed]
	checkOversized(t, mixed, 5)
	checkOversized(t, mixed, 4, "p1234")
	checkOversized(t, mixed, 3, "p1234", "ss530")
	checkOversized(t, mixed, 2, "p1234", "sa500", "sl000", "ss530", "y1980a", "y1980s")
	checkBlockPairs(t, mixed, 4, 0, 1, 0, 3, 0, 4, 1, 3, 1, 4, 2, 6, 2, 8, 3, 4, 6, 8, 9, 10)
	checkBlockPairs(t, mixed, 3, 0, 3, 0, 4, 2, 6, 2, 8, 3, 4, 6, 8, 9, 10)
	checkBlockPairs(t, mixed, 2, 2, 8, 9, 10)
}

func TestOversizedBlocksOfAllLimits(t *testing.T) {
	for _, most := range blockLimits {
		checkOversized(t, nil, most)
		checkOversized(t, []impl.Record{}, most)
		checkOversized(t, []impl.Record{recordWith("", "", "", "")}, most)
		one := phoneRecord("1234")
		if most < 1 {
			checkOversized(t, []impl.Record{one}, most, "p1234")
			checkOversized(t, equalRecords(mostListed), most, "p1234", "sa500", "ss530", "y1980a", "y1980s")
		} else {
			checkOversized(t, []impl.Record{one}, most)
		}
		for _, records := range blockLists() {
			var want []string
			for _, block := range blocksInSteps(records) {
				if len(block.Members) > most {
					want = append(want, block.Key)
				}
			}
			checkOversized(t, records, most, want...)
		}
	}
}

// roomyRecords returns a copy of the records whose slices have unused capacity.
func roomyRecords(records []impl.Record) []impl.Record {
	l, _ := withSpareOf(records, recordWith("Sam Spare", "", "1980", "555 1234"))
	for i := range l {
		l[i].Fields, _ = withSpare(l[i].Fields)
	}
	return l
}

// wholeRecords returns a copy of all memory of a list of records.
func wholeRecords(records []impl.Record) []impl.Record {
	l := slices.Clone(records[:cap(records)])
	for i, r := range l {
		l[i].Fields = slices.Clone(r.Fields[:cap(r.Fields)])
	}
	return l
}

func spoilBlocks(blocks []impl.Block) {
	for _, block := range blocks {
		spoil(block.Members, -7)
	}
	spoil(blocks, impl.Block{Key: "changed"})
}

// callBlockFunctions calls all functions with the records and changes their
// results, which shows in the arguments or in other results if they share memory.
func callBlockFunctions(records []impl.Record) {
	spoilBlocks(impl.BuildBlocks(records))
	impl.LargestBlock(records)
	for _, most := range blockLimits {
		spoil(impl.BlockPairs(records, most), impl.IDPair{A: -7, B: -7})
		spoil(impl.OversizedBlocks(records, most), "changed")
	}
	for _, r := range beginning(records) {
		spoil(impl.BlockKeys(r), "changed")
		impl.ShareBlock(records[0], r)
		impl.ShareBlock(r, records[0])
	}
}

func TestBlockArgumentsAreUnchanged(t *testing.T) {
	for _, original := range slices.Concat(blockLists(), tooManyRecords(), listsWithAnInvalidRecord()) {
		records := roomyRecords(original)
		want := wholeRecords(records)
		callBlockFunctions(records)
		if !slices.EqualFunc(wholeRecords(records), want, areEqualRecords) {
			t.Errorf("the records %v became %v", beginning(want), beginning(wholeRecords(records)))
		}
	}
}

func TestBlockResultsShareNoMemory(t *testing.T) {
	for _, records := range blockLists() {
		blocks, want := impl.BuildBlocks(records), blocksInSteps(records)
		pairs, wantPairs := impl.BlockPairs(records, mostListed), blockPairsInSteps(records, mostListed)
		oversized := impl.OversizedBlocks(records, 0)
		callBlockFunctions(records)
		if !slices.EqualFunc(blocks, want, areEqualBlocks) {
			t.Errorf("the blocks %v became %v with those of another call", want, blocks)
		}
		if !slices.Equal(pairs, wantPairs) {
			t.Errorf("the pairs %v became %v with those of another call", wantPairs, pairs)
		}
		checkList(t, "the keys of blocks after a change of another result", oversized, keysOfBlocks(want)...)
		for _, r := range records {
			keys, wantKeys := impl.BlockKeys(r), keysInSteps(r)
			spoil(impl.BlockKeys(r), "changed")
			checkList(t, "the keys after a change of another result", keys, wantKeys...)
		}
	}
}

func TestBlocksHaveSeparateMembers(t *testing.T) {
	for _, records := range blockLists() {
		want := impl.BuildBlocks(records)
		for i := range want {
			changed := impl.BuildBlocks(records)
			spoil(changed[i].Members, -7)
			changed[i] = want[i]
			if !slices.EqualFunc(changed, want, areEqualBlocks) {
				t.Errorf("with the members of %q, %v became %v", want[i].Key, want, changed)
			}
		}
	}
}
