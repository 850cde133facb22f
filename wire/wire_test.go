package wire

import (
	"encoding/binary"
	"hash/fnv"
	"math"
	"math/rand"
	"slices"
	"strings"
	"testing"

	"mootbell/api"
)

const top = math.MaxUint64

// words, whole, list and code follow the chapters' words, so that the tests
// lean on no layer below: numbers as bytes, parts joined, bits, and a token.

func words(l ...uint64) string {
	var b []byte
	for _, w := range l {
		b = binary.LittleEndian.AppendUint64(b, w)
	}
	return string(b)
}

func whole(fixed string, parts ...string) string {
	b := []byte(fixed)
	place := len(fixed) + 4*len(parts)
	for _, p := range parts {
		b = binary.LittleEndian.AppendUint32(b, uint32(place))
		place += len(p)
	}
	return string(b) + strings.Join(parts, "")
}

func list(x api.Bits) string {
	b := make([]byte, x.Len/8+1)
	for _, i := range append(slices.Clone(x.On), x.Len) {
		b[i/8] |= 1 << (i % 8)
	}
	return string(b)
}

func code(t api.Token) string {
	first := "\x00"
	if t.Forged {
		first = "\x01"
	}
	var l []uint64
	for _, p := range t.Pairs {
		l = append(l, p.Key, p.Root)
	}
	return first + words(l...)
}

func data(d api.Data) string { return words(d.Slot, d.Index, d.Block, d.Source, d.Target) }

func voteBytes(v api.Vote) string { return whole(data(v.Data), list(v.Bits), code(v.Token)) }

func aggregateBytes(a api.Aggregate) string {
	return whole(words(a.By), code(a.Proof), voteBytes(a.Vote))
}

// Votes and their pieces, as they may be and as they may not.

var plain = api.Data{Slot: 1, Index: 2, Block: 3, Source: 4, Target: 5}

func datas() []api.Data {
	return []api.Data{
		{}, plain, {Slot: top, Index: top, Block: top, Source: top, Target: top},
		{Slot: 7}, {Index: 7}, {Block: 7}, {Source: 7}, {Target: 7},
		{Slot: 1 << 63}, {Index: 1 << 56}, {Block: 0x0102030405060708}, {Source: 0xf1f2f3f4f5f6f7f8}, {Target: 1 << 40},
	}
}

func set(n int, on ...int) api.Bits { return api.Bits{Len: n, On: on} }

// full is n bits that are all set.
func full(n int) api.Bits {
	b := api.Bits{Len: n}
	for i := range n {
		b.On = append(b.On, i)
	}
	return b
}

func of(l ...uint64) api.Token {
	var t api.Token
	for i := 0; i+1 < len(l); i += 2 {
		t.Pairs = append(t.Pairs, api.Pair{Key: l[i], Root: l[i+1]})
	}
	return t
}

func forge(t api.Token) api.Token {
	t.Forged = true
	return t
}

// upTo is the token of keys 0 to many - 1.
func upTo(many int) api.Token {
	var t api.Token
	for i := range many {
		t.Pairs = append(t.Pairs, api.Pair{Key: uint64(i), Root: 7})
	}
	return t
}

func rightBits() []api.Bits {
	return []api.Bits{
		{}, {On: []int{}}, set(1), set(1, 0), set(7, 6), set(8), set(8, 7), set(9, 0, 8), set(64, 1, 5, 63),
		set(2047, 2046), set(2048), set(2048, 0, 2047), full(2048),
	}
}

func wrongBits() []api.Bits {
	return []api.Bits{
		set(-1), set(math.MinInt), set(2049), set(2049, 1), set(math.MaxInt), set(0, 0), set(1, 1), set(1, -1), set(3, 1, 1), set(3, 2, 1), set(2048, 2048),
	}
}

func rightTokens() []api.Token {
	return []api.Token{
		{}, {Pairs: []api.Pair{}}, {Forged: true}, of(0, 0), of(6, 7), forge(of(6, 7)), of(6, 7, 6, 7), of(6, 7, 6, 8), of(1, top, top, 0),
		upTo(2048), forge(upTo(2048)),
	}
}

func wrongTokens() []api.Token {
	return []api.Token{of(2, 7, 1, 7), of(1, 8, 1, 7), forge(of(2, 0, 1, 0)), upTo(2049), forge(upTo(5000))}
}

// votes has each kind of data with all bits, and each kind of bits with all tokens.
func votes() []api.Vote {
	var l []api.Vote
	for i, b := range rightBits() {
		for _, d := range datas() {
			l = append(l, api.Vote{Data: d, Bits: b, Token: rightTokens()[i%5]})
		}
		for _, t := range rightTokens() {
			l = append(l, api.Vote{Data: plain, Bits: b, Token: t})
		}
	}
	return l
}

func wrongVotes() []api.Vote {
	var l []api.Vote
	for _, b := range wrongBits() {
		l = append(l, api.Vote{Bits: b}, api.Vote{Data: plain, Bits: b, Token: upTo(2048)})
		for _, t := range wrongTokens() {
			l = append(l, api.Vote{Data: plain, Bits: b, Token: t})
		}
	}
	for _, t := range wrongTokens() {
		l = append(l, api.Vote{Token: t}, api.Vote{Data: plain, Bits: full(2048), Token: t})
	}
	return l
}

func aggregates() []api.Aggregate {
	small := api.Vote{Data: plain, Bits: set(9, 0, 8), Token: of(6, 7)}
	var l []api.Aggregate
	for _, by := range []uint64{0, 1, 9, 1 << 63, 0x0102030405060708, top} {
		l = append(l, api.Aggregate{By: by, Vote: small}, api.Aggregate{By: by, Proof: forge(of(by, 3))})
	}
	for _, t := range rightTokens() {
		l = append(l, api.Aggregate{By: 9, Proof: t, Vote: small})
	}
	for _, v := range votes() {
		l = append(l, api.Aggregate{By: 9, Proof: of(9, 4), Vote: v})
	}
	return l
}

func sameToken(a, b api.Token) bool { return a.Forged == b.Forged && slices.Equal(a.Pairs, b.Pairs) }

func sameVote(a, b api.Vote) bool {
	return a.Data == b.Data && a.Bits.Len == b.Bits.Len && slices.Equal(a.Bits.On, b.Bits.On) && sameToken(a.Token, b.Token)
}

func sameAggregate(a, b api.Aggregate) bool {
	return a.By == b.By && sameToken(a.Proof, b.Proof) && sameVote(a.Vote, b.Vote)
}

func expectNoVote(t *testing.T, s string, want api.Errno) {
	t.Helper()
	if v, e := Unvote(s); e != want || !sameVote(v, api.Vote{}) {
		t.Errorf("Unvote(%d bytes): error %d, not %d; Data %v, %d Bits, %d Pairs", len(s), e, want, v.Data, v.Bits.Len, len(v.Token.Pairs))
	}
}

func expectNoAggregate(t *testing.T, s string, want api.Errno) {
	t.Helper()
	if a, e := Unaggregate(s); e != want || !sameAggregate(a, api.Aggregate{}) {
		t.Errorf("Unaggregate(%d bytes): error %d, not %d; By %d, %d Pairs, %v", len(s), e, want, a.By, len(a.Proof.Pairs), a.Vote.Data)
	}
}

// F1.

func TestRootIsTheSumOfDatasBytes(t *testing.T) {
	seen := map[uint64]bool{}
	for _, d := range datas() {
		h := fnv.New64a()
		h.Write([]byte(data(d)))
		if got := Root(d); got != h.Sum64() {
			t.Errorf("Root(%v) = %d, not %d", d, got, h.Sum64())
		}
		seen[Root(d)] = true
	}
	if len(seen) != len(datas()) {
		t.Errorf("%d roots of %d unlike data", len(seen), len(datas()))
	}
}

func TestVoteOfAllNoughts(t *testing.T) {
	want := strings.Repeat("\x00", 40) + "0\x00\x00\x00" + "1\x00\x00\x00" + "\x01" + "\x00"
	for _, v := range []api.Vote{{}, {Bits: api.Bits{On: []int{}}, Token: api.Token{Pairs: []api.Pair{}}}} {
		if s, e := Vote(v); s != want || e != api.OK {
			t.Errorf("%q, %d", s, e)
		}
	}
}

func TestVoteIsDataBitsAndToken(t *testing.T) {
	v := api.Vote{Data: plain, Bits: set(9, 0, 8), Token: forge(of(6, 0x0908))}
	want := "\x01\x00\x00\x00\x00\x00\x00\x00\x02\x00\x00\x00\x00\x00\x00\x00\x03\x00\x00\x00\x00\x00\x00\x00\x04\x00\x00\x00\x00\x00\x00\x00\x05\x00\x00\x00\x00\x00\x00\x00" +
		"\x30\x00\x00\x00\x32\x00\x00\x00" + "\x01\x03" + "\x01\x06\x00\x00\x00\x00\x00\x00\x00\x08\x09\x00\x00\x00\x00\x00\x00"
	if s, e := Vote(v); s != want || e != api.OK {
		t.Errorf("%q, %d", s, e)
	}
	for i, v := range votes() {
		if s, e := Vote(v); s != voteBytes(v) || e != api.OK {
			t.Errorf("%d: %d bytes, error %d", i, len(s), e)
		}
	}
}

func TestTheGreatestVoteMayBe(t *testing.T) {
	v := api.Vote{Data: datas()[2], Bits: full(2048), Token: upTo(2048)}
	s, e := Vote(v)
	if len(s) != 40+8+257+1+2048*16 || e != api.OK {
		t.Fatalf("%d bytes, error %d", len(s), e)
	}
	if got, e := Unvote(s); !sameVote(got, v) || e != api.OK {
		t.Errorf("read: error %d", e)
	}
}

func TestVoteRefusesWhatIsNotRight(t *testing.T) {
	for i, v := range wrongVotes() {
		if s, e := Vote(v); s != "" || e != api.ErrArg {
			t.Errorf("%d: %d bytes, error %d", i, len(s), e)
		}
	}
}

func TestUnvoteReadsWhatVoteMakes(t *testing.T) {
	for i, v := range votes() {
		if got, e := Unvote(voteBytes(v)); !sameVote(got, v) || e != api.OK {
			t.Errorf("%d: error %d", i, e)
		}
	}
}

func TestUnvoteTellsWhatSplitTells(t *testing.T) {
	s := voteBytes(api.Vote{Data: plain, Bits: set(9, 0, 8), Token: of(6, 7)})
	for n := range 48 {
		expectNoVote(t, s[:n], api.ErrShort)
	}
	for n := 48; n < 50; n++ {
		expectNoVote(t, s[:n], api.ErrForm)
	}
	expectNoVote(t, strings.Repeat("a", 48), api.ErrForm)
	expectNoVote(t, strings.Repeat("a", 65536), api.ErrForm)
	expectNoVote(t, strings.Repeat("a", 65537), api.ErrLong)
	expectNoVote(t, whole(data(plain), "\x01", strings.Repeat("\x00", 65536-48)), api.ErrLong)
	for at := 40; at < 44; at++ { // the first part's place, which may be but one
		for b := range 256 {
			if byte(b) != s[at] {
				expectNoVote(t, s[:at]+string([]byte{byte(b)})+s[at+1:], api.ErrForm)
			}
		}
	}
	expectNoVote(t, whole(data(plain)), api.ErrShort)
	expectNoVote(t, whole(data(plain), "\x01"), api.ErrShort)
	expectNoVote(t, whole(data(plain), "\x01", "\x00", ""), api.ErrForm)
	expectNoVote(t, whole(data(plain)[8:], "\x01", "\x00"), api.ErrShort)
	expectNoVote(t, whole(data(plain)+words(6), "\x01", "\x00"), api.ErrForm)
}

func TestUnvoteTellsWhatUnlistTells(t *testing.T) {
	for _, c := range []struct {
		list string
		want api.Errno
	}{
		{"", api.ErrForm}, {"\x00", api.ErrForm}, {"\x01\x00", api.ErrForm}, {strings.Repeat("\x00", 257), api.ErrForm},
		{strings.Repeat("\xff", 2000) + "\x00", api.ErrForm},
		{strings.Repeat("\x00", 256) + "\x02", api.ErrLong}, {strings.Repeat("\xff", 257), api.ErrLong}, {strings.Repeat("\x00", 257) + "\x01", api.ErrLong},
	} {
		for _, code := range []string{"\x00", code(of(6, 7)), "", "\x02", code(upTo(2049))} { // Unlist is ahead of Decode
			expectNoVote(t, whole(data(plain), c.list, code), c.want)
		}
	}
	for n, s := range map[int]string{2048: strings.Repeat("\x00", 256) + "\x01", 2047: strings.Repeat("\x00", 255) + "\x80"} {
		if v, e := Unvote(whole(data(plain), s, "\x00")); v.Bits.Len != n || len(v.Bits.On) != 0 || v.Data != plain || e != api.OK {
			t.Errorf("of %d bits: %v, %d", n, v, e)
		}
	}
}

func TestUnvoteTellsWhatDecodeTells(t *testing.T) {
	for _, c := range []struct {
		code string
		want api.Errno
	}{
		{"", api.ErrForm}, {"\x02", api.ErrForm}, {"\xff" + code(of(6, 7))[1:], api.ErrForm}, {code(of(6, 7)) + "a", api.ErrForm}, {code(of(6, 7))[:16], api.ErrForm},
		{code(of(2, 7, 1, 7)), api.ErrForm}, {code(of(1, 8, 1, 7)), api.ErrForm}, {code(upTo(2049)) + "a", api.ErrForm},
		{code(upTo(2049)), api.ErrLong}, {code(forge(upTo(4000))), api.ErrLong},
	} {
		for _, b := range rightBits() {
			expectNoVote(t, whole(data(plain), list(b), c.code), c.want)
		}
	}
}

// F2.

func TestAggregateIsByProofAndVote(t *testing.T) {
	a := api.Aggregate{By: 0x0a09, Proof: forge(of(5, 6)), Vote: api.Vote{Data: plain, Bits: set(3, 0, 2), Token: of(6, 7)}}
	want := "\x09\x0a\x00\x00\x00\x00\x00\x00" + "\x10\x00\x00\x00\x21\x00\x00\x00" +
		"\x01\x05\x00\x00\x00\x00\x00\x00\x00\x06\x00\x00\x00\x00\x00\x00\x00" + voteBytes(a.Vote)
	if s, e := Aggregate(a); s != want || e != api.OK {
		t.Errorf("%q, %d", s, e)
	}
	for i, a := range aggregates() {
		if s, e := Aggregate(a); s != aggregateBytes(a) || e != api.OK {
			t.Errorf("%d: %d bytes, error %d", i, len(s), e)
		}
	}
}

func TestAggregateRefusesWhatIsNotRight(t *testing.T) {
	refuse := func(a api.Aggregate) {
		t.Helper()
		if s, e := Aggregate(a); s != "" || e != api.ErrArg {
			t.Errorf("%d Pairs, vote %v: %d bytes, error %d", len(a.Proof.Pairs), a.Vote.Data, len(s), e)
		}
	}
	good := api.Vote{Data: plain, Bits: set(9, 0, 8), Token: of(6, 7)}
	great := api.Vote{Data: plain, Bits: full(2048), Token: upTo(2048)}
	for _, p := range wrongTokens() {
		refuse(api.Aggregate{Proof: p})
		refuse(api.Aggregate{By: 9, Proof: p, Vote: good})
		refuse(api.Aggregate{By: 9, Proof: p, Vote: great}) // ahead of ErrLong
		refuse(api.Aggregate{By: 9, Proof: p, Vote: wrongVotes()[0]})
	}
	for _, v := range wrongVotes() {
		refuse(api.Aggregate{Vote: v})
		refuse(api.Aggregate{By: 9, Proof: of(9, 4), Vote: v})
		refuse(api.Aggregate{By: 9, Proof: upTo(2048), Vote: v})
	}
}

// Beside a proof of 2048 pairs there is room for a vote of 32751 bytes; one of
// n bits and p pairs has 50 + n/8 + 16 p.
func TestAggregateHasAtMostSoManyBytes(t *testing.T) {
	for _, c := range []struct {
		pairs, bits int
		want        api.Errno
	}{
		{2027, 2048, api.OK}, {2028, 2031, api.OK}, {2028, 2032, api.ErrLong}, {2028, 2048, api.ErrLong},
		{2029, 1903, api.OK}, {2029, 1904, api.ErrLong}, {2043, 0, api.OK}, {2043, 111, api.OK}, {2043, 112, api.ErrLong},
		{2044, 0, api.ErrLong}, {2048, 0, api.ErrLong}, {2048, 2048, api.ErrLong},
	} {
		a := api.Aggregate{By: 9, Proof: upTo(2048), Vote: api.Vote{Data: plain, Bits: set(c.bits), Token: upTo(c.pairs)}}
		s, e := Aggregate(a)
		if e != c.want || e == api.OK && s != aggregateBytes(a) || e != api.OK && s != "" {
			t.Errorf("%d Pairs, %d Bits: error %d, %d bytes of %d", c.pairs, c.bits, e, len(s), len(aggregateBytes(a)))
		}
	}
}

func TestTheGreatestAggregateIsReadAgain(t *testing.T) {
	a := api.Aggregate{By: 9, Proof: upTo(2048), Vote: api.Vote{Data: plain, Bits: full(111), Token: upTo(2043)}}
	s, e := Aggregate(a)
	if len(s) != 65536 || e != api.OK {
		t.Fatalf("%d bytes, error %d", len(s), e)
	}
	if got, e := Unaggregate(s); !sameAggregate(got, a) || e != api.OK {
		t.Errorf("read with error %d", e)
	}
	expectNoAggregate(t, s+"a", api.ErrLong)
}

func TestUnaggregateReadsWhatAggregateMakes(t *testing.T) {
	for i, a := range aggregates() {
		if got, e := Unaggregate(aggregateBytes(a)); !sameAggregate(got, a) || e != api.OK {
			t.Errorf("%d: error %d", i, e)
		}
	}
}

func TestUnaggregateTellsWhatSplitTells(t *testing.T) {
	vote := voteBytes(api.Vote{Data: plain, Bits: set(9, 0, 8), Token: of(6, 7)})
	s := whole(words(9), code(of(9, 4)), vote)
	for n := range 16 {
		expectNoAggregate(t, s[:n], api.ErrShort)
	}
	for n := 16; n < 33; n++ {
		expectNoAggregate(t, s[:n], api.ErrForm)
	}
	for at := 8; at < 12; at++ {
		for b := range 256 {
			if byte(b) != s[at] {
				expectNoAggregate(t, s[:at]+string([]byte{byte(b)})+s[at+1:], api.ErrForm)
			}
		}
	}
	expectNoAggregate(t, strings.Repeat("a", 65536), api.ErrForm)
	expectNoAggregate(t, strings.Repeat("a", 65537), api.ErrLong)
	expectNoAggregate(t, whole(words(9)), api.ErrShort)
	expectNoAggregate(t, whole("", code(of(9, 4)), vote), api.ErrForm)
	expectNoAggregate(t, whole(words(9, 9), code(of(9, 4)), vote), api.ErrForm)
	expectNoAggregate(t, whole(words(9), code(of(9, 4)), vote, ""), api.ErrForm)
	expectNoAggregate(t, vote, api.ErrForm)
}

func TestUnaggregateTellsWhatDecodeTells(t *testing.T) {
	good := voteBytes(api.Vote{Data: plain, Bits: set(9, 0, 8), Token: of(6, 7)})
	for _, c := range []struct {
		code string
		want api.Errno
	}{
		{"", api.ErrForm}, {"\x02", api.ErrForm}, {code(of(9, 4)) + "a", api.ErrForm}, {code(of(2, 7, 1, 7)), api.ErrForm},
		{code(upTo(2049)), api.ErrLong}, {code(forge(upTo(3000))), api.ErrLong},
	} {
		for _, vote := range []string{good, "", good[:47], good + "a"} { // Decode is ahead of Unvote
			expectNoAggregate(t, whole(words(9), c.code, vote), c.want)
		}
	}
}

func TestUnaggregateTellsWhatUnvoteTells(t *testing.T) {
	good := voteBytes(api.Vote{Data: plain, Bits: set(9, 0, 8), Token: of(6, 7)})
	wrong := []string{
		"", "a", good[:40], good[:47], good[:48], good[:len(good)-1], good + "a", good[1:], strings.Repeat("a", 48),
		whole(data(plain), "", "\x00"), whole(data(plain), "\x01\x00", "\x00"), whole(data(plain), strings.Repeat("\x00", 256)+"\x02", "\x02"),
		whole(data(plain), "\x01", "\x02"), whole(data(plain), "\x01", code(of(2, 7, 1, 7))), whole(data(plain), "\x01", code(upTo(2049))),
	}
	told := map[api.Errno]bool{}
	for _, s := range wrong {
		_, want := Unvote(s)
		told[want] = true
		for _, p := range []api.Token{{}, forge(of(9, 4)), upTo(1000)} {
			expectNoAggregate(t, whole(words(9), code(p), s), want)
		}
	}
	if told[api.OK] || !told[api.ErrForm] || !told[api.ErrShort] || !told[api.ErrLong] {
		t.Errorf("too little is tried: %v", told)
	}
}

// F3.

func records() []api.Record {
	return []api.Record{
		{}, {Seq: 1}, {Nets: 1}, {Lag: 1}, {Seq: 1, Nets: 2, Lag: 3}, {Seq: top, Nets: top, Lag: top},
		{Seq: 1 << 63, Nets: 1 << 62, Lag: api.NaN}, {Seq: 0x0102030405060708, Nets: 1 << 63, Lag: math.MaxUint64 - 1},
	}
}

func TestRecordIsThreeNumbers(t *testing.T) {
	want := "\x08\x07\x06\x05\x04\x03\x02\x01" + "\x00\x00\x00\x00\x00\x00\x00\x80" + "\x01\x00\x00\x00\x00\x00\xf8\x7f"
	if s := Record(api.Record{Seq: 0x0102030405060708, Nets: 1 << 63, Lag: api.NaN}); s != want {
		t.Errorf("%q", s)
	}
	for _, r := range records() {
		if s := Record(r); s != words(r.Seq, r.Nets, r.Lag) {
			t.Errorf("Record(%v) = %q", r, s)
		}
	}
}

func TestUnrecordReadsWhatRecordMakes(t *testing.T) {
	for _, r := range records() {
		if got, e := Unrecord(words(r.Seq, r.Nets, r.Lag)); got != r || e != api.OK {
			t.Errorf("%v, %d, not %v", got, e, r)
		}
	}
}

func TestUnrecordRefusesAllButSoManyBytes(t *testing.T) {
	for _, n := range []int{65535, 65536, 65537, 100000} {
		if got, e := Unrecord(strings.Repeat("a", n)); got != (api.Record{}) || e != api.ErrForm {
			t.Errorf("%d bytes: %v, %d", n, got, e)
		}
	}
	for n := range 100 {
		got, e := Unrecord(strings.Repeat("a", n))
		if n == 24 && e != api.OK || n != 24 && (got != (api.Record{}) || e != api.ErrForm) {
			t.Errorf("%d bytes: %v, %d", n, got, e)
		}
	}
}

// F4.

func TestReadingUndoesWriting(t *testing.T) {
	for i, v := range votes() {
		s, _ := Vote(v)
		if got, e := Unvote(s); !sameVote(got, v) || e != api.OK {
			t.Errorf("vote %d: error %d", i, e)
		}
	}
	for i, a := range aggregates() {
		s, _ := Aggregate(a)
		if got, e := Unaggregate(s); !sameAggregate(got, a) || e != api.OK {
			t.Errorf("aggregate %d: error %d", i, e)
		}
	}
	for _, r := range records() {
		if got, e := Unrecord(Record(r)); got != r || e != api.OK {
			t.Errorf("record %v: %v, %d", r, got, e)
		}
	}
}

// changed calls f with s, in which a byte or two are others than they were.
func changed(s string, f func(s string)) {
	r := rand.New(rand.NewSource(6))
	for at := range len(s) {
		for b := range 256 {
			c := []byte(s)
			c[at] = byte(b)
			f(string(c))
			c[r.Intn(len(c))] = byte(r.Intn(256))
			f(string(c))
		}
	}
}

func TestOfWhatIsReadTheSameBytesAreMade(t *testing.T) {
	read := map[string]int{}
	changed(voteBytes(api.Vote{Data: plain, Bits: set(9, 0, 8), Token: of(6, 7, 6, 8)}), func(s string) {
		v, e := Unvote(s)
		if e != api.OK {
			return
		}
		read["votes"]++
		if again, e := Vote(v); again != s || e != api.OK {
			t.Errorf("%q became %q, error %d", s, again, e)
		}
	})
	changed(aggregateBytes(api.Aggregate{By: 9, Proof: of(9, 4), Vote: api.Vote{Data: plain, Bits: set(3, 0, 2), Token: of(6, 7)}}), func(s string) {
		a, e := Unaggregate(s)
		if e != api.OK {
			return
		}
		read["aggregates"]++
		if again, e := Aggregate(a); again != s || e != api.OK {
			t.Errorf("%q became %q, error %d", s, again, e)
		}
	})
	changed(words(1, 2, 3), func(s string) {
		r, e := Unrecord(s)
		if e != api.OK || Record(r) != s {
			t.Errorf("%q became %q, error %d", s, Record(r), e)
		}
	})
	if read["votes"] < 10000 || read["aggregates"] < 10000 {
		t.Errorf("%v were read: too little is tried", read)
	}
}

// R1.

func TestWhateverIsHandedInIsAnswered(t *testing.T) {
	r := rand.New(rand.NewSource(7))
	for range 20000 {
		b := make([]byte, r.Intn(120))
		for i := range b {
			b[i] = byte(r.Intn(256) * r.Intn(2))
		}
		for _, e := range []api.Errno{errorOf(Unvote(string(b))), errorOf(Unaggregate(string(b))), errorOf(Unrecord(string(b)))} {
			if e != api.OK && e != api.ErrForm && e != api.ErrShort && e != api.ErrLong {
				t.Fatalf("%q: error %d", b, e)
			}
		}
	}
}

func errorOf[T any](_ T, e api.Errno) api.Errno { return e }

// R3.

func TestWhatIsHandedInIsLeftAsItWas(t *testing.T) {
	on, pairs, proof := []int{0, 8, 99}, of(6, 7, 9, 9).Pairs, of(9, 4, 1, 1).Pairs
	v := api.Vote{Data: plain, Bits: api.Bits{Len: 9, On: on[:2]}, Token: api.Token{Pairs: pairs[:1]}}
	a := api.Aggregate{By: 9, Proof: api.Token{Pairs: proof[:1]}, Vote: v}
	Vote(v)
	Aggregate(a)
	if !slices.Equal(on, []int{0, 8, 99}) || !slices.Equal(pairs, of(6, 7, 9, 9).Pairs) || !slices.Equal(proof, of(9, 4, 1, 1).Pairs) {
		t.Errorf("became %v, %v, %v", on, pairs, proof)
	}
}

// spoil writes into all of a list, its spare room too.
func spoil[T any](l []T, x T) {
	l = l[:cap(l)]
	for i := range l {
		l[i] = x
	}
}

func TestAnswersAreNewMemory(t *testing.T) {
	a := api.Aggregate{By: 9, Proof: of(9, 4, 9, 5), Vote: api.Vote{Data: plain, Bits: set(9, 0, 8), Token: of(6, 7, 6, 8)}}
	got, _ := Unaggregate(aggregateBytes(a))
	other, _ := Unaggregate(aggregateBytes(a))
	spoil(got.Proof.Pairs, api.Pair{Key: 99, Root: 99})
	if !sameVote(got.Vote, a.Vote) {
		t.Error("the proof shares memory with the vote")
	}
	spoil(got.Vote.Bits.On, 99)
	if !sameToken(got.Vote.Token, a.Vote.Token) {
		t.Error("bits share memory with the token")
	}
	spoil(got.Vote.Token.Pairs, api.Pair{Key: 99, Root: 99})
	again, _ := Unaggregate(aggregateBytes(a))
	if !sameAggregate(other, a) || !sameAggregate(again, a) {
		t.Error("what was written into one answer stands elsewhere, too")
	}
}

// R4.

func TestTheSameIsAnsweredForTheSame(t *testing.T) {
	for i, v := range append(votes(), wrongVotes()...) {
		s, d := Vote(v)
		u, e := Vote(v)
		if s != u || d != e || Root(v.Data) != Root(v.Data) {
			t.Errorf("%d: two answers", i)
		}
		a, d := Unvote(s)
		b, e := Unvote(s)
		if !sameVote(a, b) || d != e {
			t.Errorf("%d: two answers of bytes", i)
		}
	}
}
