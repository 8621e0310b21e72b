package op_test

import (
	"encoding/hex"
	"fmt"
	"slices"
	"strings"
	"testing"

	"cistern/api"
	"cistern/op"
)

// eachLine gives the lines of each, as they stand.
func eachLine() []string {
	return []string{
		"create a 10\n",
		"snap s of a\n",
		"clone ~c.1 of s\n",
		"resize vol-2 262144\n",
		"rename a to b_@~\n",
		"delete monday\n",
		"restore a from s\n",
		"write a 262143 " + hex.EncodeToString(noise(512, 3)) + "\n",
		"discard a 0 262144\n",
		"fill a 1000 1032\n",
		"extend 256\n",
	}
}

func TestP16_4EachKind(t *testing.T) {
	lines := eachLine()
	for i, o := range each() {
		checkPrint(t, list(o), lines[i])
		checkParse(t, lines[i], list(o))
	}
	checkPrint(t, each(), strings.Join(lines, ""))
	checkParse(t, strings.Join(lines, ""), each())
	backwards := each()
	slices.Reverse(backwards)
	slices.Reverse(lines)
	checkPrint(t, backwards, strings.Join(lines, ""))
	checkParse(t, strings.Join(lines, ""), backwards)
}

func TestP16_4NoneAndMany(t *testing.T) {
	checkPrint(t, nil, "")
	checkPrint(t, []api.Op{}, "")
	checkParse(t, "", nil)
	many := slices.Repeat(each(), 2000)
	checkPrint(t, many, strings.Repeat(strings.Join(eachLine(), ""), 2000))
	checkParse(t, strings.Repeat(strings.Join(eachLine(), ""), 2000), many)
}

func TestP16_4DigitsOfData(t *testing.T) {
	data := make([]byte, 512)
	for i := range data {
		data[i] = byte(i)
	}
	text, e := op.Print(list(write("w", 0, data)))
	if e != api.OK || !strings.HasPrefix(text, "write w 0 000102030405060708090a0b0c0d0e0f101112") || !strings.HasSuffix(text, "f9fafbfcfdfeff\n") || len(text) != len("write w 0 ")+1024+1 {
		t.Errorf("Print = %q, %d", text, e)
	}
	checkParse(t, text, list(write("w", 0, data)))
	for b := range 256 {
		all := slices.Repeat([]byte{byte(b)}, 512)
		line := "write w 7 " + strings.Repeat(fmt.Sprintf("%02x", b), 512) + "\n"
		checkPrint(t, list(write("w", 7, all)), line)
		checkParse(t, line, list(write("w", 7, all)))
	}
}

func TestP16_5Blanks(t *testing.T) {
	for _, line := range eachLine() {
		line = strings.TrimSuffix(line, "\n")
		var bad []string
		for i := range line {
			switch {
			case line[i] == ' ':
				bad = append(bad, line[:i]+"  "+line[i+1:], line[:i]+line[i+1:], line[:i]+"\t"+line[i+1:], line[:i]+"\u00a0"+line[i+1:], line[:i]+" \t"+line[i+1:], line[:i]+"\r "+line[i+1:], line[:i]+"\n"+line[i+1:], line[:i]+"_"+line[i+1:])
			case i < 40:
				bad = append(bad, line[:i]+" "+line[i:], line[:i]+"\t"+line[i:])
			}
		}
		bad = append(bad, " "+line, line+" ", "\t"+line, line+"\t", line+"\r", line+"\x00", "\x00"+line, "\ufeff"+line, line+" #", line+" x", line+" 0", line+"\v", line+"\f")
		for _, text := range bad {
			checkNoParse(t, text+"\n", 1)
			checkNoParse(t, text+"\ndelete a\n", 1)
			checkNoParse(t, "delete a\n"+text+"\n", 2)
		}
	}
	for count := range 8 {
		checkNoParse(t, strings.Repeat(" ", count)+"\n", 1)
	}
	checkNoParse(t, strings.Repeat(" ", 1<<20)+"\n", 1)
	checkNoParse(t, "delete a"+strings.Repeat(" ", 1<<20)+"\n", 1)
}

func TestP16_5WordsTooManyAndTooFew(t *testing.T) {
	for _, line := range eachLine() {
		words := strings.Split(strings.TrimSuffix(line, "\n"), " ")
		for i := range words {
			less := slices.Delete(slices.Clone(words), i, i+1)
			checkNoParse(t, strings.Join(less, " ")+"\n", 1)
			twice := slices.Insert(slices.Clone(words), i, words[i])
			checkNoParse(t, strings.Join(twice, " ")+"\n", 1)
			empty := slices.Clone(words)
			empty[i] = ""
			checkNoParse(t, strings.Join(empty, " ")+"\n", 1)
		}
		for i := range len(words) - 1 {
			swapped := slices.Clone(words)
			swapped[i], swapped[i+1] = swapped[i+1], swapped[i]
			checkTextAgainstModel(t, strings.Join(swapped, " ")+"\n")
		}
	}
}

func TestP16_5Numbers(t *testing.T) {
	good := []string{"1", "9", "10", "11", "99", "100", "262143", "262144"}
	bad := []string{
		"", "-", "+", "01", "00", "010", "0262144", "+1", "-1", "-0", "+0", "1+", "1-", " 1", "1 ", "1.", "1.0", ".1", "1e1", "0x1", "0b1", "0o1", "1_0", "_1", "1_", "1,0", "a", "1a", "a1", "f", "/", ":", "1/", "1:", "/1", ":1", "\u0661", "\uff11", "\u00b2", "1\x00", "\x001",
		"262145", "262146", "999999", "1000000", "2147483647", "2147483648", "4294967295", "4294967296", "4294967297", "4294967306", "9223372036854775807", "9223372036854775808", "18446744073709551615", "18446744073709551616", "18446744073709551617", "18446744073709551626", "99999999999999999999", "-9223372036854775808", "-9223372036854775809", "-18446744073709551615", strings.Repeat("9", 100), strings.Repeat("9", 100000), strings.Repeat("0", 100000) + "1", "1" + strings.Repeat("0", 1000),
	}
	for _, verb := range []string{"create a ", "resize a ", "extend "} {
		for _, n := range good {
			if _, line, e := op.Parse(verb + n + "\n"); line != 0 || e != api.OK {
				t.Errorf("Parse(%q) = %d, %d", verb+n, line, e)
			}
		}
		checkNoParse(t, verb+"0\n", 1)
		for _, n := range bad {
			checkNoParse(t, verb+n+"\n", 1)
		}
	}
	data := hex.EncodeToString(noise(512, 1))
	checkParse(t, "write a 0 "+data+"\n", list(write("a", 0, noise(512, 1))))
	checkParse(t, "write a 262143 "+data+"\n", list(write("a", 262143, noise(512, 1))))
	checkNoParse(t, "write a 262144 "+data+"\n", 1)
	for _, verb := range []string{"discard", "fill"} {
		o := api.Op{Kind: api.OpDiscard, Name: "a"}
		if verb == "fill" {
			o.Kind = api.OpFill
		}
		checkParse(t, verb+" a 0 0\n", list(o))
		for _, n := range bad {
			checkNoParse(t, verb+" a "+n+" 262144\n", 1)
			checkNoParse(t, verb+" a 0 "+n+"\n", 1)
			checkNoParse(t, verb+" a "+n+" "+n+"\n", 1)
			checkNoParse(t, "write a "+n+" "+data+"\n", 1)
		}
	}
	checkParse(t, "fill a 0 32\n", list(fill("a", 0, 32)))
	checkNoParse(t, "fill a 0 33\n", 1)
	checkParse(t, "fill a 262144 262144\n", list(fill("a", 262144, 262144)))
	checkNoParse(t, "fill a 3 2\n", 1)
	checkParse(t, "discard a 262144 262144\n", list(discard("a", 262144, 262144)))
	checkNoParse(t, "discard a 3 2\n", 1)
	checkNoParse(t, "discard a 0 262145\n", 1)
}

func TestP16_5Data(t *testing.T) {
	digits := hex.EncodeToString(noise(512, 4))
	good := "write a 0 " + digits + "\n"
	checkParse(t, good, list(write("a", 0, noise(512, 4))))
	for _, length := range []int{0, 1, 2, 1020, 1022, 1023} {
		checkNoParse(t, "write a 0 "+digits[:length]+"\n", 1)
	}
	for _, more := range []string{"0", "00", "f", "a ", " ", "0000"} {
		checkNoParse(t, "write a 0 "+digits+more+"\n", 1)
	}
	checkNoParse(t, "write a 0 "+strings.Repeat(digits, 2)+"\n", 1)
	checkNoParse(t, "write a 0 0x"+digits[2:]+"\n", 1)
	checkNoParse(t, "write a 0 "+strings.ToUpper(digits)+"\n", 1)
	for _, at := range []int{0, 1, 2, 511, 512, 1022, 1023} {
		for c := range 256 {
			text := []byte(digits)
			text[at] = byte(c)
			line := "write a 0 " + string(text) + "\n"
			if !strings.ContainsRune("0123456789abcdef", rune(c)) {
				checkNoParse(t, line, 1)
				continue
			}
			data, err := hex.DecodeString(string(text))
			if err != nil {
				t.Fatal(err)
			}
			checkParse(t, line, list(write("a", 0, data)))
		}
	}
	// 1024 bytes, but not as many signs; and as many signs, but more bytes.
	checkNoParse(t, "write a 0 "+digits[:1022]+"ä\n", 1)
	checkNoParse(t, "write a 0 "+digits[:1023]+"ä\n", 1)
	checkNoParse(t, "write a 0 "+"ä"+digits[2:]+"\n", 1)
}

func TestP16_5Words(t *testing.T) {
	verbs := []string{"create", "snap", "clone", "resize", "rename", "delete", "restore", "write", "discard", "fill", "extend"}
	for i, line := range eachLine() {
		words := strings.SplitN(line, " ", 2)
		// Each verb ahead of each other's words: what is a line then is so by the document's table alone.
		for _, verb := range verbs {
			text := verb + " " + words[1]
			if want, bad := untold(text); bad == 0 {
				checkParse(t, text, want)
			} else {
				checkNoParse(t, text, 1)
			}
		}
		verb := verbs[i]
		for _, other := range []string{strings.ToUpper(verb), strings.ToUpper(verb[:1]) + verb[1:], verb[:len(verb)-1], verb + "s", verb[1:], "", "NAME", "?", fmt.Sprint(i + 1), string([]byte{byte(i + 1)})} {
			checkNoParse(t, other+" "+words[1], 1)
		}
		checkNoParse(t, verb+"\n", 1)
		checkNoParse(t, verb+" \n", 1)
	}
	for _, word := range []string{"of", "to", "from", "Of", "OF", "0f", "o", "off", "TO", "From", "NAME", "OTHER", "a", ""} {
		for verb, right := range map[string]string{"snap": "of", "clone": "of", "rename": "to", "restore": "from"} {
			text := verb + " a " + word + " b\n"
			if word == right {
				checkParse(t, text, []api.Op{{Kind: 1 + slices.Index(verbs, verb), Name: "a", Other: "b"}})
			} else {
				checkNoParse(t, text, 1)
			}
		}
	}
	// A name may be a word of a line.
	checkParse(t, "snap of of of\nrename to to to\nrestore from from from\ndelete delete\n", list(snap("of", "of"), rename("to", "to"), restore("from", "from"), remove("delete")))
	// The words by which the document tells a line's form are no names.
	checkNoParse(t, "create NAME TO\n", 1)
	checkNoParse(t, "create NAME 10\n", 1)
	checkNoParse(t, "create a TO\n", 1)
	checkNoParse(t, "snap NAME of OTHER\n", 1)
	checkNoParse(t, "write a FROM DATA\n", 1)
	checkNoParse(t, "extend TO\n", 1)
}

func TestP16_5Names(t *testing.T) {
	long := strings.Repeat("z", 31)
	checkParse(t, "delete "+long+"\n", list(remove(long)))
	checkParse(t, "rename "+long+" to "+long+"\n", list(rename(long, long)))
	checkParse(t, "create ~ 1\n", list(create("~", 1)))
	for _, name := range []string{"", "A", "0", "1", ".", "-", "_", "@", "aB", "a/b", "a\x00", "ä", "a\xff", long + "z", strings.Repeat(long, 1000)} {
		for _, line := range []string{"create " + name + " 1", "snap " + name + " of a", "snap a of " + name, "clone " + name + " of a", "clone a of " + name, "resize " + name + " 1", "rename " + name + " to a", "rename a to " + name, "delete " + name, "restore " + name + " from a", "restore a from " + name, "write " + name + " 0 " + strings.Repeat("0", 1024), "discard " + name + " 0 1", "fill " + name + " 0 1"} {
			checkNoParse(t, line+"\n", 1)
		}
	}
}

func TestP16_5Lines(t *testing.T) {
	for _, line := range eachLine() {
		bare := strings.TrimSuffix(line, "\n")
		checkNoParse(t, bare, 1)
		checkNoParse(t, line+bare, 2)
		checkNoParse(t, line+line+"x", 3)
		checkNoParse(t, line+"\n", 2)
		checkNoParse(t, "\n"+line, 1)
		checkNoParse(t, line+"\n"+line, 2)
		checkNoParse(t, bare+"\r\n", 1)
		checkNoParse(t, bare+"\r", 1)
		checkNoParse(t, bare+"\n\r", 2)
		checkNoParse(t, "#"+line, 1)
		checkParse(t, line+line, slices.Repeat(mustParse(t, line), 2))
		// Every beginning of a line is none.
		for length := 1; length < len(line); length++ {
			checkNoParse(t, line[:length], 1)
			checkNoParse(t, line+line[:length], 2)
		}
	}
	for count := 1; count < 5; count++ {
		checkNoParse(t, strings.Repeat("\n", count), 1)
	}
	checkNoParse(t, "x", 1)
	checkNoParse(t, " ", 1)
	checkNoParse(t, "\x00", 1)
	checkNoParse(t, "\r", 1)
}

func mustParse(t *testing.T, text string) []api.Op {
	t.Helper()
	ops, _, e := op.Parse(text)
	if e != api.OK {
		t.Fatalf("Parse(%q) = %d", short(text), e)
	}
	return ops
}

func TestP16_5TheFirstBadLineOfMany(t *testing.T) {
	lines := slices.Repeat(eachLine(), 20)
	bad := []string{"\n", "create a 010\n", "x\n", "delete A\n", "write a 0 00\n", " \n"}
	for at := range lines {
		with := slices.Clone(lines)
		with[at] = bad[at%len(bad)]
		checkNoParse(t, strings.Join(with, ""), at+1)
		// What is bad behind it makes no difference.
		for later := at + 1; later < len(with); later += 1 + later/3 {
			with[later] = bad[later%len(bad)]
		}
		checkNoParse(t, strings.Join(with, ""), at+1)
		checkNoParse(t, strings.Join(with, "")+"delete a", at+1)
	}
	checkNoParse(t, strings.Join(lines, "")+"delete a", len(lines)+1)
	checkNoParse(t, strings.Repeat("delete a\n", 99999)+"delete a", 100000)
}

// Each byte of a text is changed to each other one, taken out, and set twice.
func TestP16_5AByteIsChanged(t *testing.T) {
	var lines []string
	for _, line := range eachLine() {
		if len(line) < 100 {
			lines = append(lines, line)
		}
	}
	text := strings.Join(lines, "")
	for at := range text {
		checkTextAgainstModel(t, text[:at]+text[at+1:])
		checkTextAgainstModel(t, text[:at]+text[at:at+1]+text[at:])
		for c := range 256 {
			checkTextAgainstModel(t, text[:at]+string([]byte{byte(c)})+text[at+1:])
		}
	}
}

func checkTextAgainstModel(t *testing.T, text string) {
	t.Helper()
	want, bad := untold(text)
	if bad != 0 {
		checkNoParse(t, text, bad)
		return
	}
	checkParse(t, text, want)
	checkPrint(t, want, text)
}

// Lines of words that stand in lines, and of some that do not, by chance.
func TestP16_5AnyWords(t *testing.T) {
	words := []string{"create", "snap", "clone", "resize", "rename", "delete", "restore", "discard", "fill", "extend", "write", "a", "b", "~", "A", "of", "to", "from", "0", "1", "32", "33", "01", "262144", "262145", "", strings.Repeat("0", 1024)}
	d := &drawing{seed: 21}
	good := 0
	for range 60000 {
		var line []string
		for range 1 + d.below(5) {
			line = append(line, words[d.below(len(words))])
		}
		text := strings.Join(line, " ") + "\n"
		if _, bad := untold(text); bad == 0 {
			good++
		}
		checkTextAgainstModel(t, text)
		checkTextAgainstModel(t, "delete a\n"+text)
	}
	if good < 100 {
		t.Errorf("%d lines were an operation's", good)
	}
}
