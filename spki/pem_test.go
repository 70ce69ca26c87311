package spki_test

import (
	"encoding/base64"
	"math/rand"
	"slices"
	"strings"
	"testing"

	"signet/api"
)

// framed: a text of the two lines with that between them.
func framed(between string) string { return firstLine + "\n" + between + lastLine + "\n" }

// Bytes of every length, which are no key's: their text is a PEM text in the one form, and in no other.
func TestLines(t *testing.T) {
	t.Parallel()
	r := rand.New(rand.NewSource(7))
	mustUnpem(t, "no bytes", api.ErrPem, pem(nil, 64))
	for n := 1; n < 300; n++ {
		b := drawnBytes(r, n)
		b[0] = 5 // no SEQUENCE
		signs := base64.StdEncoding.EncodeToString(b)
		mustUnpem(t, "in lines of 64", api.ErrDer, pem(b, 64))
		for _, width := range []int{1, 2, 3, 4, 32, 60, 61, 62, 63, 65, 66, 68, 72, 76, 128, 1000} {
			want := api.ErrPem
			if len(signs) <= min(width, 64) {
				want = api.ErrDer
			}
			mustUnpem(t, "in other lines", want, pem(b, width))
		}
		mustUnpem(t, "without filling", map[bool]api.Errno{true: api.ErrDer, false: api.ErrPem}[n%3 == 0], strings.ReplaceAll(pem(b, 64), "=", ""))
	}
	for _, n := range []int{1000, 4096, maxDer - 1, maxDer} {
		mustUnpem(t, "many bytes", api.ErrDer, pem(make([]byte, n), 64))
	}
	for _, n := range []int{maxDer + 1, maxDer + 2, 1 << 18} {
		mustUnpem(t, "too many bytes", api.ErrLarge, pem(make([]byte, n), 64))
		mustUnpem(t, "too many bytes, and no PEM text", api.ErrPem, pem(make([]byte, n), 60))
		mustUnpem(t, "too many bytes, and no PEM text", api.ErrPem, pem(make([]byte, n), 64)+"\n")
	}
}

// oneTurned: the text with one thing of it turned, by what was done.
func oneTurned(text string) map[string]string {
	lines := strings.SplitAfter(strings.TrimSuffix(text, "\n"), "\n")
	body := strings.Join(lines[1:len(lines)-1], "")
	frame := func(first, last string) string { return first + body + last }
	return map[string]string{
		"nothing": "", "the first line alone": firstLine + "\n", "the last line alone": lastLine + "\n", "the body alone": body,
		"no first line": text[len(firstLine)+1:], "no last line": strings.TrimSuffix(text, lastLine+"\n"), "no frame's bytes 10": firstLine + body + lastLine,
		"the first line twice": firstLine + "\n" + text, "the last line twice": text + lastLine + "\n", "the text twice": text + text, "the lines turned": lastLine + "\n" + body + firstLine + "\n",
		"no body": framed(""), "a blank line for a body": framed("\n"), "a blank for a body": framed(" \n"), "only filling": framed("====\n"), "two signs of filling": framed("==\n"),
		"a blank line ahead": "\n" + text, "a blank line behind": text + "\n", "a blank line behind the first": framed("\n" + body), "a blank line ahead of the last": framed(body + "\n"),
		"a blank ahead": " " + text, "a blank behind": text + " ", "a tab behind": text + "\t", "a byte 0 behind": text + "\x00", "a mark of UTF-8 ahead": "\ufeff" + text, "words ahead": "key:\n" + text, "words behind": text + "end\n",
		"bytes 13": strings.ReplaceAll(text, "\n", "\r\n"), "bytes 13 alone": strings.ReplaceAll(text, "\n", "\r"), "a byte 13 behind the first line": strings.Replace(text, "\n", "\r\n", 1), "a byte 13 in the body": framed(body[:10] + "\r" + body[10:]), "bytes 10 and 13": strings.ReplaceAll(text, "\n", "\n\r"), "a byte 11": strings.Replace(text, "\n", "\v\n", 1),
		"no last byte 10": text[:len(text)-1], "no first byte 10": strings.Replace(text, "\n", "", 1), "a blank at a line's end": strings.Replace(text, "\n", " \n", 2), "a blank line in the body": framed(body[:10] + "\n\n" + body[10:]), "one more line": framed(body[:10] + "\n" + body[10:]),
		"of RSA": strings.ReplaceAll(text, "PUBLIC", "RSA PUBLIC"), "of EC": strings.ReplaceAll(text, "PUBLIC", "EC PUBLIC"), "private": strings.ReplaceAll(text, "PUBLIC", "PRIVATE"), "a certificate": strings.ReplaceAll(text, "PUBLIC KEY", "CERTIFICATE"), "small letters": strings.ReplaceAll(text, "PUBLIC KEY", "public key"),
		"the first line's words others": frame("-----BEGIN RSA PUBLIC KEY-----\n", lastLine+"\n"), "the last line's words others": frame(firstLine+"\n", "-----END RSA PUBLIC KEY-----\n"), "BEGIN at the end": frame(firstLine+"\n", firstLine+"\n"), "END at the beginning": frame(lastLine+"\n", lastLine+"\n"),
		"four strokes ahead": text[1:], "six strokes ahead": "-" + text, "four strokes behind": text[:len(text)-2] + "\n", "six strokes behind": text[:len(text)-1] + "-\n", "two blanks": strings.Replace(text, "PUBLIC KEY", "PUBLIC  KEY", 1),
		"a header": framed("Proc-Type: 4,ENCRYPTED\n\n" + body), "a check sum": framed(body + "=aGVs\n"), "the other alphabet": framed("-_" + body[2:]), "filling in the middle": framed("MA==" + body), "filling too much": framed(strings.TrimSuffix(body, "\n") + "====\n"), "a filling sign more": framed(strings.TrimSuffix(body, "\n") + "=\n"), "a sign less": framed(body[:len(body)-2] + "\n"), "a line twice": framed(lines[1] + body),
	}
}

func TestTurnedTexts(t *testing.T) {
	t.Parallel()
	for _, k := range kindRows() {
		text := pem(info(k.algorithm, k.key), 64)
		mustUnpem(t, k.name, api.OK, text)
		for what, other := range oneTurned(text) {
			want := api.ErrPem
			if what == "a line twice" && k.name != "Ed25519" { // still lines as they must be, of other bytes
				want = api.ErrDer
			}
			mustUnpem(t, k.name+": "+what, want, other)
		}
		// The same bytes with other bits behind the last one.
		for _, sign := range "ABCDEFGHIJKLMNOPQRSTUVWXYZabcdefghijklmnopqrstuvwxyz0123456789+/" {
			at := strings.LastIndex(text, "\n-") - 1
			for text[at] == '=' {
				at--
			}
			holdText(t, text[:at]+string(sign)+text[at+1:])
		}
	}
}

// Every byte at every place of texts, put in, put instead, and left out.
func TestEverySignEverywhere(t *testing.T) {
	t.Parallel()
	for _, k := range kindRows() {
		text := pem(info(k.algorithm, k.key), 64)
		for at := range len(text) + 1 {
			for x := range 256 {
				if k.name != "Ed25519" && x%16 != 10 && at > 30 && at < len(text)-40 {
					continue
				}
				sign := string([]byte{byte(x)})
				holdText(t, text[:at]+sign+text[at:])
				if at < len(text) {
					holdText(t, text[:at]+sign+text[at+1:])
				}
			}
			if at < len(text) {
				holdText(t, text[:at]+text[at+1:])
			}
			holdText(t, text[:at])
			holdText(t, text[at:])
		}
	}
}

// A byte 10 moved to every other place: the lines must be as they are.
func TestMovedLines(t *testing.T) {
	t.Parallel()
	for _, k := range kindRows()[1:] {
		text := pem(info(k.algorithm, k.key), 64)
		for from := range len(text) {
			if text[from] != '\n' {
				continue
			}
			without := text[:from] + text[from+1:]
			for to := range len(without) + 1 {
				moved := without[:to] + "\n" + without[to:]
				if moved != text {
					mustUnpem(t, "a moved byte 10", api.ErrPem, moved)
				}
			}
		}
	}
}

// Drawn texts of pieces that stand in PEM texts.
func TestDrawnTexts(t *testing.T) {
	t.Parallel()
	r := rand.New(rand.NewSource(8))
	line := strings.Repeat("MCow", 16)
	pieces := []string{firstLine, firstLine + "\n", lastLine, lastLine + "\n", "\n", "\n", line, line + "\n", line + "\n", "MA==", "MA==\n", "MAA=\n", "MAAA\n", "A", "=", " ", "-----", "\r\n", line[:60], line + "MAAA\n"}
	taken := 0
	for range 60000 {
		var text strings.Builder
		for range r.Intn(4) {
			text.WriteString(pieces[r.Intn(len(pieces))])
		}
		between := text.String()
		holdText(t, between)
		holdText(t, framed(between))
		if _, ok := wantBytes(framed(between)); ok {
			taken++
		}
	}
	if taken < 1000 {
		t.Fatalf("only %d of them are PEM texts", taken)
	}
	for _, k := range some() {
		b, _ := wantPrint(k)
		mustUnpem(t, "a key", api.OK, pem(b, 64))
		mustUnpem(t, "a key in one line", map[bool]api.Errno{true: api.OK, false: api.ErrPem}[len(b) <= 48], pem(b, 1<<20))
		mustUnpem(t, "a key's bytes turned", api.ErrDer, pem(slices.Concat(b[1:], b[:1]), 64))
	}
}
