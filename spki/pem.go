package spki

import (
	"strings"

	"signet/api"
	"signet/b64"
)

const (
	begin = "-----BEGIN PUBLIC KEY-----\n"
	end   = "-----END PUBLIC KEY-----\n"
	width = 64 // signs of a line, the last one aside
)

// lined: the PEM text of bytes.
func lined(b []byte) string {
	var text strings.Builder
	text.WriteString(begin)
	for signs := b64.EncodeStd(b); signs != ""; {
		cut := min(width, len(signs))
		text.WriteString(signs[:cut] + "\n")
		signs = signs[cut:]
	}
	text.WriteString(end)
	return text.String()
}

// unlined: the bytes of a PEM text. Bytes have one spelling, so the lines are as they must be just if they are those of the bytes.
func unlined(text string) ([]byte, error) {
	body := strings.TrimSuffix(strings.TrimPrefix(text, begin), end)
	b, code, _ := b64.DecodeStd(strings.ReplaceAll(body, "\n", ""))
	switch {
	case code != api.OK:
		return nil, &fault{"no base64 between the first line and the last one", api.ErrPem}
	case len(b) == 0 || lined(b) != text:
		return nil, &fault{"other lines than those of its bytes", api.ErrPem}
	}
	return b, nil
}
