package serial

import (
	"strings"
	"unicode/utf8"

	"signet/api"
)

// general: the value of the tokens' general form; false, if they have none.
func general(tokens []string) ([]api.Node, bool) {
	if len(tokens) == 0 || len(tokens) > api.MaxSigs {
		return nil, false
	}
	_, payload, _, _ := cut(tokens[0])
	v := []api.Node{
		{Kind: api.Object, Kids: 2},
		textNode("payload", payload),
		{Kind: api.List, Key: "signatures", Kids: len(tokens)},
	}
	for _, token := range tokens {
		protected, middle, signature, ok := cut(token)
		if !ok || middle != payload {
			return nil, false
		}
		v = append(v, api.Node{Kind: api.Object, Kids: 2}, textNode("protected", protected), textNode("signature", signature))
	}
	return v, true
}

// cut: the three parts of a token; false, if it has not just three, or cannot stand in a JSON text. jws.Split would refuse a token that is longer than MaxToken: here it may be.
func cut(token string) (protected, payload, signature string, ok bool) {
	if strings.Count(token, ".") != 2 || !utf8.ValidString(token) {
		return "", "", "", false
	}
	protected, rest, _ := strings.Cut(token, ".")
	payload, signature, _ = strings.Cut(rest, ".")
	return protected, payload, signature, true
}

func textNode(name, text string) api.Node {
	return api.Node{Kind: api.String, Key: name, Text: text}
}
