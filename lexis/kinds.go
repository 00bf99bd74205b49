package lexis

// signs are those that stand by themselves, some of them beginnings of others.
var signs = [...]string{"(", ")", "{", "}", ";", "|", "~", "!", "^", "*", "/", "+", "-", "&", "=", "<>", "<", "<=", ">", ">=", "%"}

func isSign(s string) bool {
	for _, sign := range signs {
		if s == sign {
			return true
		}
	}
	return false
}

func isDigit(c rune) bool {
	return '0' <= c && c <= '9'
}

func isPoint(c rune) bool {
	return c == '.'
}

func isPower(c rune) bool {
	return c == 'E' || c == 'e'
}

func isPlusOrMinus(c rune) bool {
	return c == '+' || c == '-'
}

func isQuote(c rune) bool {
	return c == '"'
}

func beginsName(c rune) bool {
	return 'A' <= c && c <= 'Z' || 'a' <= c && c <= 'z' || c == '_'
}

func inName(c rune) bool {
	return beginsName(c) || isDigit(c) || isPoint(c)
}
