package scribe

import "strconv"

const longestName = 6

// checkName tells what keeps a text from being a name.
func checkName(name string) error {
	if name == "" || len(name) > longestName {
		return &trouble{strconv.Itoa(len(name)) + " bytes", errNoName}
	}
	for _, r := range name {
		if r < 'a' || r > 'z' {
			return &trouble{strconv.QuoteRune(r), errNoName}
		}
	}
	return nil
}
