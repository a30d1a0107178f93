package files

import "escritoire/api"

// isName tells whether a file may have that name.
func isName(name string) bool {
	if len(name) < 1 || len(name) > api.MaxName {
		return false
	}
	for i := range len(name) {
		if !mayStand(name[i]) {
			return false
		}
	}
	return true
}

// mayStand tells whether a byte may stand in a name.
func mayStand(c byte) bool {
	return 'a' <= c && c <= 'z' || '0' <= c && c <= '9' || '-' <= c && c <= '.'
}
