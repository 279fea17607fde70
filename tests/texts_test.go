package tests

// eachText shows all texts of up to so many signs.
func eachText(signs []string, length int, see func(string)) {
	texts := []string{""}
	for range length {
		var longer []string
		for _, s := range texts {
			see(s)
			for _, sign := range signs {
				longer = append(longer, s+sign)
			}
		}
		texts = longer
	}
	for _, s := range texts {
		see(s)
	}
}

// eachChange puts each byte at each place of a text, in it and instead of what is there, takes each byte out, and ends and begins the text there.
func eachChange(s string, see func(string)) {
	for i := range len(s) + 1 {
		see(s[:i])
		see(s[i:])
		for b := range 256 {
			see(s[:i] + string([]byte{byte(b)}) + s[i:])
			if i < len(s) {
				see(s[:i] + string([]byte{byte(b)}) + s[i+1:])
			}
		}
		if i < len(s) {
			see(s[:i] + s[i+1:])
		}
	}
}
