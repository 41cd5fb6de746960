package word_test

import (
	"fmt"

	"futtock/word"
)

// Example does what README.md shows.
func Example() {
	w, err := word.Code(word.Header{Kind: word.Neutral, Age: 2, Hash: 7})
	fmt.Printf("%#x %d\n", w, err)
	w, err = word.Older(w)
	fmt.Printf("%#x %d\n", w, err)
	h, err := word.Read(w)
	fmt.Println(h.Kind == word.Neutral, h.Age, h.Hash, int(err))
	// Output:
	// 0x711 0
	// 0x719 0
	// true 3 7 0
}
