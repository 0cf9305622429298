package flash

import "glister/api"

// noLetter fills a part behind its letters.
const noLetter = -1

// part has the letters of a part of a text, and noLetter behind them.
type part [api.MaxFlashText]int

func partOf(text []int, from, many int) part {
	var p part
	for i := range p {
		p[i] = noLetter
		if i < many && from+i < len(text) {
			p[i] = text[from+i]
		}
	}
	return p
}

// decides tells whether no two texts have equal parts.
func decides(texts [][]int, from, many int) bool {
	var parts []part
	for _, text := range texts {
		parts = append(parts, partOf(text, from, many))
	}
	return differ(parts)
}

// shortest returns the shortest part that decides; that of all letters does, as the texts differ.
func shortest(texts [][]int) (from, many int) {
search:
	for many = range api.MaxFlashText + 1 {
		for from = range api.MaxFlashText {
			if decides(texts, from, many) {
				break search
			}
		}
	}
	return from, many
}
