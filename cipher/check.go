package cipher

import (
	"glister/api"
	"glister/lists"
)

// exceeds tells whether some list of the book is longer than its limit.
func (b Book) exceeds() bool {
	return len(b.Keys) > api.MaxCipherKeys || len(b.Days) > api.MaxCipherDays
}

// valid tells whether a book that exceeds no limit is as the document describes.
func (b Book) valid() bool {
	return b.Size >= api.MinCipherSize && b.Size <= api.MaxCipherSize && isPrime(b.Size) &&
		b.Words >= 1 && b.Words <= b.Size &&
		len(b.Keys) > 0 && lists.Every(b.Keys, b.isKey) && len(b.Days) > 0 && lists.Every(b.Days, b.hasKey)
}

// isPrime tells whether a number above 1 is a prime number.
func isPrime(n int) bool {
	prime := true
search:
	for divisor := range n {
		switch {
		case divisor < 2:
			continue
		case n%divisor == 0:
			prime = false
			break search
		}
	}
	return prime
}

func (b Book) isPlain(n int) bool { return below(n, b.Size) }

func (b Book) isNull(n int) bool { return n >= b.Words }

func (b Book) isKey(k Key) bool {
	return k.Mul != 0 && b.isPlain(k.Mul) && b.isPlain(k.Add) && b.isPlain(k.Step)
}

func (b Book) hasKey(n int) bool { return below(n, len(b.Keys)) }

func (b Book) hasDay(n int) bool { return below(n, len(b.Days)) }

func (b Book) isLoss(l Loss) bool { return b.hasKey(l.Key) && b.hasDay(l.Day) }

// isMost tells whether a plan can be asked for that uses no key on more days than the number.
func isMost(n int) bool { return below(n, api.MaxCipherDays+1) }

// below tells whether the number is from 0 to the end less 1.
func below(n, end int) bool { return 0 <= n && n < end }

// least returns the smallest of the numbers.
func least(first int, others ...int) int {
	for _, n := range others {
		first = min(first, n)
	}
	return first
}
