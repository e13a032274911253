package console_test

// dice: numbers that look drawn, the same each time.
type dice uint64

func (d *dice) n(most int) int {
	*d = *d*6364136223846793005 + 1442695040888963407
	return int(uint64(*d>>33) % uint64(most))
}

// one in so many times.
func (d *dice) one(in int) bool { return d.n(in) == 0 }

// flag: 0 or 1.
func (d *dice) flag() int { return d.n(2) }
