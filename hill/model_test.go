package hill_test

import (
	"math/big"
	"math/rand"
	"slices"

	"glister/hill"
)

// A second reading of the chapter, by fractions: where both lines cross is computed, not on which side the ends are.

func share(n, d int) *big.Rat { return big.NewRat(int64(n), int64(d)) }

// blocks tells whether the wall blocks the line between two stations.
func blocks(a, b hill.Station, w hill.Wall) bool {
	dx, dy := b.X-a.X, b.Y-a.Y
	wx, wy := w.X2-w.X1, w.Y2-w.Y1
	d := dx*wy - dy*wx
	if d == 0 {
		return false
	}
	zero, one := share(0, 1), share(1, 1)
	along := share((w.X1-a.X)*wy-(w.Y1-a.Y)*wx, d)
	on := share((w.X1-a.X)*dy-(w.Y1-a.Y)*dx, d)
	if along.Cmp(zero) <= 0 || along.Cmp(one) >= 0 || on.Cmp(zero) < 0 || on.Cmp(one) > 0 {
		return false
	}
	h := new(big.Rat).Mul(along, share(b.Z-a.Z, 1))
	h.Add(h, share(a.Z, 1))
	return h.Cmp(share(w.Base, 1)) >= 0 && h.Cmp(share(w.Top, 1)) <= 0
}

func modelWalls(l hill.Land, from, to, kase, hour int) (ridges, clouds []int) {
	a, b := l.Stations[from], l.Stations[to]
	for i, w := range l.Ridges {
		if blocks(a, b, w) {
			ridges = append(ridges, i)
		}
	}
	for i, c := range l.Cases[kase] {
		if c.From <= hour && hour <= c.To && blocks(a, b, c.Wall) {
			clouds = append(clouds, i)
		}
	}
	return ridges, clouds
}

func modelBehind(l hill.Land, from, to, hour int) bool {
	a, b, s := l.Stations[from], l.Stations[to], l.Sun[hour]
	return s.East*(b.X-a.X)+s.North*(b.Y-a.Y) < 0
}

func modelWhy(l hill.Land, from, to, kase, hour int) (uint8, int) {
	ridges, clouds := modelWalls(l, from, to, kase, hour)
	if l.Sun[hour].Up <= 0 {
		return hill.Night, 0
	}
	if l.Stations[from].Mirrors == 1 && modelBehind(l, from, to, hour) {
		return hill.Behind, 0
	}
	if len(ridges) > 0 {
		return hill.RidgeBlocks, ridges[0]
	}
	if len(clouds) > 0 {
		return hill.CloudBlocks, clouds[0]
	}
	return hill.Free, 0
}

func modelFree(l hill.Land, from, to, kase, hour int) bool {
	reason, _ := modelWhy(l, from, to, kase, hour)
	return reason == hill.Free
}

// modelRise returns the rise, or -1 if there is none.
func modelRise(l hill.Land, from, to int) int {
	a, b := l.Stations[from], l.Stations[to]
	for n := 0; a.Z+n <= 1000; n++ {
		high := a
		high.Z += n
		if !slices.ContainsFunc(l.Ridges, func(w hill.Wall) bool { return blocks(high, b, w) }) {
			return n
		}
	}
	return -1
}

// upTo lists the numbers below n.
func upTo(n int) []int {
	var list []int
	for i := range n {
		list = append(list, i)
	}
	return list
}

// those lists the numbers below n that pass the test.
func those(n int, test func(int) bool) []int {
	return slices.DeleteFunc(upTo(n), func(i int) bool { return !test(i) })
}

// size is the edge of the square in which random places are: small, so that lines often touch the ends of walls.
const size = 7

func randomWall(r *rand.Rand) hill.Wall {
	for {
		base, top := r.Intn(12), r.Intn(12)
		w := hill.Wall{X1: r.Intn(size), Y1: r.Intn(size), X2: r.Intn(size), Y2: r.Intn(size), Base: min(base, top), Top: max(base, top)}
		if w.X1 != w.X2 || w.Y1 != w.Y2 {
			return w
		}
	}
}

func randomRidge(r *rand.Rand) hill.Wall {
	w := randomWall(r)
	w.Base = 0
	return w
}

func randomCloud(r *rand.Rand, hours int) hill.Cloud {
	a, b := r.Intn(hours), r.Intn(hours)
	return hill.Cloud{Wall: randomWall(r), From: min(a, b), To: max(a, b)}
}

// randomSun makes suns that are often just at the side of a line, or just at the horizon.
func randomSun(r *rand.Rand) hill.Sun {
	far := []int{2, 100}[r.Intn(2)]
	some := func() int { return r.Intn(2*far+1) - far }
	return hill.Sun{East: some(), North: some(), Up: max(some(), some())}
}

// randomLand makes a valid land of at least two stations.
func randomLand(r *rand.Rand) hill.Land {
	var l hill.Land
	for _, p := range r.Perm(size * size)[:2+r.Intn(5)] {
		l.Stations = append(l.Stations, hill.Station{X: p % size, Y: p / size, Z: r.Intn(12), Mirrors: 1 + r.Intn(2)})
	}
	for range r.Intn(7) {
		l.Ridges = append(l.Ridges, randomRidge(r))
	}
	for range 1 + r.Intn(5) {
		l.Sun = append(l.Sun, randomSun(r))
	}
	for range 1 + r.Intn(4) {
		var clouds []hill.Cloud
		for range r.Intn(5) {
			clouds = append(clouds, randomCloud(r, len(l.Sun)))
		}
		l.Cases = append(l.Cases, clouds)
	}
	return l
}

// clone copies a land with all its lists.
func clone(l hill.Land) hill.Land {
	l.Stations, l.Ridges, l.Cases, l.Sun = slices.Clone(l.Stations), slices.Clone(l.Ridges), slices.Clone(l.Cases), slices.Clone(l.Sun)
	for i := range l.Cases {
		l.Cases[i] = slices.Clone(l.Cases[i])
	}
	return l
}

// eachLand calls the test with random lands, always the same ones.
func eachLand(many int, test func(r *rand.Rand, l hill.Land)) {
	r := rand.New(rand.NewSource(1))
	for range many {
		test(r, randomLand(r))
	}
}

// eachPair calls the test with each two stations of a land, both ways.
func eachPair(l hill.Land, test func(from, to int)) {
	for from := range l.Stations {
		for to := range l.Stations {
			if from != to {
				test(from, to)
			}
		}
	}
}

// eachSight calls the test with each two stations, case and hour of a land.
func eachSight(l hill.Land, test func(from, to, kase, hour int)) {
	eachPair(l, func(from, to int) {
		for kase := range l.Cases {
			for hour := range l.Sun {
				test(from, to, kase, hour)
			}
		}
	})
}
