package curve_test

import (
	"math/big"
	"math/rand"
	"slices"
	"testing"

	"signet/api"
	"signet/curve"
)

// The rows of the chapter's table.
func TestExamples(t *testing.T) {
	c := api.P256
	g, n := curve.Base(c), curve.Order(c)
	neg := at(known(c).x, new(big.Int).Sub(known(c).p, known(c).y))
	two := at(hexed("7cf27b188d034f7e8a52380304b51ac3c08969e277f21b35a60b48fc47669978"), hexed("07775510db8ed040293d9ac69f7430dbba7dade63ce982299e04b79d227873d1"))
	minusTwo, _ := curve.Neg(c, two)
	none := infinite()
	root := hexed("66485c780e2f83d72433bd5d84a06bb6541c2af31dae871728bf856a174f93f4").Bytes()
	prime := known(c).p.Bytes()
	more := append(make(api.Nat, 32), 1)
	for _, row := range []struct {
		what string
		ask  func() (api.Point, api.Errno)
		want api.Point
		code api.Errno
	}{
		{"Add(G, G)", func() (api.Point, api.Errno) { return curve.Add(c, g, g) }, two, api.OK},
		{"Mul(2, G)", func() (api.Point, api.Errno) { return curve.Mul(c, small(2), g) }, two, api.OK},
		{"Mul(n - 1, G)", func() (api.Point, api.Errno) { return curve.Mul(c, limbs(plus(value(n), -1)), g) }, neg, api.OK},
		{"Mul(n, G)", func() (api.Point, api.Errno) { return curve.Mul(c, n, g) }, none, api.OK},
		{"Mul(n + 1, G)", func() (api.Point, api.Errno) { return curve.Mul(c, limbs(plus(value(n), 1)), g) }, g, api.OK},
		{"Neg(G)", func() (api.Point, api.Errno) { return curve.Neg(c, g) }, neg, api.OK},
		{"Joint(1, 1, G)", func() (api.Point, api.Errno) { return curve.Joint(c, small(1), small(1), g) }, two, api.OK},
		{"Joint(1, 1, Neg(G))", func() (api.Point, api.Errno) { return curve.Joint(c, small(1), small(1), neg) }, none, api.OK},
		{"Joint(0, 0, G)", func() (api.Point, api.Errno) { return curve.Joint(c, nil, nil, g) }, none, api.OK},
		{"Joint(2, 1, Neg(Mul(2, G)))", func() (api.Point, api.Errno) { return curve.Joint(c, small(2), small(1), minusTwo) }, none, api.OK},
		{"Decode of 0 and the root of b", func() (api.Point, api.Errno) { return curve.Decode(c, make([]byte, 32), root) }, at(new(big.Int), number(root)), api.OK},
		{"Decode of 31 bytes", func() (api.Point, api.Errno) { return curve.Decode(c, make([]byte, 31), root) }, api.Point{}, api.ErrPoint},
		{"Decode of p and anything", func() (api.Point, api.Errno) { return curve.Decode(c, prime, root) }, api.Point{}, api.ErrPoint},
		{"Add of G and a point of P-384", func() (api.Point, api.Errno) { return curve.Add(c, g, curve.Base(api.P384)) }, api.Point{}, api.ErrPoint},
		{"Mul of 33 limbs and the zero Point", func() (api.Point, api.Errno) { return curve.Mul(c, more, api.Point{}) }, api.Point{}, api.ErrPoint},
		{"Mul of 33 limbs and G", func() (api.Point, api.Errno) { return curve.Mul(c, more, g) }, api.Point{}, api.ErrLarge},
	} {
		got, code := row.ask()
		mustBe(t, "example", row.what, got, code, row.want, row.code)
	}
	for _, row := range []struct {
		what string
		p    api.Point
		want bool
	}{
		{"O", none, true},
		{"O with an X of 1", api.Point{X: small(1), Inf: true}, false},
		{"G with a limb 0 behind its X", api.Point{X: padded(g.X, 1), Y: g.Y}, true},
		{"G with p added to X", api.Point{X: limbs(new(big.Int).Add(known(c).x, known(c).p)), Y: g.Y}, false},
		{"the zero Point", api.Point{}, false},
	} {
		if got := curve.On(c, row.p); got != row.want {
			t.Errorf("example: On of %s = %t", row.what, got)
		}
	}
	if x, y, code := curve.Encode(c, none); code != api.ErrPoint || x != nil || y != nil {
		t.Errorf("example: Encode of O = %x, %x, %d", x, y, code)
	}
}

func TestConstants(t *testing.T) {
	for _, c := range curves {
		w := known(c)
		if got := curve.Field(c); !slices.Equal(got, limbs(w.p)) {
			t.Errorf("11.1: Field(%d) = %s", c, told(got))
		}
		if got := curve.Order(c); !slices.Equal(got, limbs(w.n)) {
			t.Errorf("11.1: Order(%d) = %s", c, told(got))
		}
		if got := curve.Base(c); !same(got, w.base().point()) {
			t.Errorf("11.1: Base(%d) = %s", c, told(got))
		}
		if got := curve.Size(c); got != w.size || got != len(w.p.Bytes()) {
			t.Errorf("11.1: Size(%d) = %d", c, got)
		}
		if !w.p.ProbablyPrime(20) || !w.n.ProbablyPrime(20) {
			t.Errorf("curve %d: p or n is no prime", c)
		}
		holdOn(t, c, curve.Base(c))
	}
}

func TestNoCurve(t *testing.T) {
	for _, c := range noCurves {
		if p, n, size := curve.Field(c), curve.Order(c), curve.Size(c); p != nil || n != nil || size != 0 || !zero(curve.Base(c)) {
			t.Errorf("11.1: of curve %d: %s, %s, %d, %s", c, told(p), told(n), size, told(curve.Base(c)))
		}
		all := []api.Point{{}, infinite(), {X: api.Nat{0}, Y: api.Nat{0}}, {X: small(1), Inf: true}, multiple(api.P256, 1), multiple(api.P384, 1), over(api.P256, new(big.Int))[0]}
		for _, p := range all {
			if curve.On(c, p) {
				t.Errorf("11.2: On(%d, %s)", c, told(p))
			}
			holdNeg(t, c, p)
			holdEncode(t, c, p)
			for _, q := range all {
				holdAdd(t, c, p, q)
			}
			for _, k := range []api.Nat{nil, small(1), limbs(power(1024))} {
				holdMul(t, c, k, p)
				holdJoint(t, c, k, small(2), p)
				holdJoint(t, c, small(2), k, p)
			}
		}
		for _, size := range []int{0, 1, 32, 48, 66} {
			holdDecode(t, c, make([]byte, size), make([]byte, size))
		}
		holdDecode(t, c, nil, nil)
		x, y, _ := wantEncode(api.P256, multiple(api.P256, 1))
		holdDecode(t, c, x, y)
	}
}

func TestOn(t *testing.T) {
	both(t, func(t *testing.T, c api.Crv) {
		for _, p := range points(t, c) {
			for _, k := range [][2]int{{0, 0}, {1, 0}, {0, 1}, {2, 3}, {40, 0}, {0, 500}, {1 << 16, 1 << 16}} {
				if longer := (api.Point{X: padded(p.X, k[0]), Y: padded(p.Y, k[1]), Inf: p.Inf}); !curve.On(c, longer) {
					t.Fatalf("11.2: On(%s) is false", told(c, longer))
				}
			}
			holdOn(t, other(c), p)
		}
		for _, p := range strangers(t, c) {
			if curve.On(c, p) {
				t.Fatalf("11.2: On(%s)", told(c, p))
			}
			holdOn(t, c, api.Point{X: padded(p.X, 2), Y: padded(p.Y, 1), Inf: p.Inf})
		}
	})
}

// Every x from nought on, and every x down from p, with all that could be its y: no other pair is taken.
func TestOnOver(t *testing.T) {
	both(t, func(t *testing.T, c api.Crv) {
		w := known(c)
		count := 0
		for i := range int64(200) {
			for _, x := range []*big.Int{big.NewInt(i), plus(w.p, -1-i)} {
				// Where x^3 - 3 x + b has no root, what opposes it has one.
				y := new(big.Int).Exp(w.right(x), new(big.Int).Rsh(plus(w.p, 1), 2), w.p)
				p := at(x, y)
				holdOn(t, c, p)
				if curve.On(c, p) {
					count++
				}
			}
		}
		if count < 150 || count > 250 {
			t.Errorf("11.2: of 400 numbers %d are an x", count)
		}
	})
}

func TestNeg(t *testing.T) {
	both(t, func(t *testing.T, c api.Crv) {
		for i, p := range points(t, c) {
			holdNeg(t, c, p)
			p = api.Point{X: padded(p.X, i%4), Y: padded(p.Y, i%3), Inf: p.Inf}
			holdNeg(t, c, p)
			back := sure(t, answered(curve.Neg(c, p)))
			mustBe(t, "11.3", "Neg of Neg of "+told(p), sure(t, answered(curve.Neg(c, back))), api.OK, trimmed(p), api.OK)
		}
		for _, p := range strangers(t, c) {
			holdNeg(t, c, p)
			holdEncode(t, c, p)
		}
	})
}

// trimmed: the point with proper coordinates.
func trimmed(p api.Point) api.Point {
	return api.Point{X: limbs(value(p.X)), Y: limbs(value(p.Y)), Inf: p.Inf}
}

// All pairs: with O on either side, with itself, with its opposite, with one y.
func TestAdd(t *testing.T) {
	both(t, func(t *testing.T, c api.Crv) {
		all := points(t, c)
		for i, p := range all {
			for j, q := range all {
				holdAdd(t, c, p, q)
				if j < 3 || i < 3 || i == j {
					holdAdd(t, c, api.Point{X: padded(p.X, i%3), Y: padded(p.Y, j%3), Inf: p.Inf}, api.Point{X: padded(q.X, (i+j)%3), Y: padded(q.Y, 1), Inf: q.Inf})
				}
			}
			opposite, _ := wantNeg(c, p)
			holdAdd(t, c, p, opposite)
			holdAdd(t, c, opposite, p)
			mustBe(t, "11.4", "a point and its opposite", sure(t, answered(curve.Add(c, p, opposite))), api.OK, infinite(), api.OK)
			mustBe(t, "11.4", "O and a point", sure(t, answered(curve.Add(c, infinite(), p))), api.OK, p, api.OK)
			mustBe(t, "11.4", "a point and O", sure(t, answered(curve.Add(c, p, api.Point{X: api.Nat{0}, Y: api.Nat{0, 0}, Inf: true}))), api.OK, p, api.OK)
		}
	})
}

// Three points with one y lie on a line: together they make O.
func TestOneLine(t *testing.T) {
	both(t, func(t *testing.T, c api.Crv) {
		l := low(c)
		for i := range l {
			two := sure(t, answered(curve.Add(c, l[i], l[(i+1)%3])))
			want, _ := wantNeg(c, l[(i+2)%3])
			mustBe(t, "11.4", "two with one y", two, api.OK, want, api.OK)
			mustBe(t, "11.4", "three with one y", sure(t, answered(curve.Add(c, two, l[(i+2)%3]))), api.OK, infinite(), api.OK)
		}
	})
}

func TestAddRefuses(t *testing.T) {
	both(t, func(t *testing.T, c api.Crv) {
		all := strangers(t, c)
		for i, bad := range all {
			for _, p := range []api.Point{infinite(), multiple(c, 1), low(c)[0], bad, all[(i*7+1)%len(all)]} {
				for _, l := range [][2]api.Point{{p, bad}, {bad, p}} {
					got, code := curve.Add(c, l[0], l[1])
					mustBe(t, "11.4", "Add("+told(c, l[0], l[1])+")", got, code, api.Point{}, api.ErrPoint)
				}
			}
		}
	})
}

func TestMul(t *testing.T) {
	both(t, func(t *testing.T, c api.Crv) {
		g, drawn := multiple(c, 1), points(t, c)
		for i, k := range scalars(c) {
			holdMul(t, c, k, g)
			holdMul(t, c, k, drawn[i%len(drawn)])
		}
		for i, p := range drawn {
			for _, k := range []api.Nat{nil, small(1), small(2), small(3), limbs(known(c).n), limbs(plus(known(c).n, -1))} {
				holdMul(t, c, padded(k, i%2), api.Point{X: padded(p.X, i%3), Y: padded(p.Y, i%2), Inf: p.Inf})
			}
		}
	})
}

// k times a point is the sum of k of it, counted out.
func TestCounted(t *testing.T) {
	both(t, func(t *testing.T, c api.Crv) {
		w := known(c)
		for _, p := range few(t, c) {
			s, _ := w.of(p)
			sum := spot{}
			for k := range uint32(70) {
				got, code := curve.Mul(c, small(k), p)
				mustBe(t, "11.5", "Mul("+told(c, k, p)+")", got, code, sum.point(), api.OK)
				sum = w.add(sum, s)
			}
		}
	})
}

func TestMulRefuses(t *testing.T) {
	both(t, func(t *testing.T, c api.Crv) {
		for _, k := range largeScalars(c) {
			for _, p := range few(t, c) {
				got, code := curve.Mul(c, k, p)
				mustBe(t, "11.5", "Mul("+told(c, k, p)+")", got, code, api.Point{}, api.ErrLarge)
			}
		}
		for i, bad := range strangers(t, c) {
			for _, k := range []api.Nat{nil, small(1), small(2), limbs(known(c).n), largeScalars(c)[i%11]} {
				got, code := curve.Mul(c, k, bad)
				mustBe(t, "11.5", "Mul("+told(c, k, bad)+")", got, code, api.Point{}, api.ErrPoint)
			}
		}
	})
}

func TestJoint(t *testing.T) {
	both(t, func(t *testing.T, c api.Crv) {
		all, at := scalars(c), points(t, c)
		for i, a := range all {
			holdJoint(t, c, a, all[(i*5+3)%len(all)], at[i%len(at)])
		}
		n := limbs(known(c).n)
		for _, p := range few(t, c) {
			for _, l := range [][2]api.Nat{{nil, nil}, {nil, small(1)}, {small(1), nil}, {small(1), small(1)}, {n, n}, {n, small(1)}, {small(1), n}, {{0}, {2, 0}}} {
				holdJoint(t, c, l[0], l[1], p)
			}
		}
	})
}

// fraction: G over k, by the order.
func fraction(c api.Crv, k int64) api.Point {
	w := known(c)
	return w.mul(new(big.Int).ModInverse(big.NewInt(k), w.n), w.base()).point()
}

// Small scalars at points near G: the two parts are the same, opposite or O, at the end and on the way.
func TestJointSmall(t *testing.T) {
	both(t, func(t *testing.T, c api.Crv) {
		near := []api.Point{fraction(c, 2), fraction(c, 3), infinite()}
		for k := int64(1); k < 6; k++ {
			near = append(near, multiple(c, k), multiple(c, -k))
		}
		for _, q := range near {
			for a := range uint32(11) {
				for b := range uint32(11) {
					holdJoint(t, c, small(a), small(b), q)
				}
			}
		}
	})
}

// Scalars of which the first digits make O of G and q, or a point that is then doubled into one of those that are added to it, or into its opposite.
func TestJointOnTheWay(t *testing.T) {
	both(t, func(t *testing.T, c api.Crv) {
		r := rand.New(rand.NewSource(21))
		for k := int64(1); k < 4; k++ {
			q := multiple(c, -k)
			for off := int64(-3); off <= 3; off++ {
				for last := range int64(4) {
					b := plus(new(big.Int).Rand(r, power(70)), 9)
					a := plus(times(b, k), off)
					a, b = plus(times(a, 2), last%2), plus(times(b, 2), last/2)
					holdJoint(t, c, limbs(a), limbs(b), q)
					behind := r.Int63n(1 << 16)
					holdJoint(t, c, limbs(plus(times(a, 1<<16), behind)), limbs(plus(times(b, 1<<16), r.Int63n(1<<16))), q)
				}
			}
		}
	})
}

// The order's edges: a times G and b times q are the same, opposite, or O.
func TestJointEnds(t *testing.T) {
	both(t, func(t *testing.T, c api.Crv) {
		w := known(c)
		r := rand.New(rand.NewSource(22))
		for range 4 {
			k := plus(new(big.Int).Rand(r, plus(w.n, -1)), 1)
			q := w.mul(k, w.base()).point()
			b := new(big.Int).Rand(r, w.n)
			a := new(big.Int).Mul(k, b)
			a.Mod(a, w.n)
			opposite := new(big.Int).Sub(w.n, a)
			for _, l := range [][2]*big.Int{{a, b}, {opposite, b}, {a, new(big.Int).Sub(w.n, b)}, {plus(opposite, 1), b}, {w.n, b}, {a, w.n}, {w.n, times(w.n, 2)}} {
				holdJoint(t, c, limbs(l[0]), limbs(l[1]), q)
			}
			mustBe(t, "11.6", "opposite parts", sure(t, answered(curve.Joint(c, limbs(opposite), limbs(b), q))), api.OK, infinite(), api.OK)
			want := w.mul(times(a, 2), w.base()).point()
			mustBe(t, "11.6", "the same parts", sure(t, answered(curve.Joint(c, limbs(a), limbs(b), q))), api.OK, want, api.OK)
		}
	})
}

func TestJointRefuses(t *testing.T) {
	both(t, func(t *testing.T, c api.Crv) {
		for _, k := range largeScalars(c) {
			for _, p := range few(t, c) {
				for _, l := range [][2]api.Nat{{k, nil}, {nil, k}, {k, small(1)}, {small(1), k}, {k, k}, {limbs(known(c).n), k}, {k, limbs(known(c).n)}} {
					got, code := curve.Joint(c, l[0], l[1], p)
					mustBe(t, "11.6", "Joint("+told(c, l[0], l[1], p)+")", got, code, api.Point{}, api.ErrLarge)
				}
			}
		}
		for i, bad := range strangers(t, c) {
			k := largeScalars(c)[i%11]
			for _, l := range [][2]api.Nat{{nil, nil}, {small(1), nil}, {nil, small(1)}, {k, nil}, {nil, k}, {k, k}} {
				got, code := curve.Joint(c, l[0], l[1], bad)
				mustBe(t, "11.6", "Joint("+told(c, l[0], l[1], bad)+")", got, code, api.Point{}, api.ErrPoint)
			}
		}
	})
}
