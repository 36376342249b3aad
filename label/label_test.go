package label_test

import (
	"math"
	"slices"
	"testing"

	"oubliette/api"
	"oubliette/label"
)

// P3.1

func TestEachType(t *testing.T) {
	for _, k := range kinds() {
		if !label.Right(k.t) || label.Wide(k.t) != k.wide || label.Secret(k.t) != k.secret {
			t.Errorf("%s: Right %v, Wide %v, Secret %v; want true, %v, %v", k.name, label.Right(k.t), label.Wide(k.t), label.Secret(k.t), k.wide, k.secret)
		}
		if got := label.Of(k.wide, k.secret); got != k.t {
			t.Errorf("Of(%v, %v) = %d; want %s", k.wide, k.secret, got, k.name)
		}
	}
}

func TestOfIsUndoneByWideAndSecret(t *testing.T) {
	for _, wide := range []bool{false, true} {
		for _, secret := range []bool{false, true} {
			if of := label.Of(wide, secret); !label.Right(of) || label.Wide(of) != wide || label.Secret(of) != secret {
				t.Errorf("Of(%v, %v) = %d", wide, secret, of)
			}
		}
	}
}

func TestOtherNumbersAreNoType(t *testing.T) {
	for _, n := range noTypes() {
		if label.Right(n) || label.Wide(n) || label.Secret(n) {
			t.Errorf("%d: Right %v, Wide %v, Secret %v; want all false", n, label.Right(n), label.Wide(n), label.Secret(n))
		}
	}
}

func TestTheNamedEdgesAreAmongThoseTried(t *testing.T) {
	listed := noTypes()
	for _, n := range []int{-1, 4, 5, 6, 7, math.MinInt, math.MaxInt, 1<<32 | api.S64, math.MinInt | api.S32, -4 | api.I64} {
		if !slices.Contains(listed, n) {
			t.Errorf("%d is not among those that are tried", n)
		}
	}
}

// P3.2

func TestFlowsBetweenTypes(t *testing.T) {
	for _, c := range []struct {
		from int
		to   [4]bool // I32, I64, S32, S64
	}{
		{api.I32, [4]bool{true, false, true, false}},
		{api.I64, [4]bool{false, true, false, true}},
		{api.S32, [4]bool{false, false, true, false}},
		{api.S64, [4]bool{false, false, false, true}},
	} {
		for i, to := range types() {
			if got := label.Flows(c.from, to); got != c.to[i] {
				t.Errorf("Flows(%d, %d) = %v; want %v", c.from, to, got, c.to[i])
			}
		}
	}
}

func TestJoinOfTypes(t *testing.T) {
	for _, c := range []struct {
		a, b, want int
		ok         bool
	}{
		{api.I32, api.I32, api.I32, true},
		{api.I32, api.S32, api.S32, true},
		{api.S32, api.S32, api.S32, true},
		{api.I64, api.I64, api.I64, true},
		{api.I64, api.S64, api.S64, true},
		{api.S64, api.S64, api.S64, true},
		{api.I32, api.I64, 0, false},
		{api.I32, api.S64, 0, false},
		{api.S32, api.I64, 0, false},
		{api.S32, api.S64, 0, false},
	} {
		for _, p := range [][2]int{{c.a, c.b}, {c.b, c.a}} {
			if got, ok := label.Join(p[0], p[1]); got != c.want || ok != c.ok {
				t.Errorf("Join(%d, %d) = %d, %v; want %d, %v", p[0], p[1], got, ok, c.want, c.ok)
			}
		}
	}
}

func TestPairsOfNumbersAsReckoned(t *testing.T) {
	for _, a := range numbers() {
		for _, b := range numbers() {
			if got, want := label.Flows(a, b), flows(a, b); got != want {
				t.Errorf("Flows(%d, %d) = %v; want %v", a, b, got, want)
			}
			got, ok := label.Join(a, b)
			if want, also := join(a, b); got != want || ok != also {
				t.Errorf("Join(%d, %d) = %d, %v; want %d, %v", a, b, got, ok, want, also)
			}
		}
	}
}

func TestNoTypeFlowsNowhereAndJoinsNothing(t *testing.T) {
	for _, n := range noTypes() {
		for _, other := range append(types(), n) {
			if label.Flows(n, other) || label.Flows(other, n) {
				t.Errorf("%d and %d: one flows to the other", n, other)
			}
			for _, p := range [][2]int{{n, other}, {other, n}} {
				if got, ok := label.Join(p[0], p[1]); got != 0 || ok {
					t.Errorf("Join(%d, %d) = %d, %v; want 0, false", p[0], p[1], got, ok)
				}
			}
		}
	}
}

func TestAll(t *testing.T) {
	i32, i64, s32, s64 := api.I32, api.I64, api.S32, api.S64
	for _, c := range []struct {
		name     string
		from, to []int
		want     bool
	}{
		{"both empty", []int{}, []int{}, true},
		{"both nil", nil, nil, true},
		{"an empty one and nil", []int{}, nil, true},
		{"nil and an empty one", nil, []int{}, true},
		{"one to itself", []int{s64}, []int{s64}, true},
		{"public to secret", []int{i32}, []int{s32}, true},
		{"secret to public", []int{s32}, []int{i32}, false},
		{"each to itself", []int{i32, i64, s32, s64}, []int{i32, i64, s32, s64}, true},
		{"each to the secret one", []int{i32, i64, s32, s64}, []int{s32, s64, s32, s64}, true},
		{"not at the first", []int{s32, i64, i32, s64}, []int{i32, i64, i32, s64}, false},
		{"not at a middle one", []int{i32, i64, s32, s64}, []int{s32, i64, s64, s64}, false},
		{"not at the last", []int{i32, i64, s32, s64}, []int{i32, i64, s32, i64}, false},
		{"the same in another order", []int{i32, i64}, []int{i64, i32}, false},
		{"one of from is left over", []int{i32, i64, s32}, []int{i32, i64}, false},
		{"one of to is left over", []int{i32, i64}, []int{i32, i64, s32}, false},
		{"nothing to one", nil, []int{s32}, false},
		{"one to nothing", []int{i32}, nil, false},
		{"an empty one to one", []int{}, []int{i32}, false},
		{"one to an empty one", []int{i32}, []int{}, false},
		{"no type at the first of from", []int{-1, i64}, []int{i32, i64}, false},
		{"no type at the last of from", []int{i32, 7}, []int{i32, s64}, false},
		{"no type at the first of to", []int{i32, i64}, []int{4, i64}, false},
		{"no type at the last of to", []int{i32, i64}, []int{i32, math.MinInt}, false},
		{"the same number, no type, on both sides", []int{i32, math.MaxInt, i64}, []int{i32, math.MaxInt, i64}, false},
	} {
		if got := label.All(c.from, c.to); got != c.want {
			t.Errorf("%s: All(%v, %v) = %v; want %v", c.name, c.from, c.to, got, c.want)
		}
	}
}

func TestAllOfShortListsAsReckoned(t *testing.T) {
	var lists [][]int
	some := append(types(), -1, 4, 7)
	for _, a := range some {
		lists = append(lists, []int{a})
		for _, b := range some {
			lists = append(lists, []int{a, b})
			for _, c := range types() {
				lists = append(lists, []int{a, b, c})
			}
		}
	}
	lists = append(lists, nil, []int{})
	for _, from := range lists {
		for _, to := range lists {
			if got, want := label.All(from, to), all(from, to); got != want {
				t.Errorf("All(%v, %v) = %v; want %v", from, to, got, want)
			}
		}
	}
}

// long is a list of types of that length, and one to which each of them flows.
func long(n int) (from, to []int) {
	for i := range n {
		from = append(from, types()[i*7%4])
		to = append(to, label.Of(i*7%4%2 == 1, true))
	}
	return from, to
}

func TestOnePlaceThatDoesNotFlow(t *testing.T) {
	from, to := long(200)
	if !label.All(from, to) {
		t.Fatal("all of them flow")
	}
	for i := range from {
		for _, wrong := range []int{from[i] ^ 1, -1, 4, from[i] + 4, math.MinInt | from[i], math.MaxInt} {
			f, g := slices.Clone(from), slices.Clone(to)
			f[i] = wrong
			if label.All(f, to) {
				t.Errorf("%d at place %d of from flows", wrong, i)
			}
			g[i] = wrong
			if label.All(from, g) {
				t.Errorf("flows to %d at place %d of to", wrong, i)
			}
		}
	}
}

func TestLengthsThatDifferByOne(t *testing.T) {
	for n := range 20 {
		from, to := long(n + 1)
		if !label.All(from, to) || label.All(from[:n], to) || label.All(from, to[:n]) {
			t.Errorf("lists of %d and one more", n)
		}
	}
}

// P3.3

func TestWhatFlowsOnFlows(t *testing.T) {
	some := append(types(), -1, 4, 7, math.MinInt, math.MaxInt)
	for _, a := range some {
		for _, b := range some {
			for _, c := range some {
				if label.Flows(a, b) && label.Flows(b, c) && !label.Flows(a, c) {
					t.Errorf("%d flows to %d, that to %d, but not %d to %d", a, b, c, a, c)
				}
			}
		}
	}
}

func TestEachTypeFlowsToItselfAndNoTwoToOneAnother(t *testing.T) {
	for _, a := range types() {
		for _, b := range types() {
			if both := label.Flows(a, b) && label.Flows(b, a); both != (a == b) {
				t.Errorf("%d and %d flow to one another: %v", a, b, both)
			}
		}
	}
}

func TestSecretsFlowToNothingPublic(t *testing.T) {
	for _, a := range numbers() {
		for _, b := range numbers() {
			if label.Secret(a) && !label.Secret(b) && label.Flows(a, b) {
				t.Errorf("the secret %d flows to %d", a, b)
			}
		}
	}
}

func TestJoinIsTheLeast(t *testing.T) {
	for _, a := range types() {
		for _, b := range types() {
			j, ok := label.Join(a, b)
			if ok && (!label.Flows(a, j) || !label.Flows(b, j)) {
				t.Errorf("Join(%d, %d) = %d, to which not both flow", a, b, j)
			}
			for _, c := range types() {
				if !label.Flows(a, c) || !label.Flows(b, c) {
					continue
				}
				if !ok || !label.Flows(j, c) {
					t.Errorf("%d and %d flow to %d, but Join answers %d, %v", a, b, c, j, ok)
				}
			}
		}
	}
}

// P3 and P4

func TestListsStayAsTheyAre(t *testing.T) {
	from, to := long(9)
	f, g := slices.Clone(from), slices.Clone(to)
	for range 3 {
		if label.All(from[:5], to[:4]) || !label.All(from[:5], to[:5]) || !label.All(from, to) {
			t.Error("All answers otherwise than ahead")
		}
	}
	if !slices.Equal(from, f) || !slices.Equal(to, g) {
		t.Errorf("%v and %v were changed: %v, %v", f, g, from, to)
	}
}

func TestOneListOnBothSides(t *testing.T) {
	l := types()
	if !label.All(l, l) || label.All(l, l[:3]) || label.All(l[:3], l[1:]) {
		t.Error("lists that share their memory")
	}
}
