package num_test

import (
	"math"
	"math/big"
	"slices"
	"testing"

	"cohort/api"
	"cohort/num"
)

const (
	least    = math.MinInt64
	greatest = math.MaxInt64
)

// samples has numbers of each sign: near 0, near powers of 2 and the root of 2^63, at both ends and beside them.
func samples() []int64 {
	l := []int64{0, 7, 10, 1000000, 123456789012345, 3037000499, 3037000500, 4294967295, 4294967297}
	for _, bit := range []int{0, 1, 2, 30, 31, 32, 33, 61, 62} {
		edge := int64(1) << bit
		l = append(l, edge-1, edge, edge+1)
	}
	l = append(l, greatest/3, greatest/2, greatest-2, greatest-1, greatest)
	for _, n := range slices.Clone(l) {
		l = append(l, -n)
	}
	l = append(l, least, least+1, least+2, least/2-1)
	slices.Sort(l)
	return slices.Compact(l)
}

// held is what a number of any size is in 64 bits.
func held(n *big.Int) (int64, api.Errno) {
	if !n.IsInt64() {
		return 0, api.ErrOverflow
	}
	return n.Int64(), api.OK
}

func check(t *testing.T, name string, args []int64, got int64, gotErr api.Errno, want int64, wantErr api.Errno) {
	t.Helper()
	if got != want || gotErr != wantErr {
		t.Errorf("%s%d is %d with error %d, not %d with error %d", name, args, got, gotErr, want, wantErr)
	}
}

// aCase has what a call is to answer; its arguments are as many as the call has.
type aCase struct {
	args []int64
	want int64
	err  api.Errno
}

func two(t *testing.T, name string, call func(a, b int64) (int64, api.Errno), cases []aCase) {
	t.Helper()
	for _, c := range cases {
		got, e := call(c.args[0], c.args[1])
		check(t, name, c.args, got, e, c.want, c.err)
	}
}

// Promise 2.1.
func TestAdd(t *testing.T) {
	two(t, "Add", num.Add, []aCase{
		{[]int64{0, 0}, 0, api.OK},
		{[]int64{2, 3}, 5, api.OK},
		{[]int64{2, -3}, -1, api.OK},
		{[]int64{-2, 3}, 1, api.OK},
		{[]int64{-2, -3}, -5, api.OK},
		{[]int64{greatest, 0}, greatest, api.OK},
		{[]int64{greatest - 1, 1}, greatest, api.OK},
		{[]int64{1, greatest - 1}, greatest, api.OK},
		{[]int64{greatest, 1}, 0, api.ErrOverflow},
		{[]int64{1, greatest}, 0, api.ErrOverflow},
		{[]int64{greatest, greatest}, 0, api.ErrOverflow},
		{[]int64{least, 0}, least, api.OK},
		{[]int64{least + 1, -1}, least, api.OK},
		{[]int64{-1, least + 1}, least, api.OK},
		{[]int64{least, -1}, 0, api.ErrOverflow},
		{[]int64{-1, least}, 0, api.ErrOverflow},
		{[]int64{least, least}, 0, api.ErrOverflow},
		{[]int64{least, greatest}, -1, api.OK},
		{[]int64{greatest, least}, -1, api.OK},
		{[]int64{1 << 62, 1 << 62}, 0, api.ErrOverflow},
		{[]int64{-1 << 62, -1 << 62}, least, api.OK},
	})
}

// Promise 2.1.
func TestSub(t *testing.T) {
	two(t, "Sub", num.Sub, []aCase{
		{[]int64{0, 0}, 0, api.OK},
		{[]int64{2, 3}, -1, api.OK},
		{[]int64{2, -3}, 5, api.OK},
		{[]int64{-2, 3}, -5, api.OK},
		{[]int64{-2, -3}, 1, api.OK},
		{[]int64{greatest - 1, -1}, greatest, api.OK},
		{[]int64{greatest, -1}, 0, api.ErrOverflow},
		{[]int64{greatest, greatest}, 0, api.OK},
		{[]int64{least + 1, 1}, least, api.OK},
		{[]int64{least, 1}, 0, api.ErrOverflow},
		{[]int64{least, least}, 0, api.OK},
		{[]int64{-1, least}, greatest, api.OK},
		{[]int64{0, least}, 0, api.ErrOverflow},
		{[]int64{0, greatest}, least + 1, api.OK},
		{[]int64{-1, greatest}, least, api.OK},
		{[]int64{-2, greatest}, 0, api.ErrOverflow},
		{[]int64{least, greatest}, 0, api.ErrOverflow},
		{[]int64{greatest, least}, 0, api.ErrOverflow},
	})
}

// Promise 2.1.
func TestMul(t *testing.T) {
	two(t, "Mul", num.Mul, []aCase{
		{[]int64{0, 0}, 0, api.OK},
		{[]int64{6, 7}, 42, api.OK},
		{[]int64{6, -7}, -42, api.OK},
		{[]int64{-6, 7}, -42, api.OK},
		{[]int64{-6, -7}, 42, api.OK},
		{[]int64{0, least}, 0, api.OK},
		{[]int64{-7, 0}, 0, api.OK},
		{[]int64{least, 1}, least, api.OK},
		{[]int64{1, least}, least, api.OK},
		{[]int64{least, -1}, 0, api.ErrOverflow},
		{[]int64{-1, least}, 0, api.ErrOverflow},
		{[]int64{greatest, -1}, least + 1, api.OK},
		{[]int64{1 << 62, 2}, 0, api.ErrOverflow},
		{[]int64{1 << 62, -2}, least, api.OK},
		{[]int64{-1 << 62, 2}, least, api.OK},
		{[]int64{-1 << 62, -2}, 0, api.ErrOverflow},
		{[]int64{1<<62 + 1, -2}, 0, api.ErrOverflow},
		{[]int64{1<<62 - 1, 2}, greatest - 1, api.OK},
		{[]int64{1 << 32, 1 << 32}, 0, api.ErrOverflow},
		{[]int64{1 << 32, -1 << 32}, 0, api.ErrOverflow},
		{[]int64{3037000499, 3037000499}, 9223372030926249001, api.OK},
		{[]int64{3037000500, 3037000500}, 0, api.ErrOverflow},
		{[]int64{least, least}, 0, api.ErrOverflow},
		{[]int64{greatest, greatest}, 0, api.ErrOverflow},
		{[]int64{least, greatest}, 0, api.ErrOverflow},
	})
}

// Promise 2.1.
func TestDiv(t *testing.T) {
	two(t, "Div", num.Div, []aCase{
		{[]int64{7, 2}, 3, api.OK},
		{[]int64{7, -2}, -3, api.OK},
		{[]int64{-7, 2}, -3, api.OK},
		{[]int64{-7, -2}, 3, api.OK},
		{[]int64{0, 5}, 0, api.OK},
		{[]int64{1, 2}, 0, api.OK},
		{[]int64{-1, 2}, 0, api.OK},
		{[]int64{0, 0}, 0, api.ErrZero},
		{[]int64{1, 0}, 0, api.ErrZero},
		{[]int64{least, 0}, 0, api.ErrZero},
		{[]int64{greatest, 0}, 0, api.ErrZero},
		{[]int64{least, -1}, 0, api.ErrOverflow},
		{[]int64{least + 1, -1}, greatest, api.OK},
		{[]int64{least, 1}, least, api.OK},
		{[]int64{least, -2}, 1 << 62, api.OK},
		{[]int64{greatest, -1}, least + 1, api.OK},
		{[]int64{least, least}, 1, api.OK},
		{[]int64{least, greatest}, -1, api.OK},
		{[]int64{greatest, least}, 0, api.OK},
		{[]int64{7, -1}, -7, api.OK},
	})
}

// Promise 2.1.
func TestRatio(t *testing.T) {
	for _, c := range []aCase{
		{[]int64{1 << 62, 6, 3}, 0, api.ErrOverflow},
		{[]int64{1 << 62, 3, 6}, 1 << 61, api.OK},
		{[]int64{7, 3, 2}, 10, api.OK},
		{[]int64{7, 3, -2}, -10, api.OK},
		{[]int64{7, -3, 2}, -10, api.OK},
		{[]int64{-7, 3, 2}, -10, api.OK},
		{[]int64{-7, -3, 2}, 10, api.OK},
		{[]int64{-7, 3, -2}, 10, api.OK},
		{[]int64{7, -3, -2}, 10, api.OK},
		{[]int64{-7, -3, -2}, -10, api.OK},
		{[]int64{0, -3, 2}, 0, api.OK},
		{[]int64{0, least, -1}, 0, api.OK},
		{[]int64{-1, 1, 2}, 0, api.OK},
		// A division by 0, ahead of any want of room.
		{[]int64{0, 0, 0}, 0, api.ErrZero},
		{[]int64{1, 1, 0}, 0, api.ErrZero},
		{[]int64{least, least, 0}, 0, api.ErrZero},
		{[]int64{greatest, -1, 0}, 0, api.ErrZero},
		// The product has no room, the result has.
		{[]int64{greatest, greatest, greatest}, greatest, api.OK},
		{[]int64{least, least, least}, least, api.OK},
		{[]int64{least, greatest, least}, greatest, api.OK},
		{[]int64{least, greatest, greatest}, least, api.OK},
		{[]int64{1 << 62, 6, -3}, least, api.OK},
		{[]int64{-1 << 62, 6, 3}, least, api.OK},
		{[]int64{greatest, 3, 5}, 5534023222112865484, api.OK},
		{[]int64{least, 3, 5}, -5534023222112865484, api.OK},
		{[]int64{least, -1, 2}, 1 << 62, api.OK},
		{[]int64{greatest, 3, 3}, greatest, api.OK},
		// The result lies beside an end, on either side of it.
		{[]int64{greatest, 1000001, 1000000}, 0, api.ErrOverflow},
		{[]int64{1 << 62, 5, -2}, 0, api.ErrOverflow},
		{[]int64{1<<62 + 1, -4, 2}, 0, api.ErrOverflow},
		{[]int64{1<<62 - 1, 4, 2}, greatest - 1, api.OK},
		{[]int64{4611686018427387905, 6, -3}, 0, api.ErrOverflow},
		{[]int64{least, -1, 1}, 0, api.ErrOverflow},
		{[]int64{least, 1, -1}, 0, api.ErrOverflow},
		{[]int64{least, -1, -1}, least, api.OK},
		{[]int64{least, least, greatest}, 0, api.ErrOverflow},
		{[]int64{least, least, 1}, 0, api.ErrOverflow},
		{[]int64{greatest, greatest, 1}, 0, api.ErrOverflow},
		{[]int64{1 << 32, 1 << 32, 1}, 0, api.ErrOverflow},
		{[]int64{1 << 62, 4, 1}, 0, api.ErrOverflow},
		{[]int64{1 << 62, 8, 2}, 0, api.ErrOverflow},
	} {
		got, e := num.Ratio(c.args[0], c.args[1], c.args[2])
		check(t, "Ratio", c.args, got, e, c.want, c.err)
	}
}

// Promise 2.1.
func TestSum(t *testing.T) {
	for _, c := range []aCase{
		{nil, 0, api.OK},
		{[]int64{}, 0, api.OK},
		{[]int64{0}, 0, api.OK},
		{[]int64{5}, 5, api.OK},
		{[]int64{-5}, -5, api.OK},
		{[]int64{greatest}, greatest, api.OK},
		{[]int64{least}, least, api.OK},
		{[]int64{1, 2, 3, 4}, 10, api.OK},
		{[]int64{1, -2, 3, -4}, -2, api.OK},
		{[]int64{greatest, 1}, 0, api.ErrOverflow},
		{[]int64{least, -1}, 0, api.ErrOverflow},
		// The first sum without room ends it, though what follows would bring it back.
		{[]int64{1 << 62, 1 << 62, -1}, 0, api.ErrOverflow},
		{[]int64{-1, 1 << 62, 1 << 62}, greatest, api.OK},
		{[]int64{3, greatest - 2, -5, 4}, 0, api.ErrOverflow},
		{[]int64{3, least, -5, 4}, 0, api.ErrOverflow},
		{[]int64{greatest, least, greatest, least}, -2, api.OK},
		{[]int64{least, greatest, 1, least}, least, api.OK},
		{[]int64{greatest, least, least, greatest}, 0, api.ErrOverflow},
	} {
		before := slices.Clone(c.args)
		got, e := num.Sum(c.args...)
		check(t, "Sum", c.args, got, e, c.want, c.err)
		if !slices.Equal(c.args, before) {
			t.Errorf("Sum%d left %d behind", before, c.args)
		}
	}
	if got, e := num.Sum(); got != 0 || e != api.OK {
		t.Error(got, e)
	}
	if got, e := num.Sum(1, 2, 3); got != 6 || e != api.OK {
		t.Error(got, e)
	}
}

// Promise 2.1: many numbers, each as great as leaves room for just so many.
func TestSumOfMany(t *testing.T) {
	const many = 1 << 12
	l := slices.Repeat([]int64{1 << 51}, many)
	got, e := num.Sum(l[1:]...)
	check(t, "Sum", []int64{1 << 51, many - 1}, got, e, (many-1)<<51, api.OK)
	got, e = num.Sum(l...)
	check(t, "Sum", []int64{1 << 51, many}, got, e, 0, api.ErrOverflow)
	for i := range l {
		l[i] = -l[i]
	}
	got, e = num.Sum(l...)
	check(t, "Sum", []int64{-1 << 51, many}, got, e, least, api.OK)
	got, e = num.Sum(append(l, -1)...)
	check(t, "Sum", []int64{-1 << 51, many, -1}, got, e, 0, api.ErrOverflow)
}

// Promise 2.1: two numbers, held against sums of any size.
func TestTwoAgainstAnySize(t *testing.T) {
	for _, a := range samples() {
		for _, b := range samples() {
			x, y, args := big.NewInt(a), big.NewInt(b), []int64{a, b}
			got, e := num.Add(a, b)
			want, wantErr := held(new(big.Int).Add(x, y))
			check(t, "Add", args, got, e, want, wantErr)
			got, e = num.Sum(a, b)
			check(t, "Sum", args, got, e, want, wantErr)
			got, e = num.Sub(a, b)
			want, wantErr = held(new(big.Int).Sub(x, y))
			check(t, "Sub", args, got, e, want, wantErr)
			got, e = num.Mul(a, b)
			want, wantErr = held(new(big.Int).Mul(x, y))
			check(t, "Mul", args, got, e, want, wantErr)
			want, wantErr = 0, api.ErrZero
			if b != 0 {
				want, wantErr = held(new(big.Int).Quo(x, y))
			}
			got, e = num.Div(a, b)
			check(t, "Div", args, got, e, want, wantErr)
		}
	}
}

// Promise 2.1: three numbers, held against a product and a quotient of any size.
func TestRatioAgainstAnySize(t *testing.T) {
	for _, a := range samples() {
		for _, b := range samples() {
			product := new(big.Int).Mul(big.NewInt(a), big.NewInt(b))
			for _, c := range samples() {
				want, wantErr := int64(0), api.ErrZero
				if c != 0 {
					want, wantErr = held(new(big.Int).Quo(product, big.NewInt(c)))
				}
				got, e := num.Ratio(a, b, c)
				check(t, "Ratio", []int64{a, b, c}, got, e, want, wantErr)
			}
		}
	}
}
