package avl_test

import (
	"iter"
	"math"
	"math/rand"
	"slices"
	"sort"
	"testing"

	"undertow/avl"
)

// The calls with the types that the chapter lists.
var (
	_ func() *avl.Tree[string]                                          = avl.New[string]
	_ func(*avl.Tree[string], int, string) bool                         = (*avl.Tree[string]).Put
	_ func(*avl.Tree[string], int) bool                                 = (*avl.Tree[string]).Delete
	_ func(*avl.Tree[string], int) (string, bool)                       = (*avl.Tree[string]).Get
	_ func(*avl.Tree[string], int) (int, string, bool)                  = (*avl.Tree[string]).Floor
	_ func(*avl.Tree[string], int) (int, string, bool)                  = (*avl.Tree[string]).Ceil
	_ func(*avl.Tree[string], int) (int, string, bool)                  = (*avl.Tree[string]).At
	_ func(*avl.Tree[string], int) int                                  = (*avl.Tree[string]).Rank
	_ func(*avl.Tree[string]) int                                       = (*avl.Tree[string]).Len
	_ func(*avl.Tree[string]) int                                       = (*avl.Tree[string]).Height
	_ func(*avl.Tree[string]) iter.Seq2[int, string]                    = (*avl.Tree[string]).All
	_ func(*avl.Tree[string], int) iter.Seq2[int, string]               = (*avl.Tree[string]).From
	_ func(*avl.Tree[string]) iter.Seq2[int, string]                    = (*avl.Tree[string]).Back
	_ func(*avl.Tree[string]) *avl.Tree[string]                         = (*avl.Tree[string]).Clone
	_ func(*avl.Tree[struct{ A, B int }]) *avl.Tree[struct{ A, B int }] = (*avl.Tree[struct{ A, B int }]).Clone
)

// pair is a key with its value.
type pair struct{ key, v int }

// model is what a tree must be: pairs by their keys, rising.
type model []pair

// place is how many keys are below key.
func (m model) place(key int) int {
	return sort.Search(len(m), func(i int) bool { return m[i].key >= key })
}

// has tells whether a key stands at its place.
func (m model) has(key int) bool {
	i := m.place(key)
	return i < len(m) && m[i].key == key
}

// put is the model in which a key has a value.
func (m model) put(key, v int) model {
	i := m.place(key)
	if m.has(key) {
		m[i].v = v
		return m
	}
	return slices.Insert(m, i, pair{key, v})
}

// without is the model in which a key has none.
func (m model) without(key int) model {
	if i := m.place(key); m.has(key) {
		return slices.Delete(m, i, i+1)
	}
	return m
}

// at is the i-th pair, as At tells it.
func (m model) at(i int) (pair, bool) {
	if i < 0 || i >= len(m) {
		return pair{}, false
	}
	return m[i], true
}

// told is all that is gone through.
func told(s iter.Seq2[int, int]) model {
	var m model
	for key, v := range s {
		m = append(m, pair{key, v})
	}
	return m
}

// turned is the model, falling.
func (m model) turned() model {
	m = slices.Clone(m)
	slices.Reverse(m)
	return m
}

// least is F: how many keys a tree of a height has at least.
func least(height int) int {
	a, b := 0, 1
	for range height {
		a, b = b, a+b+1
	}
	return a
}

// mustFind fails if something that is asked for a key is told otherwise than by the model.
func mustFind(t *testing.T, tree *avl.Tree[int], m model, key int) {
	t.Helper()
	i := m.place(key)
	above := i
	if m.has(key) {
		above++
	}
	floor, fok := m.at(above - 1)
	ceil, cok := m.at(i)
	if k, v, ok := tree.Floor(key); (pair{k, v}) != floor || ok != fok {
		t.Fatalf("Floor(%d) of %v: %d, %d, %t", key, m, k, v, ok)
	}
	if k, v, ok := tree.Ceil(key); (pair{k, v}) != ceil || ok != cok {
		t.Fatalf("Ceil(%d) of %v: %d, %d, %t", key, m, k, v, ok)
	}
	want := 0
	if m.has(key) {
		want = m[i].v
	}
	if v, ok := tree.Get(key); v != want || ok != m.has(key) {
		t.Fatalf("Get(%d) of %v: %d, %t", key, m, v, ok)
	}
	if n := tree.Rank(key); n != i {
		t.Fatalf("Rank(%d) of %v: %d", key, m, n)
	}
	if from := told(tree.From(key)); !slices.Equal(from, m[i:]) {
		t.Fatalf("From(%d) of %v: %v", key, m, from)
	}
}

// mustBe fails if a tree is another one than the model.
func mustBe(t *testing.T, tree *avl.Tree[int], m model) {
	t.Helper()
	if tree.Len() != len(m) {
		t.Fatalf("Len of %v: %d", m, tree.Len())
	}
	if h := tree.Height(); least(h) > len(m) || (h == 0) != (len(m) == 0) || h < 62 && len(m) >= 1<<h {
		t.Fatalf("Height of %d keys: %d", len(m), h)
	}
	if all := told(tree.All()); !slices.Equal(all, m) {
		t.Fatalf("All of %v: %v", m, all)
	}
	if back := told(tree.Back()); !slices.Equal(back, m.turned()) {
		t.Fatalf("Back of %v: %v", m, back)
	}
	for i := -2; i < len(m)+2; i++ {
		want, wok := m.at(i)
		if k, v, ok := tree.At(i); (pair{k, v}) != want || ok != wok {
			t.Fatalf("At(%d) of %v: %d, %d, %t", i, m, k, v, ok)
		}
	}
	for _, i := range []int{math.MinInt, math.MinInt + 1, math.MaxInt - 1, math.MaxInt} {
		if k, v, ok := tree.At(i); k != 0 || v != 0 || ok {
			t.Fatalf("At(%d): %d, %d, %t", i, k, v, ok)
		}
	}
	for _, p := range m {
		mustFind(t, tree, m, p.key)
		if p.key > math.MinInt {
			mustFind(t, tree, m, p.key-1)
		}
		if p.key < math.MaxInt {
			mustFind(t, tree, m, p.key+1)
		}
	}
	mustFind(t, tree, m, math.MinInt)
	mustFind(t, tree, m, 0)
	mustFind(t, tree, m, math.MaxInt)
}

// grown is a tree and its model, of keys that were put in this order, each with a value of its own.
func grown(keys ...int) (*avl.Tree[int], model) {
	tree, m := avl.New[int](), model(nil)
	for i, key := range keys {
		tree.Put(key, 100+i)
		m = m.put(key, 100+i)
	}
	return tree, m
}

func TestExample(t *testing.T) {
	tree, _ := grown(5, 3, 9)
	if k, v, ok := tree.Floor(4); k != 3 || v != 101 || !ok {
		t.Error(k, v, ok)
	}
	if k, v, ok := tree.Ceil(6); k != 9 || v != 102 || !ok {
		t.Error(k, v, ok)
	}
	if k, v, ok := tree.At(1); k != 5 || v != 100 || !ok {
		t.Error(k, v, ok)
	}
	if n := tree.Rank(9); n != 2 {
		t.Error(n)
	}
	if h := tree.Height(); h != 2 {
		t.Error(h)
	}
}

func TestNewHasNoKeys(t *testing.T) {
	mustBe(t, avl.New[int](), nil)
	tree := avl.New[int]()
	for _, key := range []int{0, 5, -5, math.MinInt, math.MaxInt} {
		if tree.Delete(key) {
			t.Error("had", key)
		}
	}
	mustBe(t, tree, nil)
}

func TestPutDeleteGet(t *testing.T) {
	tree := avl.New[string]()
	if !tree.Put(5, "five") || tree.Put(5, "other") || !tree.Put(6, "") || tree.Put(6, "six") {
		t.Error("Put tells otherwise whether a key had no value")
	}
	if v, ok := tree.Get(5); v != "other" || !ok {
		t.Error(v, ok)
	}
	if v, ok := tree.Get(7); v != "" || ok {
		t.Error(v, ok)
	}
	if tree.Delete(7) || !tree.Delete(5) || tree.Delete(5) {
		t.Error("Delete tells otherwise whether a key had a value")
	}
	if v, ok := tree.Get(5); v != "" || ok || tree.Len() != 1 {
		t.Error(v, ok, tree.Len())
	}
	// A zero value is a value.
	if !tree.Put(8, "") {
		t.Error("8 had none")
	}
	if v, ok := tree.Get(8); v != "" || !ok || !tree.Delete(8) {
		t.Error(v, ok)
	}
	// One that was taken out is new again.
	if !tree.Put(5, "again") {
		t.Error("5 had none")
	}
}

func TestKeysAtTheEndsOfTheNumbers(t *testing.T) {
	keys := []int{0, math.MaxInt, math.MinInt, -1, 1, math.MinInt + 1, math.MaxInt - 1}
	tree, m := grown(keys...)
	mustBe(t, tree, m)
	for _, key := range keys {
		if !tree.Delete(key) {
			t.Error(key)
		}
		m = m.without(key)
		mustBe(t, tree, m)
	}
}

// What a value holds within itself is the same thing, in a clone, too.
func TestValuesAreNotCopied(t *testing.T) {
	mem := []int{1, 2, 3}
	tree := avl.New[[]int]()
	tree.Put(1, mem)
	clone := tree.Clone()
	mem[0] = 99
	for _, tree := range []*avl.Tree[[]int]{tree, clone} {
		if v, ok := tree.Get(1); !ok || len(v) != 3 || &v[0] != &mem[0] {
			t.Error(v, ok)
		}
	}
}

// arrangements calls f with the numbers below n in each order.
func arrangements(n int, f func(keys []int)) {
	var place func(keys []int)
	place = func(keys []int) {
		if len(keys) == n {
			f(keys)
			return
		}
		for key := range n {
			if !slices.Contains(keys, key) {
				place(append(slices.Clip(keys), key))
			}
		}
	}
	place(nil)
}

// All orders in which a few keys are put in, and each key that may go then.
func TestAllSmallTrees(t *testing.T) {
	for n := range 7 {
		arrangements(n, func(keys []int) {
			tree, m := grown(keys...)
			mustBe(t, tree, m)
			for key := -1; key <= n; key++ {
				less := tree.Clone()
				if less.Delete(key) != m.has(key) {
					t.Fatalf("Delete(%d) of %v", key, m)
				}
				mustBe(t, less, slices.Clone(m).without(key))
			}
			mustBe(t, tree, m)
		})
	}
}

// All orders in which keys come and go.
func TestAllOrdersOfDeletes(t *testing.T) {
	for _, keys := range [][]int{{0, 1, 2, 3, 4, 5}, {5, 4, 3, 2, 1, 0}, {3, 1, 4, 0, 2, 5}, {2, 1, 4, 0, 3, 5}} {
		arrangements(len(keys), func(order []int) {
			tree, m := grown(keys...)
			for _, key := range order {
				tree.Delete(key)
				m = m.without(key)
				mustBe(t, tree, m)
			}
		})
	}
}

func TestManyChanges(t *testing.T) {
	rnd := rand.New(rand.NewSource(1))
	for _, most := range []int{1, 3, 10, 40, 80} {
		tree, m := avl.New[int](), model(nil)
		for range 1500 {
			key, v := rnd.Intn(2*most)-most, rnd.Int()
			if rnd.Intn(2) == 0 {
				if tree.Put(key, v) == m.has(key) {
					t.Fatalf("Put(%d) of %v", key, m)
				}
				m = m.put(key, v)
			} else {
				if tree.Delete(key) != m.has(key) {
					t.Fatalf("Delete(%d) of %v", key, m)
				}
				m = m.without(key)
			}
			mustBe(t, tree, m)
		}
	}
}

// P8.4
func TestHeight(t *testing.T) {
	for _, c := range []struct {
		keys []int
		want int
	}{
		{nil, 0}, {[]int{5}, 1}, {[]int{5, 6}, 2}, {[]int{6, 5}, 2}, {[]int{1, 2, 3}, 2}, {[]int{3, 2, 1}, 2}, {[]int{1, 3, 2}, 2}, {[]int{3, 1, 2}, 2},
		{[]int{1, 2, 3, 4}, 3}, {[]int{1, 2, 3, 4, 5, 6, 7}, 3}, {[]int{7, 6, 5, 4, 3, 2, 1}, 3}, {[]int{1, 2, 3, 4, 5, 6, 7, 8}, 4},
	} {
		if tree, _ := grown(c.keys...); tree.Height() != c.want {
			t.Errorf("Height of %v: %d, not %d", c.keys, tree.Height(), c.want)
		}
	}
	if least(2) != 2 || least(3) != 4 || least(4) != 7 || least(5) != 12 {
		t.Error("F is another one")
	}
}

// Keys that come in order, as offsets do, and go in order: the tree never is too tall, and never slow.
func TestKeysInOrder(t *testing.T) {
	const n = 100_000
	for _, step := range []int{1, -1} {
		tree := avl.New[int]()
		for i := range n {
			tree.Put(i*step, i)
			if least(tree.Height()) > i+1 {
				t.Fatalf("%d keys, Height %d", i+1, tree.Height())
			}
		}
		for i := range n {
			if v, ok := tree.Get(i * step); v != i || !ok {
				t.Fatal(i, v, ok)
			}
		}
		for i := range n {
			if !tree.Delete(i * step) {
				t.Fatal(i)
			}
			if left := n - i - 1; least(tree.Height()) > left || tree.Len() != left {
				t.Fatalf("%d keys, Height %d", left, tree.Height())
			}
		}
	}
}

// P8.3: no more is told once nobody wants more, and one that was gone through can be gone through again.
func TestNoMoreThanWanted(t *testing.T) {
	tree, m := grown(rand.New(rand.NewSource(2)).Perm(20)...)
	for _, c := range []struct {
		name string
		s    iter.Seq2[int, int]
		want model
	}{{"All", tree.All(), m}, {"From", tree.From(7), m[7:]}, {"Back", tree.Back(), m.turned()}} {
		for wanted := 1; wanted <= len(c.want); wanted++ {
			var got model
			c.s(func(key, v int) bool {
				got = append(got, pair{key, v})
				return len(got) < wanted
			})
			if !slices.Equal(got, c.want[:wanted]) {
				t.Errorf("%s, of which %d were wanted: %v", c.name, wanted, got)
			}
		}
		if got := told(c.s); !slices.Equal(got, c.want) {
			t.Errorf("%s, once more: %v", c.name, got)
		}
	}
}

// One that is gone through within another one goes its own way.
func TestOneWithinAnother(t *testing.T) {
	tree, _ := grown(1, 2, 3)
	var got []int
	all := tree.All()
	for a := range all {
		for b := range all {
			got = append(got, a*10+b)
		}
		for b := range tree.Back() {
			got = append(got, -b)
		}
	}
	if want := []int{11, 12, 13, -3, -2, -1, 21, 22, 23, -3, -2, -1, 31, 32, 33, -3, -2, -1}; !slices.Equal(got, want) {
		t.Error(got)
	}
}

// Nothing is promised of what is told then, but that it ends and does not panic.
func TestChangesWhileGoneThrough(t *testing.T) {
	tree, _ := grown(rand.New(rand.NewSource(3)).Perm(50)...)
	n := 0
	for key := range tree.All() {
		tree.Delete(key)
		tree.Put(key+1000, 0)
		if n++; n > 10_000 {
			t.Fatal("no end")
		}
	}
	for key := range tree.Back() {
		tree.Put(key-10_000, 0)
		if n++; n > 10_000 {
			t.Fatal("no end")
		}
	}
}

func TestClone(t *testing.T) {
	rnd := rand.New(rand.NewSource(4))
	trees, models := []*avl.Tree[int]{avl.New[int]()}, []model{nil}
	for range 600 {
		i := rnd.Intn(len(trees))
		if len(trees) < 8 && rnd.Intn(10) == 0 {
			trees, models = append(trees, trees[i].Clone()), append(models, slices.Clone(models[i]))
		}
		if key := rnd.Intn(30); rnd.Intn(3) > 0 {
			trees[i].Put(key, key+i)
			models[i] = models[i].put(key, key+i)
		} else {
			trees[i].Delete(key)
			models[i] = models[i].without(key)
		}
		for i := range trees {
			mustBe(t, trees[i], models[i])
		}
	}
	if len(trees) < 8 {
		t.Error("too few clones")
	}
}

// P8.5
func TestRankIsThePlace(t *testing.T) {
	tree, _ := grown(rand.New(rand.NewSource(5)).Perm(300)...)
	for i := range 300 {
		key, _, ok := tree.At(i)
		if !ok || tree.Rank(key) != i {
			t.Fatal(i, key, ok)
		}
		if n := len(told(tree.From(key))); tree.Rank(key)+n != tree.Len() {
			t.Fatal(key, n)
		}
	}
}

func TestOfNil(t *testing.T) {
	var tree *avl.Tree[string]
	if tree.Put(5, "five") || tree.Delete(5) {
		t.Error("something is done")
	}
	if v, ok := tree.Get(5); v != "" || ok {
		t.Error(v, ok)
	}
	for _, find := range []func(int) (int, string, bool){tree.Floor, tree.Ceil, tree.At} {
		for _, n := range []int{-5, 0, 5} {
			if key, v, ok := find(n); key != 0 || v != "" || ok {
				t.Error(n, key, v, ok)
			}
		}
	}
	if tree.Rank(5) != 0 || tree.Len() != 0 || tree.Height() != 0 || tree.Clone() != nil {
		t.Error("something is there")
	}
	for _, s := range []iter.Seq2[int, string]{tree.All(), tree.From(-5), tree.Back()} {
		for key, v := range s {
			t.Error(key, v)
		}
	}
}
