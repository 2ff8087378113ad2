package topo

import (
	"math"
	"reflect"
	"slices"
	"testing"

	"plugtree/api"
)

// far are numbers that are out of all bounds, many of them such that their lower bits are within.
var far = []int{-1, -2, -15, -16, -255, -256, 16, 17, 18, 19, 31, 255, 256, 257, 258, 259, 1 << 16, 1<<16 + 1, 1<<31 + 1, 1 << 32, 1<<32 + 1, 1<<32 + 2, 1<<32 + 15, 1 << 62, math.MinInt, math.MinInt + 1, math.MinInt32, math.MaxInt}

// dice are numbers that are the same in each run.
type dice struct{ n uint64 }

func (d *dice) below(most int) int {
	d.n = d.n*6364136223846793005 + 1442695040888963407
	return int(d.n>>33) % most
}

func hub(ports int, path ...int) api.Node {
	return api.Node{Path: path, Kind: api.KHub, Ports: ports}
}

func disk(serial int, path ...int) api.Node {
	return api.Node{Path: path, Kind: api.KDisk, Serial: serial}
}

func keys(serial int, path ...int) api.Node {
	return api.Node{Path: path, Kind: api.KKeys, Serial: serial}
}

// What follows, up to the tests, is what the chapter says, word by word, with nothing of package route.

func rightByWords(n api.Node) bool {
	if len(n.Path) < 1 || len(n.Path) > 6 {
		return false
	}
	for _, port := range n.Path {
		if port < 1 || port > 15 {
			return false
		}
	}
	if n.Kind == 1 {
		return n.Ports >= 1 && n.Ports <= 15 && len(n.Path) < 6
	}
	return (n.Kind == 2 || n.Kind == 3) && n.Ports == 0
}

func samePath(a, b []int) bool {
	if len(a) != len(b) {
		return false
	}
	for i := range a {
		if a[i] != b[i] {
			return false
		}
	}
	return true
}

func aheadByWords(a, b []int) bool {
	for i := 0; i < len(a) && i < len(b); i++ {
		if a[i] != b[i] {
			return a[i] < b[i]
		}
	}
	return len(a) < len(b)
}

func fitsByWords(tree []api.Node, n api.Node) bool {
	port, hubPath := n.Path[len(n.Path)-1], n.Path[:len(n.Path)-1]
	if len(n.Path) == 1 && port >= 1 && port <= 4 {
		return true
	}
	for _, other := range tree {
		if other.Kind == 1 && other.Ports >= port && samePath(other.Path, hubPath) {
			return true
		}
	}
	return false
}

func checkByWords(tree []api.Node) api.Errno {
	if len(tree) > 40 {
		return api.ErrLarge
	}
	for _, n := range tree {
		if !rightByWords(n) {
			return api.ErrArg
		}
	}
	for i := range tree {
		if i+1 < len(tree) && !aheadByWords(tree[i].Path, tree[i+1].Path) {
			return api.ErrForm
		}
	}
	for _, n := range tree {
		if !fitsByWords(tree, n) {
			return api.ErrNone
		}
	}
	return api.OK
}

func findByWords(tree []api.Node, path []int) (api.Node, bool) {
	for _, n := range tree {
		if samePath(n.Path, path) {
			return n, true
		}
	}
	return api.Node{}, false
}

func plugByWords(tree []api.Node, n api.Node) ([]api.Node, api.Errno) {
	if code := checkByWords(tree); code != api.OK {
		return nil, code
	}
	if !rightByWords(n) {
		return nil, api.ErrArg
	}
	if _, ok := findByWords(tree, n.Path); ok {
		return nil, api.ErrTwice
	}
	if !fitsByWords(tree, n) {
		return nil, api.ErrNone
	}
	if len(tree) == 40 {
		return nil, api.ErrLarge
	}
	var with []api.Node
	laid := false
	for _, other := range tree {
		if !laid && aheadByWords(n.Path, other.Path) {
			with, laid = append(with, n), true
		}
		with = append(with, other)
	}
	if !laid {
		with = append(with, n)
	}
	return with, api.OK
}

func unplugByWords(tree []api.Node, path []int) (left, gone []api.Node, code api.Errno) {
	if code := checkByWords(tree); code != api.OK {
		return nil, nil, code
	}
	if _, ok := findByWords(tree, path); !ok {
		return nil, nil, api.ErrNone
	}
	for _, n := range tree {
		if len(n.Path) >= len(path) && samePath(n.Path[:len(path)], path) {
			gone = append(gone, n)
		} else {
			left = append(left, n)
		}
	}
	return left, gone, api.OK
}

func sameNode(a, b api.Node) bool {
	return samePath(a.Path, b.Path) && a.Kind == b.Kind && a.Ports == b.Ports && a.Serial == b.Serial
}

func sameTree(a, b []api.Node) bool { return slices.EqualFunc(a, b, sameNode) }

// checked holds that Check says this of a tree, and that Plug and Unplug say it as well, ahead of all else, if it is an error.
func checked(t *testing.T, tree []api.Node, want api.Errno) {
	t.Helper()
	if code := Check(tree); code != want {
		t.Fatalf("Check(%v): %d, not %d", tree, code, want)
	}
	if want == api.OK {
		return
	}
	for _, n := range []api.Node{{}, disk(1, 1), disk(1, 4), disk(1, 5), disk(1, 3, 1), hub(16, 3)} {
		if with, code := Plug(tree, n); with != nil || code != want {
			t.Fatalf("Plug(%v, %v): %v %d, not %d", tree, n, with, code, want)
		}
		if left, gone, code := Unplug(tree, n.Path); left != nil || gone != nil || code != want {
			t.Fatalf("Unplug(%v, %v): %v %v %d, not %d", tree, n.Path, left, gone, code, want)
		}
	}
}

// found holds that Find does what the chapter says.
func found(t *testing.T, tree []api.Node, path []int) {
	t.Helper()
	wantNode, want := findByWords(tree, path)
	n, ok := Find(tree, path)
	if ok != want || !sameNode(n, wantNode) {
		t.Fatalf("Find(%v, %v): %v %v, not %v %v", tree, path, n, ok, wantNode, want)
	}
	if !ok && n.Path != nil {
		t.Fatalf("Find(%v, %v): a list beside false", tree, path)
	}
}

// plugged holds that Plug does what the chapter says, and that what it makes is a tree.
func plugged(t *testing.T, tree []api.Node, n api.Node) []api.Node {
	t.Helper()
	want, wantCode := plugByWords(tree, n)
	with, code := Plug(tree, n)
	if code != wantCode || !sameTree(with, want) {
		t.Fatalf("Plug(%v, %v): %v %d, not %v %d", tree, n, with, code, want, wantCode)
	}
	if code != api.OK {
		if with != nil {
			t.Fatalf("Plug(%v, %v): a list beside an error", tree, n)
		}
		return tree
	}
	checked(t, with, api.OK)
	return with
}

// unplugged holds that Unplug does what the chapter says, and that what it leaves is a tree.
func unplugged(t *testing.T, tree []api.Node, path []int) []api.Node {
	t.Helper()
	wantLeft, wantGone, wantCode := unplugByWords(tree, path)
	left, gone, code := Unplug(tree, path)
	if code != wantCode || !sameTree(left, wantLeft) || !sameTree(gone, wantGone) {
		t.Fatalf("Unplug(%v, %v): %v %v %d, not %v %v %d", tree, path, left, gone, code, wantLeft, wantGone, wantCode)
	}
	if code != api.OK {
		if left != nil || gone != nil {
			t.Fatalf("Unplug(%v, %v): a list beside an error", tree, path)
		}
		return tree
	}
	checked(t, left, api.OK)
	return left
}

// small is a tree with something of each kind, in three layers.
func small() []api.Node {
	return []api.Node{keys(4, 1), hub(3, 2), keys(5, 2, 1), hub(1, 2, 3), disk(7, 2, 3, 1), hub(15, 4), disk(6, 4, 15)}
}

// full is a tree of 40 nodes: two hubs with 15 ports, all taken, one with six of seven taken, and one with none of two.
func full() []api.Node {
	tree := []api.Node{hub(15, 1)}
	for port := 1; port <= 15; port++ {
		tree = append(tree, disk(port, 1, port))
	}
	tree = append(tree, hub(15, 2))
	for port := 1; port <= 15; port++ {
		tree = append(tree, keys(port, 2, port))
	}
	tree = append(tree, hub(7, 3))
	for port := 1; port <= 6; port++ {
		tree = append(tree, disk(port, 3, port))
	}
	return append(tree, hub(2, 4))
}

// line is hubs, one under the other, and what is plugged into the last of them.
func line(last api.Node) []api.Node {
	var tree []api.Node
	for i := 1; i < len(last.Path); i++ {
		tree = append(tree, hub(15, last.Path[:i]...))
	}
	return append(tree, last)
}

// P17.1

func TestCheckExamples(t *testing.T) {
	checked(t, nil, api.OK)
	checked(t, []api.Node{}, api.OK)
	checked(t, small(), api.OK)
	checked(t, full(), api.OK)
	checked(t, small()[2:], api.ErrNone)
	checked(t, []api.Node{{}}, api.ErrArg)
}

func TestRightKinds(t *testing.T) {
	for _, kind := range append([]int{0, 1, 2, 3, 4, 5}, far...) {
		for ports := -1; ports <= 17; ports++ {
			n := api.Node{Path: []int{2}, Kind: kind, Ports: ports}
			want := api.ErrArg
			if kind == 1 && ports >= 1 && ports <= 15 || (kind == 2 || kind == 3) && ports == 0 {
				want = api.OK
			}
			checked(t, []api.Node{n}, want)
			if _, code := Plug(nil, n); code != want {
				t.Fatal(n, code)
			}
		}
	}
}

func TestRightPorts(t *testing.T) {
	for _, kind := range []int{1, 2, 3} {
		for _, ports := range far {
			n := api.Node{Path: []int{2}, Kind: kind, Ports: ports}
			checked(t, []api.Node{n}, api.ErrArg)
			plugged(t, nil, n)
		}
	}
}

// A serial is any number: a node is right by the rest.
func TestRightSerials(t *testing.T) {
	for _, serial := range append([]int{0, 1, 8}, far...) {
		for _, n := range []api.Node{disk(serial, 1), keys(serial, 1), {Path: []int{1}, Kind: 1, Ports: 2, Serial: serial}} {
			checked(t, []api.Node{n}, api.OK)
			tree := plugged(t, nil, n)
			if len(tree) != 1 || tree[0].Serial != serial {
				t.Fatal(tree)
			}
			found(t, tree, []int{1})
			unplugged(t, tree, []int{1})
		}
	}
}

func TestRightPaths(t *testing.T) {
	for count := 1; count <= 6; count++ {
		path := slices.Repeat([]int{3}, count)
		checked(t, line(disk(1, path...)), api.OK)
		checked(t, line(keys(1, path...)), api.OK)
		for at := range count {
			for _, port := range append([]int{0}, far...) {
				path := slices.Clone(path)
				path[at] = port
				checked(t, []api.Node{disk(1, path...)}, api.ErrArg)
				plugged(t, full()[:30], disk(1, path...))
			}
		}
	}
	for _, count := range []int{0, 7, 8, 256, 257, 258, 65537, 1 << 20} {
		n := disk(1, slices.Repeat([]int{1}, count)...)
		if code := Check([]api.Node{n}); code != api.ErrArg {
			t.Fatal(count, code)
		}
		if _, code := Plug(nil, n); code != api.ErrArg {
			t.Fatal(count, code)
		}
	}
}

// A hub has fewer than six ports in its path, others up to six.
func TestRightHubs(t *testing.T) {
	for count := 1; count <= 7; count++ {
		path := slices.Repeat([]int{3}, count)
		hubCode, diskCode := api.OK, api.OK
		if count >= 6 {
			hubCode = api.ErrArg
		}
		if count > 6 {
			diskCode = api.ErrArg
		}
		for _, ports := range []int{1, 15} {
			checked(t, line(hub(ports, path...)), hubCode)
		}
		checked(t, line(disk(0, path...)), diskCode)
		if count <= 6 {
			above := line(hub(1, path...))[:count-1]
			plugged(t, above, hub(15, path...))
			plugged(t, above, disk(0, path...))
		}
	}
}

func TestFitsRoot(t *testing.T) {
	for port := 1; port <= 15; port++ {
		want := api.OK
		if port > 4 {
			want = api.ErrNone
		}
		for _, n := range []api.Node{disk(0, port), keys(0, port), hub(15, port)} {
			checked(t, []api.Node{n}, want)
			if with, code := Plug(nil, n); code != want || code == api.OK && !sameTree(with, []api.Node{n}) {
				t.Fatal(n, with, code)
			}
		}
	}
}

// No hub is taken for another, and nothing else for a hub.
func TestFitsHubs(t *testing.T) {
	for ports := 1; ports <= 15; ports++ {
		for port := 1; port <= 15; port++ {
			want := api.OK
			if port > ports {
				want = api.ErrNone
			}
			n := disk(0, 2, port)
			checked(t, []api.Node{hub(ports, 2), n}, want)
			checked(t, []api.Node{hub(15, 1), hub(ports, 2), n, hub(15, 3)}, want)
			checked(t, []api.Node{hub(15, 2), hub(ports, 2, 1), disk(0, 2, 1, port), hub(15, 2, 2)}, want)
			if _, code := Plug([]api.Node{hub(ports, 2)}, n); code != want {
				t.Fatal(ports, port, code)
			}
		}
	}
	for _, tree := range [][]api.Node{
		{disk(0, 2), disk(0, 2, 1)},
		{keys(0, 2), disk(0, 2, 1)},
		{disk(15, 2), disk(0, 2, 1)},
		{disk(0, 2, 1)},
		{hub(15, 1), disk(0, 2, 1)},
		{hub(15, 1), disk(0, 1, 1, 1)},
		{hub(15, 1), disk(0, 1, 1), disk(0, 1, 1, 1)},
		{hub(15, 1), disk(0, 1, 1, 2), hub(15, 1, 2)},
		{hub(15, 1), hub(15, 1, 1), disk(0, 2, 1)},
		{hub(1, 1), hub(15, 1, 2)},
		{hub(15, 5), disk(0, 5, 1)},
		{hub(15, 2), hub(15, 5)},
	} {
		checked(t, tree, api.ErrNone)
	}
}

func TestCheckLarge(t *testing.T) {
	tree := full()
	checked(t, tree, api.OK)
	more := slices.Insert(slices.Clone(tree), 39, disk(7, 3, 7))
	checked(t, more, api.ErrLarge)
	// That there are too many is told ahead of all else.
	more[3] = api.Node{}
	checked(t, more, api.ErrLarge)
	checked(t, slices.Repeat([]api.Node{disk(0, 9)}, 41), api.ErrLarge)
	checked(t, make([]api.Node, 41), api.ErrLarge)
	checked(t, make([]api.Node, 40), api.ErrArg)
	for _, count := range []int{42, 80, 255, 256, 257, 296, 65536, 65537, 65576, 1 << 18} {
		if code := Check(make([]api.Node, count)); code != api.ErrLarge {
			t.Fatal(count, code)
		}
	}
}

// What comes first in the chapter is told, wherever in the list it stands.
func TestCheckOrderOfErrors(t *testing.T) {
	lost, wrong := disk(0, 3, 9), disk(0, 3, 16)
	for at := range len(small()) + 1 {
		checked(t, slices.Insert(small(), at, wrong), api.ErrArg)
		checked(t, slices.Insert(append(small(), lost), at, wrong), api.ErrArg)
		checked(t, append(slices.Insert(small(), at, wrong), hub(1, 1)), api.ErrArg)
		checked(t, append(slices.Insert(small(), 5, lost), small()[at%7]), api.ErrForm)
	}
	checked(t, slices.Insert(small(), 5, lost), api.ErrNone)
}

// Two neighbours that stand the wrong way round, or are at one place, are told, wherever they stand.
func TestCheckForm(t *testing.T) {
	for _, tree := range [][]api.Node{small(), full()} {
		for i := range tree {
			twice := slices.Insert(slices.Clone(tree), i, tree[i])
			if len(twice) <= 40 {
				checked(t, twice, api.ErrForm)
			}
			if i > 0 {
				round := slices.Clone(tree)
				round[i-1], round[i] = round[i], round[i-1]
				checked(t, round, api.ErrForm)
			}
		}
	}
	checked(t, []api.Node{disk(0, 2), disk(1, 2)}, api.ErrForm)
	checked(t, []api.Node{disk(0, 2), hub(1, 2), disk(1, 2, 1)}, api.ErrForm)
	checked(t, []api.Node{hub(10, 1), disk(0, 1, 10), disk(0, 1, 9)}, api.ErrForm)
	checked(t, []api.Node{disk(0, 2, 1), hub(1, 2)}, api.ErrForm)
	checked(t, []api.Node{hub(1, 1), disk(0, 2), disk(0, 1, 1)}, api.ErrForm)
}

// P17.2

func TestFindExamples(t *testing.T) {
	tree := small()
	for _, n := range tree {
		if got, ok := Find(tree, n.Path); !ok || !sameNode(got, n) {
			t.Error(n, got, ok)
		}
	}
	for _, path := range [][]int{nil, {}, {2, 2}, {2, 3, 2}, {2, 3, 1, 1}, {3}, {0}, {-1}, {2, 3, 0}, {15}, {1, 2}, {1<<32 + 1}, slices.Repeat([]int{2}, 1000)} {
		if got, ok := Find(tree, path); ok || got.Path != nil || !reflect.DeepEqual(got, api.Node{}) {
			t.Error(path, got, ok)
		}
	}
}

// Of any list: what is no tree is gone through as well, and the first of several is told.
func TestFindAnyList(t *testing.T) {
	odd := []api.Node{
		disk(1, 9, 9, 9), {Kind: -5, Ports: 99, Serial: 2}, {Path: []int{}, Serial: 3}, keys(4, 9, 9, 9), keys(5, 0), keys(6, -1, math.MinInt), keys(7, -1, math.MinInt),
		keys(8, 1, 2, 3, 4, 5, 6, 7), disk(9, 1, 2, 3, 4, 5, 6), disk(10, 1), keys(11, slices.Repeat([]int{7}, 300)...), {Path: []int{1}, Kind: 77, Ports: -1, Serial: 12},
	}
	for i := range odd {
		for _, n := range odd {
			found(t, odd[i:], n.Path)
			found(t, odd[:i], n.Path)
			found(t, odd, n.Path[:len(n.Path)/2])
		}
		found(t, odd[i:], nil)
		found(t, odd[i:], []int{})
	}
	if n, ok := Find(odd, nil); !ok || n.Serial != 2 || n.Kind != -5 || n.Ports != 99 {
		t.Error(n, ok)
	}
	if n, ok := Find(odd[2:], nil); !ok || n.Serial != 3 {
		t.Error(n, ok)
	}
	if n, ok := Find(odd, []int{-1, math.MinInt}); !ok || n.Serial != 6 {
		t.Error(n, ok)
	}
}

func TestFindLongList(t *testing.T) {
	long := slices.Repeat([]api.Node{disk(0, 1)}, 1<<17)
	for _, at := range []int{0, 39, 40, 41, 255, 256, 65535, 65536, 1<<17 - 1} {
		other := slices.Clone(long)
		other[at] = keys(at, 2)
		if n, ok := Find(other, []int{2}); !ok || n.Serial != at || n.Kind != api.KKeys {
			t.Error(at, n, ok)
		}
	}
	if _, ok := Find(long, []int{2}); ok {
		t.Error("none is there")
	}
}

// P17.3

func TestPlugExamples(t *testing.T) {
	for _, c := range []struct {
		n    api.Node
		want api.Errno
	}{
		{disk(1, 3), api.OK},
		{disk(1, 2, 2), api.OK},
		{hub(1, 4, 1), api.OK},
		{keys(1, 4, 14), api.OK},
		{disk(1, 2, 4), api.ErrNone},
		{disk(1, 2, 3, 2), api.ErrNone},
		{disk(1, 1, 1), api.ErrNone},
		{disk(1, 3, 1), api.ErrNone},
		{disk(1, 5), api.ErrNone},
		{disk(1, 2, 3, 1, 1), api.ErrNone},
		{disk(1, 2, 2, 1), api.ErrNone},
		{disk(1, 2), api.ErrTwice},
		{keys(4, 1), api.ErrTwice},
		{disk(1, 2, 3, 1), api.ErrTwice},
		{hub(16, 3), api.ErrArg},
		{hub(0, 3), api.ErrArg},
		{disk(1), api.ErrArg},
		{disk(1, 1, 1, 1, 1, 1, 1, 1), api.ErrArg},
		{api.Node{}, api.ErrArg},
	} {
		with, code := Plug(small(), c.n)
		if code != c.want {
			t.Error(c, code)
		}
		if code == api.OK && (len(with) != len(small())+1 || Check(with) != api.OK) {
			t.Error(c, with)
		}
		plugged(t, small(), c.n)
	}
	with, _ := Plug(small(), disk(9, 2, 2))
	if len(with) != 8 || !sameNode(with[3], disk(9, 2, 2)) || !sameTree(slices.Delete(with, 3, 4), small()) {
		t.Error(with)
	}
}

// That it isn't right is told ahead of that it is there already, and that ahead of that nothing fits; that there are 40 is told last.
func TestPlugOrderOfErrors(t *testing.T) {
	for _, c := range []struct {
		n    api.Node
		want api.Errno
	}{
		{hub(0, 1), api.ErrArg},
		{hub(0, 9), api.ErrArg},
		{api.Node{Path: []int{3, 7}, Kind: 4}, api.ErrArg},
		{disk(0, 1), api.ErrTwice},
		{disk(0, 3, 6), api.ErrTwice},
		{disk(0, 5), api.ErrNone},
		{disk(0, 3, 8), api.ErrNone},
		{disk(0, 1, 1, 1), api.ErrNone},
		{disk(0, 3, 7), api.ErrLarge},
		{hub(1, 4, 2), api.ErrLarge},
	} {
		if with, code := Plug(full(), c.n); with != nil || code != c.want {
			t.Error(c, with, code)
		}
	}
}

func TestPlugUpToFull(t *testing.T) {
	whole := full()
	for i := range whole {
		// A hub with something plugged in can't be left out alone.
		if whole[i].Kind == api.KHub && i != len(whole)-1 {
			continue
		}
		left := slices.Delete(slices.Clone(whole), i, i+1)
		with, code := Plug(left, whole[i])
		if code != api.OK || !sameTree(with, whole) {
			t.Fatal(whole[i], with, code)
		}
		if _, code := Plug(left, whole[(i+1)%40]); code != api.ErrTwice {
			t.Fatal(whole[i], code)
		}
	}
}

// In whatever order things are plugged in, hubs ahead of what is under them, the tree is the same.
func TestPlugInAnyOrder(t *testing.T) {
	d := dice{7}
	for range 300 {
		todo, tree := full(), []api.Node(nil)
		for len(todo) > 0 {
			at := d.below(len(todo))
			next, code := Plug(tree, todo[at])
			if code == api.OK {
				tree = next
				todo = slices.Delete(todo, at, at+1)
			} else if code != api.ErrNone {
				t.Fatal(code)
			}
		}
		if !sameTree(tree, full()) {
			t.Fatal(tree)
		}
	}
}

// P17.4

func TestUnplugExamples(t *testing.T) {
	for _, c := range []struct {
		path       []int
		from, upTo int
	}{
		{[]int{1}, 0, 1}, {[]int{2}, 1, 5}, {[]int{2, 1}, 2, 3}, {[]int{2, 3}, 3, 5}, {[]int{2, 3, 1}, 4, 5}, {[]int{4}, 5, 7}, {[]int{4, 15}, 6, 7},
	} {
		left, gone, code := Unplug(small(), c.path)
		if code != api.OK || !sameTree(gone, small()[c.from:c.upTo]) || !sameTree(left, slices.Delete(small(), c.from, c.upTo)) {
			t.Error(c, left, gone, code)
		}
	}
	for _, path := range [][]int{nil, {}, {3}, {5}, {2, 2}, {2, 3, 2}, {2, 3, 1, 1}, {0}, {-1}, {2, 0}, {2, 16}, {1, 1}, {math.MinInt}, {2, 3, 1, 0, 0, 0, 0}, slices.Repeat([]int{2}, 1000)} {
		if left, gone, code := Unplug(small(), path); left != nil || gone != nil || code != api.ErrNone {
			t.Error(path, left, gone, code)
		}
		if left, gone, code := Unplug(nil, path); left != nil || gone != nil || code != api.ErrNone {
			t.Error(path, left, gone, code)
		}
	}
}

func TestUnplugFull(t *testing.T) {
	whole := full()
	for _, n := range whole {
		unplugged(t, whole, n.Path)
	}
	left, gone, code := Unplug(whole, []int{2})
	if code != api.OK || len(gone) != 16 || len(left) != 24 {
		t.Error(left, gone, code)
	}
	deep := line(disk(1, 2, 2, 2, 2, 2, 2))
	for i, n := range deep {
		left, gone, code := Unplug(deep, n.Path)
		if code != api.OK || !sameTree(left, deep[:i]) || !sameTree(gone, deep[i:]) {
			t.Error(n, left, gone, code)
		}
	}
}

// What was plugged in and pulled out leaves no trace.
func TestPlugThenUnplug(t *testing.T) {
	for _, n := range []api.Node{disk(3, 3), keys(1, 2, 2), hub(4, 4, 1), hub(4, 3), disk(1, 4, 14)} {
		with, code := Plug(small(), n)
		if code != api.OK {
			t.Fatal(n, code)
		}
		left, gone, code := Unplug(with, n.Path)
		if code != api.OK || !sameTree(left, small()) || !sameTree(gone, []api.Node{n}) {
			t.Error(n, left, gone, code)
		}
	}
}

// All four

// places are those of the trees that are all gone through.
var places = [][]int{{1}, {1, 1}, {1, 1, 1}, {1, 2}, {4}, {4, 2}, {5}}

// atPlace are what may be at one of them.
func atPlace(path []int) []api.Node {
	return []api.Node{disk(1, path...), hub(1, path...), hub(2, path...), keys(2, path...)}
}

// trees calls what it is given with each list, in order, of what may be at the places.
func trees(call func(tree []api.Node)) {
	var lay func(at int, tree []api.Node)
	lay = func(at int, tree []api.Node) {
		if at == len(places) {
			call(slices.Clone(tree))
			return
		}
		lay(at+1, tree)
		for _, n := range atPlace(places[at])[:3] {
			lay(at+1, append(tree, n))
		}
	}
	lay(0, nil)
}

func TestAllSmallTrees(t *testing.T) {
	trees(func(tree []api.Node) {
		want := checkByWords(tree)
		checked(t, tree, want)
		if want != api.OK {
			return
		}
		for _, path := range places {
			found(t, tree, path)
			unplugged(t, tree, path)
			for _, n := range atPlace(path) {
				plugged(t, tree, n)
			}
		}
	})
}

// All lists of up to four of some nodes, in whatever order.
func TestAllShortLists(t *testing.T) {
	of := []api.Node{hub(1, 1), disk(0, 1), keys(0, 1, 1), hub(2, 1, 1), disk(0, 1, 2), disk(0, 1, 1, 2), disk(0, 2), disk(0, 5), hub(16, 2), {}}
	var lay func(tree []api.Node)
	lay = func(tree []api.Node) {
		checked(t, tree, checkByWords(tree))
		for _, n := range of {
			found(t, tree, n.Path)
			if len(tree) < 4 {
				lay(append(slices.Clone(tree), n))
			}
		}
	}
	lay(nil)
}

// thrown is a node that is mostly right, and mostly at or under something of the tree.
func (d *dice) thrown(tree []api.Node) api.Node {
	var path []int
	if len(tree) > 0 && d.below(6) > 0 {
		path = slices.Clone(tree[d.below(len(tree))].Path)
	}
	if d.below(5) > 0 || len(path) == 0 {
		path = append(path, 1+d.below(5+d.below(2)*10))
	}
	n := api.Node{Path: path, Kind: 1 + d.below(3), Serial: d.below(8)}
	if d.below(2) == 0 {
		n.Kind = api.KHub
	}
	if n.Kind == api.KHub {
		n.Ports = 1 + d.below(15)
	}
	if d.below(12) == 0 {
		n = d.slipped(n)
	}
	return n
}

// slipped is a node with something else in it.
func (d *dice) slipped(n api.Node) api.Node {
	other := d.below(18)
	if d.below(3) == 0 {
		other = far[d.below(len(far))]
	}
	n.Path = slices.Clone(n.Path)
	switch d.below(5) {
	case 0:
		n.Kind = other
	case 1:
		n.Ports = other
	case 2:
		if len(n.Path) > 0 {
			n.Path[d.below(len(n.Path))] = other
		}
	case 3:
		n.Path = append(n.Path, other)
	case 4:
		n.Path = n.Path[:len(n.Path)/2]
	}
	return n
}

// spoiled is a tree with one slip.
func (d *dice) spoiled(tree []api.Node) []api.Node {
	tree = slices.Clone(tree)
	if len(tree) == 0 {
		return tree
	}
	at, other := d.below(len(tree)), d.below(len(tree))
	switch d.below(4) {
	case 0:
		tree[at] = d.slipped(tree[at])
	case 1:
		tree[at], tree[other] = tree[other], tree[at]
	case 2:
		tree = slices.Delete(tree, at, at+1)
	case 3:
		tree = slices.Insert(tree, at, tree[other])
	}
	return tree
}

// Things are plugged in and pulled out again and again; between, a tree with a slip is tried.
func TestThrown(t *testing.T) {
	codes := map[api.Errno]int{}
	most := 0
	for seed := range 60 {
		d := dice{uint64(seed)}
		var tree []api.Node
		for range 400 {
			n := d.thrown(tree)
			_, code := plugByWords(tree, n)
			codes[code]++
			tree = plugged(t, tree, n)
			most = max(most, len(tree))
			found(t, tree, n.Path)
			if d.below(12) == 0 {
				tree = unplugged(t, tree, d.thrown(tree).Path)
			}
			odd := d.spoiled(tree)
			checked(t, odd, checkByWords(odd))
			found(t, odd, d.thrown(odd).Path)
			plugged(t, odd, d.thrown(tree))
			unplugged(t, odd, d.thrown(tree).Path)
		}
	}
	for _, code := range []api.Errno{api.OK, api.ErrArg, api.ErrTwice, api.ErrNone, api.ErrLarge} {
		if codes[code] < 20 {
			t.Error("hardly ever thrown:", code, codes)
		}
	}
	if most != 40 {
		t.Error("no tree was full:", most)
	}
}

// P2

// roomy is a tree with spare room, that of its paths included, and all of it filled.
func roomy(tree []api.Node) []api.Node {
	long := make([]api.Node, len(tree)+5)
	for i := range long {
		long[i] = disk(77, 7, 7, 7)
	}
	for i, n := range tree {
		n.Path = roomyPath(n.Path)
		long[i] = n
	}
	return long[:len(tree)]
}

func roomyPath(path []int) []int {
	return slices.Concat(path, []int{5, 6, 7, 8})[:len(path)]
}

// whole is all that can be reached from a tree, as a copy.
func whole(tree []api.Node) []api.Node {
	all := slices.Clone(tree[:cap(tree)])
	for i := range all {
		all[i].Path = slices.Clone(all[i].Path[:cap(all[i].Path)])
	}
	return all
}

// fill overwrites all that can be reached from a tree.
func fill(tree []api.Node, with int) {
	tree = tree[:cap(tree)]
	for i := range tree {
		fillPath(tree[i].Path, with)
		tree[i] = api.Node{Kind: with, Serial: with}
	}
}

func fillPath(path []int, with int) {
	path = path[:cap(path)]
	for i := range path {
		path[i] = with
	}
}

func TestAnswersAreNewMemory(t *testing.T) {
	lists := [][]api.Node{nil, small(), full(), full()[:39], small()[2:], {disk(1), disk(2, 2)}, line(disk(1, 1, 1, 1, 1, 1, 1))}
	nodes := []api.Node{{}, disk(1, 1), disk(1, 2), disk(1, 3), disk(2, 2, 2), disk(1, 3, 7), hub(3, 4, 1), hub(0, 1), disk(1, 2, 3), disk(1, 5)}
	for _, plain := range lists {
		for _, n := range nodes {
			tree := roomy(plain)
			n.Path = roomyPath(n.Path)
			aheadTree, aheadPath := whole(tree), slices.Clone(n.Path[:cap(n.Path)])
			Check(tree)
			got, _ := Find(tree, n.Path)
			fillPath(got.Path, -7)
			with, _ := Plug(tree, n)
			fill(with, -7)
			left, gone, _ := Unplug(tree, n.Path)
			fill(left, -7)
			fill(gone, -7)
			if !sameTree(whole(tree), aheadTree) || !slices.Equal(n.Path[:cap(n.Path)], aheadPath) {
				t.Fatal("what was handed in is changed:", plain, n)
			}
		}
	}
}

// What is handed in may change afterwards: an answer stays as it was told.
func TestAnswersStay(t *testing.T) {
	tree, n := roomy(small()), disk(9, 2, 2)
	got, _ := Find(tree, []int{2, 3})
	with, _ := Plug(tree, n)
	left, gone, _ := Unplug(tree, []int{2, 3})
	fillPath(n.Path, -7)
	fill(tree, -7)
	if !sameNode(got, small()[3]) || !sameTree(with, slices.Insert(small(), 3, disk(9, 2, 2))) {
		t.Error(got, with)
	}
	if !sameTree(left, slices.Delete(small(), 3, 5)) || !sameTree(gone, small()[3:5]) {
		t.Error(left, gone)
	}
}

// apart holds that no two lists of one answer share memory, spare room included.
func apart(t *testing.T, lists ...[]api.Node) {
	t.Helper()
	var paths [][]int
	for number, tree := range lists {
		for _, n := range tree {
			paths = append(paths, n.Path)
		}
		ahead := make([][]api.Node, len(lists))
		for i, other := range lists {
			ahead[i] = whole(other)
		}
		spare := tree[len(tree):cap(tree)]
		for i := range spare {
			spare[i].Serial = 1000 + number
		}
		for i, other := range lists {
			if i != number && !sameTree(whole(other), ahead[i]) {
				t.Fatal("two lists of nodes share memory:", tree, other)
			}
		}
	}
	for i, path := range paths {
		fillPath(path, 1000+i)
	}
	for i, path := range paths {
		for _, port := range path[:cap(path)] {
			if port != 1000+i {
				t.Fatal("two paths share memory:", i, path)
			}
		}
	}
}

// All paths of the tree are pieces of one list: the answer's are not.
func TestListsOfAnAnswerAreApart(t *testing.T) {
	one := []int{2, 2, 2, 2, 2, 2}
	tree := []api.Node{hub(2, one[:1]...), hub(2, one[:2]...), hub(2, one[:3]...)}
	with, code := Plug(tree, api.Node{Path: one[:4], Kind: api.KDisk})
	if code != api.OK {
		t.Fatal(code)
	}
	apart(t, with)
	left, gone, code := Unplug(tree, one[:2])
	if code != api.OK {
		t.Fatal(code)
	}
	apart(t, left, gone)
	if !slices.Equal(one, []int{2, 2, 2, 2, 2, 2}) {
		t.Error(one)
	}
	for _, n := range full() {
		left, gone, _ := Unplug(full(), n.Path)
		apart(t, left, gone)
	}
	with, _ = Plug(full()[:39], full()[39])
	apart(t, with)
}

func TestSameAnswerAgain(t *testing.T) {
	for range 3 {
		checked(t, small(), api.OK)
		checked(t, small()[2:], api.ErrNone)
		fill(plugged(t, small(), disk(9, 2, 2)), -7)
		fill(unplugged(t, small(), []int{2, 3}), -7)
		found(t, small(), []int{2, 3})
		plugged(t, full(), disk(0, 3, 7))
	}
}
