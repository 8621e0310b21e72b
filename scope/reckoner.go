package scope

import (
	"strconv"

	"cistern/api"
)

// reckoner reckons numbers and conditions over a view.
type reckoner struct {
	free  int
	sizes map[string]int // of the view's volumes, by their names
	bound bindings
}

func reckonerOf(v api.View) reckoner {
	r := reckoner{free: v.Free, sizes: map[string]int{}, bound: bindings{}}
	for _, volume := range v.Volumes {
		if _, isLater := r.sizes[volume.Name]; !isLater {
			r.sizes[volume.Name] = volume.Size
		}
	}
	return r
}

func (r *reckoner) number(n number) int {
	value := r.reckoned(n)
	if value < 0 || value > api.MaxNumber {
		panic(fault{n.place(), api.ErrScopeNumber})
	}
	return value
}

// reckoned gives what comes of a number, whether it may be or not.
func (r *reckoner) reckoned(n number) int {
	switch n := n.(type) {
	case constant:
		return n.value
	case word:
		return r.bound[n.text]
	case size:
		return r.size(n.name)
	case free:
		return r.free
	case least:
		value := r.number(n.of[0])
		for _, other := range n.of[1:] {
			value = min(value, r.number(other))
		}
		return value
	case most:
		value := r.number(n.of[0])
		for _, other := range n.of[1:] {
			value = max(value, r.number(other))
		}
		return value
	case couple:
		first := r.number(n.first)
		return n.of(first, r.number(n.second))
	}
	return 0
}

// of gives what comes of the two numbers of a couple.
func (c couple) of(first int, second int) int {
	switch c.kind {
	case api.NodeAdd:
		return first + second
	case api.NodeSub:
		return first - second
	case api.NodeMul:
		return product(first, second)
	}
	if second == 0 {
		panic(fault{c.at, api.ErrScopeZero})
	}
	if c.kind == api.NodeDiv {
		return first / second
	}
	return first % second
}

// product gives the product of two numbers that may be; where it may not, which can be more than an int holds, the least that may not.
func product(first int, second int) int {
	if first > 0 && second > api.MaxNumber/first {
		return api.MaxNumber + 1
	}
	return first * second
}

func (r *reckoner) size(n *name) int {
	value, ok := r.sizes[r.name(n)]
	if !ok {
		panic(fault{n.at, api.ErrScopeUnknown})
	}
	return value
}

// name makes a name of its parts. One that is a text is known to be a plan's, since the look has asked it.
func (r *reckoner) name(n *name) string {
	if len(n.parts) == 1 && n.parts[0].number == nil {
		return n.parts[0].text
	}
	made := make([]byte, 0, api.MaxName)
	for _, p := range n.parts {
		if p.number == nil {
			made = append(made, p.text...)
		} else {
			made = strconv.AppendInt(made, int64(r.number(p.number)), 10)
		}
	}
	text := string(made)
	askName(text, n.at)
	return text
}

func (r *reckoner) holds(c condition) bool {
	switch c := c.(type) {
	case less:
		first := r.number(c.first)
		return first < r.number(c.second)
	case equal:
		first := r.number(c.first)
		return first == r.number(c.second)
	case exists:
		_, ok := r.sizes[r.name(c.name)]
		return ok
	case not:
		return !r.holds(c.of)
	case both:
		return r.holds(c.first) && r.holds(c.second)
	case either:
		return r.holds(c.first) || r.holds(c.second)
	}
	return false
}
