package order

// least is a heap of things: the least one comes out first.
type least []int

func (l least) Len() int           { return len(l) }
func (l least) Less(i, j int) bool { return l[i] < l[j] }
func (l least) Swap(i, j int)      { l[i], l[j] = l[j], l[i] }

func (l *least) Push(thing any) { *l = append(*l, thing.(int)) }

func (l *least) Pop() any {
	last := len(*l) - 1
	thing := (*l)[last]
	*l = (*l)[:last]
	return thing
}
