package chart

// ordered is a map that returns its keys in ascending order.
type ordered[K ~int, V any] struct {
	values map[K]V
	sorted []K
}

// get returns the value of a key, if it has one.
func (o *ordered[K, V]) get(key K) (V, bool) {
	v, is := o.values[key]
	return v, is
}

// set sets the value of a key; a new key is put in its place among the others.
func (o *ordered[K, V]) set(key K, v V) {
	if _, is := o.values[key]; !is {
		at := len(o.sorted)
		for at > 0 && o.sorted[at-1] > key {
			at--
		}
		o.sorted = append(o.sorted, key)
		copy(o.sorted[at+1:], o.sorted[at:])
		o.sorted[at] = key
	}
	o.values[key] = v
}

// keys returns the keys in ascending order. The list is the map's own.
func (o *ordered[K, V]) keys() []K { return o.sorted }
