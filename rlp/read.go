package rlp

import (
	"iter"
	"strconv"

	"railhead/api"
	"railhead/word"
)

// fault is what ends the reading: what is wrong, and where.
type fault struct {
	errno api.Errno
	at    int
}

func (f fault) Error() string {
	return "error " + strconv.Itoa(int(f.errno)) + " at " + strconv.Itoa(f.at)
}

// reader reads items, one behind the other.
type reader struct {
	s    string
	at   int // the first byte that is not read yet
	many int // items that were begun: a list is read ahead of its kids
}

// span is where bytes stand that an item holds.
type span struct{ from, to int }

// read is the one item that a text is.
func read(s string) (api.Item, error) {
	r := reader{s: s}
	x, err := r.item(len(s), 0)
	if err != nil {
		return api.Item{}, err
	}
	if r.at < len(s) {
		return api.Item{}, fault{api.ErrMore, r.at}
	}
	return x, nil
}

// item reads the next item, which is within so many others, and may not go beyond that end.
func (r *reader) item(end, within int) (api.Item, error) {
	if err := r.begin(end, within); err != nil {
		return api.Item{}, err
	}
	first := int(r.s[r.at])
	if first >= listHead {
		return r.list(first, end, within)
	}
	return r.text(first, end)
}

// begin tells whether there may be another item here, and is one.
func (r *reader) begin(end, within int) error {
	switch {
	case within >= api.MaxDeep:
		return fault{api.ErrDeep, r.at}
	case r.many >= api.MaxItems:
		return fault{api.ErrLong, r.at}
	case r.at >= end:
		return fault{api.ErrShort, r.at}
	}
	r.many++
	return nil
}

// text reads the text that begins with this byte.
func (r *reader) text(first, end int) (api.Item, error) {
	if first < textHead {
		r.at++
		return Text(r.s[r.at-1 : r.at]), nil
	}
	in, err := r.inside(first-textHead, end)
	if err != nil {
		return api.Item{}, err
	}
	bytes := r.s[in.from:in.to]
	if bare(bytes) {
		return api.Item{}, fault{api.ErrForm, r.at}
	}
	r.at = in.to
	return Text(bytes), nil
}

// list reads the list that begins with this byte.
func (r *reader) list(first, end, within int) (api.Item, error) {
	in, err := r.inside(first-listHead, end)
	if err != nil {
		return api.Item{}, err
	}
	r.at = in.from
	out := api.Item{List: true}
	for kid, err := range r.items(in.to, within+1) {
		if err != nil {
			return api.Item{}, err
		}
		out.Kids = append(out.Kids, kid)
	}
	return out, nil
}

// items reads what there is up to an end; where one is wrong, its error is the last that is told.
func (r *reader) items(end, within int) iter.Seq2[api.Item, error] {
	return func(yield func(api.Item, error) bool) {
		for r.at < end {
			x, err := r.item(end, within)
			if !yield(x, err) || err != nil {
				return
			}
		}
	}
}

// inside is where that stands which the head here is ahead of; the head tells so much more than its kind.
func (r *reader) inside(told, end int) (span, error) {
	from, many := r.at+1, told
	if told > mostPlain {
		var err error
		if from, many, err = r.digits(told-mostPlain, end); err != nil {
			return span{}, err
		}
	}
	if many > end-from {
		return span{}, fault{api.ErrShort, r.at}
	}
	return span{from, from + many}, nil
}

// digits reads the size that so many digits behind the head tell, and where they end.
func (r *reader) digits(places, end int) (from, many int, err error) {
	from = r.at + 1 + places
	if from > end {
		return 0, 0, fault{api.ErrShort, r.at}
	}
	digits := r.s[r.at+1 : from]
	many, is := word.Int(word.FromBytes(digits))
	if !is {
		// No text is as long, whatever it is exactly.
		many = api.MaxInt
	}
	if digits[0] == 0 || many <= mostPlain {
		return 0, 0, fault{api.ErrForm, r.at + 1}
	}
	return from, many, nil
}
