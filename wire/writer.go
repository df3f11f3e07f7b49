package wire

// writer writes bytes one behind the other, until something can't be written: then there are none.
type writer struct {
	b     []byte
	wrong bool
}

// put are a value's bytes, by a method that writes it.
func put[T any](v T, whole func(*writer, T)) []byte {
	w := &writer{}
	whole(w, v)
	if w.wrong {
		return nil
	}
	return w.b
}

// putList writes a list, by a method that writes one of its parts. It does not go on with one that is too long already.
func putList[T any](w *writer, s shape, l []T, part func(*writer, T)) {
	w.unless(s.fits(len(l)))
	w.digits(s.size, 0)
	begin := len(w.b)
	for _, v := range l {
		if w.wrong {
			return
		}
		part(w, v)
		w.unless(len(w.b)-begin <= s.maxLength())
	}
	n := len(w.b) - begin
	for i := range s.size {
		w.b[begin-1-i] = byte(n >> (8 * i))
	}
}

func (w *writer) unless(holds bool) {
	if !holds {
		w.wrong = true
	}
}

// digits is a number of n bytes.
func (w *writer) digits(n int, v uint32) {
	for i := n - 1; i >= 0; i-- {
		w.b = append(w.b, byte(v>>(8*i)))
	}
}

func (w *writer) octet(c byte) { w.digits(1, uint32(c)) }

func (w *writer) number(v uint16) { w.digits(2, uint32(v)) }

func (w *writer) long(v uint32) { w.digits(4, v) }
