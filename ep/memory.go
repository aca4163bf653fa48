package ep

import "cloister/api"

const pageCount = api.MaxMem / api.PageSize

type page [api.PageSize]byte

// memory is an event process's, as the machine sees it.
type memory struct {
	// pages that are not its own are the image's: nothing is stored there, so
	// that copies may hold them too.
	pages [pageCount]*page
	own   [pageCount]bool
}

// memoryOf is an image, and noughts behind it.
func memoryOf(image string) *memory {
	m := &memory{}
	for k := range m.pages {
		from := min(k*api.PageSize, len(image))
		m.pages[k] = &page{}
		copy(m.pages[k][:], image[from:])
	}
	return m
}

// Load is the byte at a place; false, if there is none.
func (m *memory) Load(at int) (byte, bool) {
	if !isPart(at, 1) {
		return 0, false
	}
	return m.pages[at/api.PageSize][at%api.PageSize], true
}

// Store puts a byte at a place; false, if there is none.
func (m *memory) Store(at int, b byte) bool {
	if !isPart(at, 1) {
		return false
	}
	k := at / api.PageSize
	if !m.own[k] {
		m.pages[k] = m.pages[k].copy()
		m.own[k] = true
	}
	m.pages[k][at%api.PageSize] = b
	return true
}

// text are the bytes of a part that the memory has.
func (m *memory) text(at, n int) string {
	out := make([]byte, n)
	for i := range out {
		out[i], _ = m.Load(at + i)
	}
	return string(out)
}

// lay puts bytes into a part that the memory has.
func (m *memory) lay(at int, s string) {
	for i := range len(s) {
		m.Store(at+i, s[i])
	}
}

// owned are the numbers of the pages that are its own, rising.
func (m *memory) owned() []int {
	var out []int
	for k, own := range m.own {
		if own {
			out = append(out, k)
		}
	}
	return out
}

// copy is a memory that stores for itself. It holds the image's pages too, as
// long as nothing is stored there.
func (m *memory) copy() *memory {
	c := *m
	for k, own := range m.own {
		if own {
			c.pages[k] = m.pages[k].copy()
		}
	}
	return &c
}

// copy is the page in new memory.
func (p *page) copy() *page {
	c := *p
	return &c
}

// isPart tells whether so many bytes from a place on are of the memory. Their
// sum is not reckoned: it could go round.
func isPart(at, n int) bool {
	return at >= 0 && n >= 0 && at <= api.MaxMem && n <= api.MaxMem-at
}
