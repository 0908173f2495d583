package runs

import (
	"sync"

	"duet/api"
	"duet/lives"
)

// minutes of what is said, in which all processes write.
type minutes struct {
	lock  sync.Mutex
	pages []page // in the order in which they were opened, which hangs on how processes go on
}

// page of one process.
type page struct {
	of    *lives.Life[end]
	lines []string
}

// open a page, whose number is answered.
func (m *minutes) open(of *lives.Life[end]) int {
	m.lock.Lock()
	defer m.lock.Unlock()
	m.pages = append(m.pages, page{of: of})
	return len(m.pages) - 1
}

func (m *minutes) write(page int, line string) {
	m.lock.Lock()
	defer m.lock.Unlock()
	m.pages[page].lines = append(m.pages[page].lines, line)
}

// said is for when nobody writes any more.
func (m *minutes) said() []api.Said {
	said := make([]api.Said, len(m.pages))
	for i, x := range m.pages {
		said[i] = api.Said{Who: x.of.Name(), Lines: x.lines}
	}
	lives.Order(said)
	return said
}
