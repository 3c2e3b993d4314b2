package impl

type Kept struct {
	To       Addr
	Response Response
}

type Hidden struct {
	Ready   bool
	Page    Page
	Taken   []Kept
	Servers []Server
	Now     int
}

func CanPrepare(top string, a Addr) bool {
	return false
}

func PrepareHidden(n Net, top string, a Addr) (Net, Hidden, bool) {
	return Net{}, Hidden{}, false
}

func IsStale(n Net, h Hidden) bool {
	return false
}

func FinishHidden(n Net, h Hidden) (Net, Page, bool) {
	return Net{}, Page{}, false
}

func HiddenNeeds(h Hidden) []Addr {
	return []Addr{}
}

func EqualHidden(a Hidden, b Hidden) bool {
	return false
}
