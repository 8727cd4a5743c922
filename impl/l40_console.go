package impl

const (
	MaxLines   = 60
	MaxLineLen = 200
)

func ExampleScript() []Op {
	return []Op{}
}

func ExampleSite() []Version {
	return []Version{}
}

func ConsoleLine(a Archive, line string) (Archive, string) {
	return Archive{}, ""
}

func RunConsole(text string) ([]string, bool) {
	return []string{}, false
}
