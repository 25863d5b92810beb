package path

import (
	"strings"

	"yankline/api"
	"yankline/sum"
)

// Read is what a file's name says; ErrPath, if s is none.
func Read(s string) (api.Path, api.Errno) {
	// Where there is no slash, nothing is behind it, which no kind takes.
	ahead, behind, _ := strings.Cut(s, slash)
	switch ahead {
	case logs:
		return readLog(behind)
	case blobs:
		return readBlob(behind)
	case pages:
		return readPage(behind)
	case stages:
		return readStage(behind)
	}
	return api.Path{}, api.ErrPath
}

func readLog(s string) (api.Path, api.Errno) {
	if len(s) != width {
		return api.Path{}, api.ErrPath
	}
	n, is := number(s, maxLog)
	if !is {
		return api.Path{}, api.ErrPath
	}
	return api.Path{Kind: api.LogPath, N: int(n)}, api.OK
}

func readBlob(s string) (api.Path, api.Errno) {
	text, count, _ := strings.Cut(s, dash)
	hash, e := sum.Read(text)
	n, is := plain(count, maxBlob)
	if e != api.OK || !is {
		return api.Path{}, api.ErrPath
	}
	return api.Path{Kind: api.BlobPath, Blob: api.Blob{Sum: hash, N: uint32(n)}}, api.OK
}

func readPage(s string) (api.Path, api.Errno) {
	if !isForm(s) {
		return api.Path{}, api.ErrPath
	}
	return api.Path{Kind: api.PagePath, Name: s}, api.OK
}

func readStage(s string) (api.Path, api.Errno) {
	n, is := plain(s, maxStage)
	if !is {
		return api.Path{}, api.ErrPath
	}
	return api.Path{Kind: api.StagePath, N: int(n)}, api.OK
}

// plain is as number, of digits without noughts ahead alone: a number has one name.
func plain(s string, most uint64) (uint64, bool) {
	if strings.HasPrefix(s, "0") {
		return 0, false
	}
	return number(s, most)
}

// number is what decimal digits stand for, and whether s is such and that is 1 to most. It ends above most, so that what is longer does not wrap to a number that may be.
func number(s string, most uint64) (uint64, bool) {
	var n uint64
	for i := range len(s) {
		c := s[i]
		if c < '0' || c > '9' {
			return 0, false
		}
		n = n*10 + uint64(c-'0')
		if n > most {
			return 0, false
		}
	}
	return n, n > 0
}
