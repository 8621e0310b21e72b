package scope

import "cistern/api"

// fault is what is wrong with a plan, and where: thrown where it is met, and caught in the calls.
type fault struct {
	at int
	e  api.Errno
}

// caught gives the place and the error of what was thrown, if something was.
func caught(thrown any) (int, api.Errno) {
	switch thrown := thrown.(type) {
	case nil:
		return 0, api.OK
	case fault:
		return thrown.at, thrown.e
	}
	panic(thrown) // a mistake of the program is not to look like an answer
}
