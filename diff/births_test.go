package diff_test

import "testing"

// A clone is born with what its source was born with, whatever becomes of the source.
func TestP23_1BirthOfAClone(t *testing.T) {
	checkSteps(t, crowd(), "volume b from z size 80; volume z size 3", "clone b of z; resize z 3")
	checkSteps(t, crowd(), "volume b from z size 3; volume z size 3", "clone b of z; resize z 3; resize b 3")
	checkSteps(t, crowd(), "volume b from z size 81; volume z size 80", "clone b of z; resize b 81")
	checkSteps(t, crowd(), "volume b from y size 40; volume c from x size 31", "clone b of y; clone c of x; resize c 31")
	checkSteps(t, crowd(), "volume b from t size 70 thick; volume t size 1", "clone b of t; resize t 1")
	checkSteps(t, crowd(), "volume b from t size 64 thick; volume t size 200", "clone b of t; resize t 200; resize b 64")
	checkSteps(t, crowd(), "volume b from z size 80 thick; volume z size 80 thick", "clone b of z; fill z 0 32; fill b 0 32")
	checkSteps(t, crowd(), "volume b from u size 40 thick; volume u size 33 thick", "clone b of u; resize u 33; resize b 40; fill u 0 32; fill u 32 33; fill b 0 32; fill b 32 40")
}

// A fresh one is born with what its source was born with, and keeps that.
func TestP23_1BirthOfAFreshOne(t *testing.T) {
	checkSteps(t, crowd(), "snapshot of z; volume z size 3; volume b from z@20 size 80", "snap z@20 of z; clone b of z@20; resize z 3")
	checkSteps(t, crowd(), "snapshot of z; volume z size 3; volume b from z@20 size 3", "snap z@20 of z; clone b of z@20; resize z 3; resize b 3")
	checkSteps(t, crowd(), "snapshot of t; snapshot of t@20; volume t size 1; volume b from t@20@21 size 70 thick",
		"snap t@20 of t; snap t@20@21 of t@20; clone b of t@20@21; resize t 1")
	checkSteps(t, crowd(), "snapshot of z; snapshot of z@20; volume z size 100 thick; volume b from z@20@21 size 82 thick; volume c from z@20 size 64 thick",
		"snap z@20 of z; snap z@20@21 of z@20; clone b of z@20@21; clone c of z@20; resize z 100; resize b 82; resize c 64; "+
			"fill z 0 32; fill z 64 96; fill z 96 100; fill b 0 32; fill b 64 82; fill c 0 32")
	checkSteps(t, crowd(), "rename z to t; rename t to z; snapshot of t; snapshot of t@20; volume b from t@20@21 size 80",
		"rename z to t; rename t to z; snap t@20 of t; snap t@20@21 of t@20; clone b of t@20@21")
}

// A new one of a new one is born with what that one was born with.
func TestP23_1BirthOfANewOneOfANewOne(t *testing.T) {
	checkSteps(t, crowd(), "volume c from b size 5; volume b from z size 10", "clone b of z; clone c of b; resize b 10; resize c 5")
	checkSteps(t, crowd(), "volume c from b size 80; volume b from z size 10", "clone b of z; clone c of b; resize b 10")
	checkSteps(t, crowd(), "volume c from b size 10; volume b from z size 80; volume z size 10", "clone b of z; clone c of b; resize z 10; resize c 10")
	checkSteps(t, crowd(), "volume c from b size 6; volume b size 5", "create b 5; clone c of b; resize c 6")
	checkSteps(t, crowd(), "volume c from b size 5; volume b size 5; volume d from c size 5; volume e from d size 4",
		"create b 5; clone c of b; clone d of c; clone e of d; resize e 4")
	checkSteps(t, crowd(), "volume c from b size 40 thick; volume b size 40 thick", "create b 40; clone c of b; fill b 0 32; fill b 32 40; fill c 0 32; fill c 32 40")
	checkSteps(t, crowd(), "volume c from b size 40 thick; volume b size 32", "create b 32; clone c of b; resize c 40; fill c 0 32; fill c 32 40")
	checkSteps(t, crowd(), "volume c from b size 70 thick; volume b from t size 3", "clone b of t; clone c of b; resize b 3")
	checkSteps(t, crowd(), "snapshot of t; volume d from c size 71 thick; volume c from b size 2; volume b from t@20 size 1; volume t size 5",
		"snap t@20 of t; clone b of t@20; clone c of b; clone d of c; resize t 5; resize b 1; resize c 2; resize d 71; fill d 64 71")
}
