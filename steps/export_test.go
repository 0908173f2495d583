package steps

import "duet/api"

// What the tests of the other ways to run a program share with those of this one.
var (
	Made         = made
	ManyPicks    = manyPicks
	Text         = text
	Told         = toldSaid
	RoomyPicks   = roomy[[]int]
	RoomyProgram = roomy[api.Program]
	WholeProgram = whole[api.Program]
)
