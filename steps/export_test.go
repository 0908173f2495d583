package steps

import "duet/api"

// What the tests of the other ways to run a program share with those of this one.
var (
	Made         = made
	Text         = text
	Told         = toldSaid
	RoomyProgram = roomy[api.Program]
	WholeProgram = whole[api.Program]
)
