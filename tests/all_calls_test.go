package tests

import (
	"slices"

	"loop.example/g00047/impl"
)

// call is a function of the program, and arguments that are as the document asks for: its answer is not the zero answer.
type call struct {
	name string
	f    any
	args []any
}

// allCalls has every exported function once, chapter by chapter.
func allCalls() []call {
	return slices.Concat(callsOfNumbers(), callsOfPoles(), callsOfTurns(), callsOfContacts(), callsOfSenses(), callsOfFits(), callsOfClouds(), callsOfHolds(), callsOfCosts(), callsOfBoxes(), callsOfWays(), callsOfTracks(), callsOfCharts(), callsOfWishes(), callsOfBuses(), callsOfTalk(), callsOfPlans(), callsOfFleets(), callsOfWorlds())
}

func callsOfNumbers() []call {
	l := []float64{1, 0.5, -0.25}
	return []call{
		{"GoodFrac", impl.GoodFrac, []any{"-7/3"}},
		{"FracOf", impl.FracOf, []any{6, -4}},
		{"AddFrac", impl.AddFrac, []any{"1/2", "1/3"}},
		{"SubFrac", impl.SubFrac, []any{"1/2", "1/3"}},
		{"MulFrac", impl.MulFrac, []any{"3/2", "-5"}},
		{"DivFrac", impl.DivFrac, []any{"3/2", "-5"}},
		{"CmpFrac", impl.CmpFrac, []any{"1/2", "1/3"}},
		{"FloorFrac", impl.FloorFrac, []any{"-7/3"}},
		{"RootFrac", impl.RootFrac, []any{"9/4"}},
		{"SimplestIn", impl.SimplestIn, []any{"7/22", "9/22"}},
		{"GoodReal", impl.GoodReal, []any{0.5}},
		{"RealOf", impl.RealOf, []any{"1/10"}},
		{"FracOfReal", impl.FracOfReal, []any{0.375}},
		{"NextReal", impl.NextReal, []any{1.5}},
		{"LastReal", impl.LastReal, []any{1.5}},
		{"RealBelow", impl.RealBelow, []any{"1/10"}},
		{"RealAbove", impl.RealAbove, []any{"1/10"}},
		{"SumReals", impl.SumReals, []any{l}},
		{"DotReals", impl.DotReals, []any{l, []float64{2, 3, 4}}},
		{"NormReal", impl.NormReal, []any{[]float64{3, 4}}},
		{"HornerReal", impl.HornerReal, []any{l, 0.5}},
	}
}

func callsOfPoles() []call {
	p, q := impl.Point{Re: 1, Im: 2}, impl.Point{Re: 0.5, Im: -1}
	z := []impl.Point{{Re: 1.5}, {Re: -1.25, Im: 0.5}}
	return []call{
		{"MulPoints", impl.MulPoints, []any{p, q}},
		{"DivPoints", impl.DivPoints, []any{p, q}},
		{"PolyAt", impl.PolyAt, []any{[]float64{-2, 0, 1}, p}},
		{"FirstGuess", impl.FirstGuess, []any{3}},
		{"RootStep", impl.RootStep, []any{[]float64{-2, 0, 1}, z}},
		{"RootsOf", impl.RootsOf, []any{[]float64{-2, 0, 1}, 5}},
		{"DisksOf", impl.DisksOf, []any{[]string{"-2", "0", "1"}, z}},
		{"Apart", impl.Apart, []any{[]impl.Disk{{Centre: p, Square: 0.25}, {Centre: impl.Point{Re: 5}, Square: 1}}}},
		{"RealRoots", impl.RealRoots, []any{[]string{"-2", "0", "1"}, "0", "2"}},
	}
}

func callsOfTurns() []call {
	s, o, v := impl.Spin{A: 2, B: 0, C: 0, D: 2}, impl.Spin{A: 1, B: 1, C: 0, D: 0}, impl.Vec{X: "1", Y: "0", Z: "1/2"}
	pose, other := impl.Pose{Spin: s, At: v}, impl.Pose{Spin: o, At: impl.Vec{X: "2", Y: "-1", Z: "0"}}
	links, turns := []string{"2", "1"}, []impl.Turn{{P: 1, Q: 2}, {P: -1, Q: 1}}
	return []call{
		{"GoodSpin", impl.GoodSpin, []any{s}},
		{"PlainSpin", impl.PlainSpin, []any{s}},
		{"JoinSpin", impl.JoinSpin, []any{s, o}},
		{"BackSpin", impl.BackSpin, []any{s}},
		{"TurnVec", impl.TurnVec, []any{s, v}},
		{"MatrixOf", impl.MatrixOf, []any{s}},
		{"SpinOf", impl.SpinOf, []any{[][]string{{"0", "-1", "0"}, {"1", "0", "0"}, {"0", "0", "1"}}}},
		{"JoinPose", impl.JoinPose, []any{pose, other}},
		{"BackPose", impl.BackPose, []any{pose}},
		{"PosePoint", impl.PosePoint, []any{pose, v}},
		{"GoodTurn", impl.GoodTurn, []any{turns[0]}},
		{"CosSin", impl.CosSin, []any{turns[0]}},
		{"TurnOf", impl.TurnOf, []any{"3/5", "4/5"}},
		{"JoinTurn", impl.JoinTurn, []any{turns[0], turns[1]}},
		{"Ahead", impl.Ahead, []any{links, turns}},
		{"ReachOf", impl.ReachOf, []any{"2", "1", "2", "1"}},
		{"Leverage", impl.Leverage, []any{links, turns}},
		{"Singular", impl.Singular, []any{links, turns}},
	}
}

func callsOfContacts() []call {
	a, b := impl.Body{Mass: "2", X: "0", Y: "1", U: "3", V: "0"}, impl.Body{Mass: "1", X: "1", Y: "1", U: "-1", V: "1/2"}
	beads := []impl.Bead{{Mass: "1", At: "0", Speed: "1"}, {Mass: "1", At: "2", Speed: "0"}}
	m, q := [][]string{{"2", "1"}, {"1", "2"}}, []string{"-3", "1"}
	return []call{
		{"GoodBody", impl.GoodBody, []any{a}},
		{"Strike", impl.Strike, []any{a, b, "1", "0", "1/2"}},
		{"Momentum", impl.Momentum, []any{[]impl.Body{a, b}}},
		{"Energy", impl.Energy, []any{[]impl.Body{a, b}}},
		{"Whirl", impl.Whirl, []any{[]impl.Body{a, b}}},
		{"GoodBeads", impl.GoodBeads, []any{beads}},
		{"RunBeads", impl.RunBeads, []any{beads, "1", "3"}},
		{"GoodTouch", impl.GoodTouch, []any{m, q}},
		{"Touches", impl.Touches, []any{m, q, impl.Touch{W: []string{"0", "5/2"}, Z: []string{"3/2", "0"}}}},
		{"AllTouches", impl.AllTouches, []any{m, q}},
		{"FirmMatrix", impl.FirmMatrix, []any{m}},
		{"Presses", impl.Presses, []any{m, q, []string{"1/2", "2"}}},
	}
}

func callsOfSenses() []call {
	ticks := []impl.Tick{{Here: 0, There: 1}, {Here: 1, There: 3}, {Here: 2, There: 6}}
	clock := impl.Clock{Rate: "2", Ahead: "1"}
	walls := []impl.Wall{{X1: 5, Y1: -1, X2: 5, Y2: 1}, {X1: 2, Y1: -1, X2: 3, Y2: 1}}
	return []call{
		{"WrapCount", impl.WrapCount, []any{27, 10}},
		{"UnwrapCounts", impl.UnwrapCounts, []any{[]int{9, 0, 1}, 10}},
		{"ClockOf", impl.ClockOf, []any{ticks}},
		{"ThereAt", impl.ThereAt, []any{clock, 10}},
		{"Misses", impl.Misses, []any{ticks, clock}},
		{"GoodWalls", impl.GoodWalls, []any{walls}},
		{"RayHit", impl.RayHit, []any{walls, 0, 0, 1, 0}},
		{"ScanOf", impl.ScanOf, []any{walls, 0, 0, [][]int{{1, 0}, {0, 1}}}},
	}
}

func callsOfFits() []call {
	fit := impl.Fit{Rows: [][]string{{"1", "0"}, {"1", "1"}, {"1", "2"}}, Right: []string{"0", "0", "3"}, Weights: []string{"1", "1/2", "1"}}
	info, other := impl.Info{M: [][]string{{"3", "3"}, {"3", "5"}}, V: []string{"3", "6"}, C: "9"}, impl.Info{M: [][]string{{"1", "0"}, {"0", "1"}}, V: []string{"0", "1"}, C: "1"}
	held := impl.Belief{Mean: []string{"1", "2"}, Cov: [][]string{{"2", "1"}, {"1", "2"}}}
	move := impl.Move{F: [][]string{{"1", "1"}, {"0", "1"}}, U: []string{"0", "1"}, Q: [][]string{{"1", "0"}, {"0", "1/2"}}}
	see := impl.See{H: []string{"1", "0"}, R: "1", Z: "4"}
	walk := impl.Walk{First: "0", Spread: "1", Drift: "1", Noise: "1/2", Seen: []string{"2", "", "3"}}
	return []call{
		{"GoodFit", impl.GoodFit, []any{fit, 2}},
		{"LossOf", impl.LossOf, []any{fit, []string{"1", "1/2"}}},
		{"SolveFit", impl.SolveFit, []any{fit, 2}},
		{"InfoOf", impl.InfoOf, []any{fit, 2}},
		{"AddInfo", impl.AddInfo, []any{info, other}},
		{"SolveInfo", impl.SolveInfo, []any{info}},
		{"DropLast", impl.DropLast, []any{info}},
		{"GoodBelief", impl.GoodBelief, []any{held}},
		{"MoveBelief", impl.MoveBelief, []any{held, move}},
		{"SeeBelief", impl.SeeBelief, []any{held, see}},
		{"Surprise", impl.Surprise, []any{held, see}},
		{"RunBelief", impl.RunBelief, []any{held, []impl.Move{move, move}, [][]impl.See{{see}, {}}}},
		{"FilterWalk", impl.FilterWalk, []any{walk}},
		{"SmoothWalk", impl.SmoothWalk, []any{walk}},
		{"WalkLoss", impl.WalkLoss, []any{walk, []string{"1", "2", "3"}}},
	}
}

func callsOfClouds() []call {
	cloud := []impl.Mote{{At: 5, Weight: 1}, {At: 7, Weight: 3}}
	counts := impl.Counts{Wide: 3, Hits: []int{0, 0, 2, 0, 0, 1}, Misses: []int{1, 0, 0, 2, 1, 1}}
	m := cellsOf("..#|...")
	return []call{
		{"GoodCloud", impl.GoodCloud, []any{cloud}},
		{"CloudMean", impl.CloudMean, []any{cloud}},
		{"CloudSpread", impl.CloudSpread, []any{cloud}},
		{"Worth", impl.Worth, []any{cloud}},
		{"LookCloud", impl.LookCloud, []any{cloud, 8, 3}},
		{"MoveCloud", impl.MoveCloud, []any{cloud, 4, []int{1, -1}}},
		{"PickCloud", impl.PickCloud, []any{cloud, 4, 2}},
		{"LostCloud", impl.LostCloud, []any{[]impl.Mote{{At: 5}, {At: 7}}}},
		{"LineCells", impl.LineCells, []any{0, 0, 3, 1}},
		{"GoodCounts", impl.GoodCounts, []any{counts}},
		{"NewCounts", impl.NewCounts, []any{3, 2}},
		{"AddRay", impl.AddRay, []any{counts, 0, 0, 2, 1, true}},
		{"CellsOf", impl.CellsOf, []any{counts}},
		{"GoodCells", impl.GoodCells, []any{m}},
		{"FarOf", impl.FarOf, []any{m, 3, 0}},
		{"AllPlaces", impl.AllPlaces, []any{m}},
		{"SeePlaces", impl.SeePlaces, []any{m, []int{0, 1, 4}, 0, 1}},
		{"StepPlaces", impl.StepPlaces, []any{m, []int{0, 1, 4}, 0}},
	}
}

func callsOfHolds() []call {
	loop, inner := impl.Loop{P: 2, I: 1, D: 1, Scale: 1, Most: 10, Wind: 5, Slew: 9}, impl.Loop{P: 1, Scale: 2, Most: 10}
	hold := impl.Hold{On: true, Sum: 3, Last: 3, Out: 9}
	a, b := [][]string{{"1", "1"}, {"0", "1"}}, []string{"1/2", "1"}
	return []call{
		{"GoodLoop", impl.GoodLoop, []any{loop}},
		{"GoodHold", impl.GoodHold, []any{loop, hold}},
		{"HoldStep", impl.HoldStep, []any{loop, hold, 4, 1}},
		{"RunHold", impl.RunHold, []any{loop, hold, []int{3, 3}, []int{1, 2}}},
		{"CascadeStep", impl.CascadeStep, []any{loop, inner, hold, impl.Hold{}, 5, 1, 2}},
		{"LoopAt", impl.LoopAt, []any{[]impl.Gain{{From: 0, Loop: loop}, {From: 50, Loop: inner}}, 49}},
		{"RunPlant", impl.RunPlant, []any{loop, 2, []int{4, 4, 4}}},
		{"CharPoly", impl.CharPoly, []any{a}},
		{"ControlRank", impl.ControlRank, []any{a, b}},
		{"PlaceGain", impl.PlaceGain, []any{a, b, []string{"1/4", "-1", "1"}}},
		{"ClosedBy", impl.ClosedBy, []any{a, b, []string{"1/4", "7/8"}}},
		{"WatchGain", impl.WatchGain, []any{a, []string{"1", "0"}, []string{"0", "0", "1"}}},
		{"Settles", impl.Settles, []any{[]string{"1/4", "-1", "1"}}},
		{"StateStep", impl.StateStep, []any{a, b, []string{"0", "1"}, "2"}},
		{"RunState", impl.RunState, []any{a, b, []string{"0", "0"}, []string{"1", "-1"}}},
	}
}

func callsOfCosts() []call {
	cost := impl.Cost{A: [][]string{{"1", "1"}, {"0", "1"}}, B: []string{"0", "1"}, Q: [][]string{{"1", "0"}, {"0", "1"}}, R: "1", Last: [][]string{{"1", "0"}, {"0", "2"}}, Steps: 2}
	quad := impl.Quad{H: [][]string{{"1", "0"}, {"0", "1"}}, F: []string{"-2", "-3"}, G: [][]string{{"1", "0"}, {"1", "1"}}, Limits: []string{"5", "2"}}
	best := impl.Best{Kind: impl.BestFound, X: []string{"1/2", "3/2"}, Press: []string{"0", "3/2"}, Value: "-17/4"}
	task := impl.Task{A: "1", B: "1", X: "5", Weight: "1", Most: "2", Steps: 2}
	return []call{
		{"GoodCost", impl.GoodCost, []any{cost}},
		{"CostGains", impl.CostGains, []any{cost}},
		{"CostToGo", impl.CostToGo, []any{cost}},
		{"BestControls", impl.BestControls, []any{cost, []string{"3", "-1"}}},
		{"CostOf", impl.CostOf, []any{cost, []string{"3", "-1"}, []string{"1", "1/2"}}},
		{"RiccatiReal", impl.RiccatiReal, []any{1.0, 1.0, 1.0, 1.0, 2}},
		{"GainReal", impl.GainReal, []any{1.0, 1.0, 1.0, 1.5}},
		{"MissReal", impl.MissReal, []any{1.0, 1.0, 1.0, 1.0, 1.5}},
		{"GoodQuad", impl.GoodQuad, []any{quad}},
		{"QuadValue", impl.QuadValue, []any{quad, []string{"2", "3"}}},
		{"QuadFits", impl.QuadFits, []any{quad, []string{"1", "1"}}},
		{"BestOf", impl.BestOf, []any{quad}},
		{"BestHolds", impl.BestHolds, []any{quad, best}},
		{"AheadQuad", impl.AheadQuad, []any{task}},
		{"AheadControl", impl.AheadControl, []any{task}},
	}
}

func callsOfBoxes() []call {
	box, other := impl.Box{Lo: []float64{0, 1}, Hi: []float64{0.5, 2}}, impl.Box{Lo: []float64{0, 0}, Hi: []float64{4, 9}}
	m, w := [][]float64{{1, 1}, {0, 1}}, []float64{0.1, 0.5}
	return []call{
		{"GoodBox", impl.GoodBox, []any{box}},
		{"AddOut", impl.AddOut, []any{0.1, 0.2}},
		{"MulOut", impl.MulOut, []any{0.1, 0.2}},
		{"BoxHas", impl.BoxHas, []any{box, []string{"1/3", "4/3"}}},
		{"BoxWithin", impl.BoxWithin, []any{box, other}},
		{"BoxMeet", impl.BoxMeet, []any{box, other}},
		{"BoxHull", impl.BoxHull, []any{box, other}},
		{"BoxStep", impl.BoxStep, []any{m, box, w}},
		{"BoxRun", impl.BoxRun, []any{m, box, w, 3}},
		{"FirstOut", impl.FirstOut, []any{m, box, w, other, 5}},
	}
}

func callsOfWays() []call {
	m, court := cellsOf("...|.#.|..."), cellsOf("...|...")
	one, two := impl.Trip{From: 0, To: 2}, impl.Trip{From: 2, To: 0}
	paths := [][]int{{0, 1, 2, 2}, {2, 5, 4, 3}}
	return []call{
		{"CmpCost", impl.CmpCost, []any{99, 0, 0, 70}},
		{"WayCost", impl.WayCost, []any{m, []int{0, 3, 6, 7, 8}}},
		{"ShortestWay", impl.ShortestWay, []any{m, 0, 8}},
		{"Clear", impl.Clear, []any{m, 0, 2}},
		{"PulledWay", impl.PulledWay, []any{m, []int{0, 1, 2, 5, 8}}},
		{"MostClear", impl.MostClear, []any{m, 0}},
		{"GoodTrips", impl.GoodTrips, []any{court, []impl.Trip{one, two}}},
		{"PlanCrowd", impl.PlanCrowd, []any{court, []impl.Trip{one, two}, 5}},
		{"FirstMeet", impl.FirstMeet, []any{[][]int{{0, 1, 2}, {2, 1, 0}}}},
		{"GoodPaths", impl.GoodPaths, []any{court, []impl.Trip{one, {From: 2, To: 3}}, paths}},
		{"AloneTicks", impl.AloneTicks, []any{court, one}},
		{"JointTicks", impl.JointTicks, []any{court, one, two}},
		{"WaitRing", impl.WaitRing, []any{[]int{1, 0, 0}}},
	}
}

func callsOfTracks() []call {
	track := []impl.Knot{{Time: "0", Place: "0", Speed: "0"}, {Time: "2", Place: "4", Speed: "0"}, {Time: "3", Place: "3", Speed: "-1"}}
	slow := impl.Limits{Speed: "2", Push: "20", Jerk: "60"}
	return []call{
		{"GoodTrack", impl.GoodTrack, []any{track}},
		{"TrackAt", impl.TrackAt, []any{track, "1/2"}},
		{"TrackMost", impl.TrackMost, []any{track}},
		{"TrackRange", impl.TrackRange, []any{track}},
		{"TrackKeeps", impl.TrackKeeps, []any{track, impl.Limits{Speed: "9", Push: "90", Jerk: "90"}}},
		{"StretchTrack", impl.StretchTrack, []any{track, "3/2"}},
		{"LeastStretch", impl.LeastStretch, []any{track, slow}},
		{"ReplanTrack", impl.ReplanTrack, []any{track, "1", []impl.Knot{{Time: "5", Place: "0", Speed: "0"}}}},
	}
}

func callsOfCharts() []call {
	chart := impl.Chart{States: []impl.State{{Parent: -1, First: 1}, {Parent: 0, First: -1}, {Parent: 0, First: 3}, {Parent: 2, First: -1}}, Arrows: []impl.Arrow{{From: 1, On: 0, To: 2}, {From: 2, On: 1, To: 1}}}
	tree := []impl.Node{{Kind: impl.NodeKeep, Kids: 2}, {Kind: impl.NodeAct, Act: 1}, {Kind: impl.NodeAct, Act: 2}}
	acts := []int{0, impl.ActDone, impl.ActGoing, 0, 0, 0, 0, 0, 0, 0}
	return []call{
		{"GoodChart", impl.GoodChart, []any{chart}},
		{"EnterState", impl.EnterState, []any{chart, 2}},
		{"ChartStep", impl.ChartStep, []any{chart, 3, 1}},
		{"RunChart", impl.RunChart, []any{chart, []int{0, 1, 5}}},
		{"FlatChart", impl.FlatChart, []any{chart}},
		{"RunFlat", impl.RunFlat, []any{[][]int{{}, {2, 1, 1, 1, 1, 1}, {2, 1, 2, 2, 2, 2}}, 1, []int{0, 1, 5}}},
		{"GoodTree", impl.GoodTree, []any{tree}},
		{"TreeTick", impl.TreeTick, []any{tree, []int{1, 0, 0}, acts}},
		{"RunTree", impl.RunTree, []any{tree, [][]int{acts, acts}}},
	}
}

func callsOfWishes() []call {
	board := impl.Board{Names: []string{"", "pit", "Tür", ""}, Mine: []bool{true, true, true, false}, Next: [][]int{{1, 2, 3}, {}, {}, {1, 2}}}
	wish := impl.Wish{Reach: []string{"Tür"}, Avoid: []string{"pit"}}
	return []call{
		{"ReadWish", impl.ReadWish, []any{" reach Tür  avoid pit"}},
		{"WriteWish", impl.WriteWish, []any{wish}},
		{"GoodBoard", impl.GoodBoard, []any{board}},
		{"WinningPlaces", impl.WinningPlaces, []any{board, wish}},
		{"Strategy", impl.Strategy, []any{board, wish}},
		{"PlayBoard", impl.PlayBoard, []any{board, []int{3, -1, -1, -1}, 0, []int{4, 7}}},
		{"WishMet", impl.WishMet, []any{board, wish, []int{0, 3, 2}}},
	}
}

func callsOfBuses() []call {
	frame := impl.Frame{Id: 5, Data: []byte{1, 200}}
	talkers := []impl.Talker{{Queue: []impl.Frame{{Id: 1}, frame}, Share: 1, Errors: 250}, {Queue: []impl.Frame{{Id: 7}}, Share: 2}, {Share: 1, Errors: 255, Off: true}}
	return []call{
		{"Crc15", impl.Crc15, []any{"101"}},
		{"StuffBits", impl.StuffBits, []any{"000001111"}},
		{"UnstuffBits", impl.UnstuffBits, []any{"00000111110"}},
		{"GoodFrame", impl.GoodFrame, []any{frame}},
		{"FrameBits", impl.FrameBits, []any{frame}},
		{"ReadFrame", impl.ReadFrame, []any{impl.FrameBits(frame)}},
		{"Arbitrate", impl.Arbitrate, []any{[]int{5, 3, 3}}},
		{"RunBus", impl.RunBus, []any{talkers, 5, 2, []int{0}}},
	}
}

func callsOfTalk() []call {
	return []call{
		{"GoodTopic", impl.GoodTopic, []any{"/arm/left"}},
		{"ResolveTopic", impl.ResolveTopic, []any{"/arm/left", "~/cmd"}},
		{"TopicFits", impl.TopicFits, []any{"/arm/**/cmd", "/arm/a/cmd"}},
		{"KeepLast", impl.KeepLast, []any{[]int{1, 2}, 2, 3}},
		{"SendNext", impl.SendNext, []any{impl.Sender{Words: []int{4, 5, 6}, Acked: 1, Turn: 1}, 2}},
		{"TakeParcels", impl.TakeParcels, []any{[]int{4}, []impl.Parcel{{Number: 1, Word: 5}, {Number: 3, Word: 7}}}},
		{"TalkAll", impl.TalkAll, []any{[]int{4, 5, 6}, 2, []int{impl.FateFine, impl.FateLost}, []int{impl.FateLate}, 50}},
		{"MergeStamped", impl.MergeStamped, []any{[]impl.Stamped{{Time: 1, From: 2, Word: 7}}, []impl.Stamped{{Time: 1, From: 1, Word: 8}, {Time: 1, From: 2, Word: 7}}}},
	}
}

func callsOfPlans() []call {
	chores := []impl.Chore{{Period: 4, Need: 1, Due: 4}, {Period: 6, Need: 2, Due: 6}, {Period: 12, Need: 4, Due: 12}}
	gear := impl.Gear{Delay: 1, Watch: 4, Beat: 2, Ramp: 5, Most: 10}
	return []call{
		{"GoodChores", impl.GoodChores, []any{chores}},
		{"LoadOf", impl.LoadOf, []any{chores}},
		{"AnswerTimes", impl.AnswerTimes, []any{chores}},
		{"DemandAt", impl.DemandAt, []any{chores, 13}},
		{"NeverLate", impl.NeverLate, []any{chores}},
		{"RunRanked", impl.RunRanked, []any{chores, []int{0, 2, 1}, 20}},
		{"RunUrgent", impl.RunUrgent, []any{chores, []int{0, 2, 1}, 20}},
		{"CycleOf", impl.CycleOf, []any{chores}},
		{"GoodGear", impl.GoodGear, []any{gear}},
		{"StopBound", impl.StopBound, []any{gear}},
		{"RunStops", impl.RunStops, []any{gear, []impl.Press{{From: 3, To: 4}, {From: 6, To: 7}}, impl.FaultStuckA, 2, 8}},
		{"ModeStep", impl.ModeStep, []any{impl.ModeLive, "hurt"}},
		{"RunModes", impl.RunModes, []any{[]impl.Event{{Kind: "on"}, {Kind: "go"}, {Kind: "fail", Part: "eye"}}, []string{"eye", "arm"}}},
	}
}

func callsOfFleets() []call {
	prices, who := [][]int{{4, 1}, {2, 3}}, []int{1, 0}
	books := []impl.Booked{{Lane: 1, From: 2, To: 5, Who: 3}, {Lane: 1, From: 7, To: 9, Who: 4}}
	return []call{
		{"GoodPrices", impl.GoodPrices, []any{prices}},
		{"AssignCost", impl.AssignCost, []any{prices, who}},
		{"BestAssign", impl.BestAssign, []any{prices}},
		{"DuesOf", impl.DuesOf, []any{prices, who}},
		{"HandOver", impl.HandOver, []any{prices, who, 0}},
		{"GoodBooks", impl.GoodBooks, []any{books}},
		{"BookLane", impl.BookLane, []any{books, impl.Booked{Lane: 1, From: 5, To: 7, Who: 3}}},
		{"FirstFree", impl.FirstFree, []any{books, 1, 3, 2}},
		{"FreeLane", impl.FreeLane, []any{books, 3, 4}},
		{"ChargePlan", impl.ChargePlan, []any{impl.Charge{Level: 3, Use: 2, Gain: 3, Full: 10}, 6}},
	}
}

func callsOfWorlds() []call {
	w := worldOf("..#|...", "3 4 5")
	return []call{
		{"GoodWorld", impl.GoodWorld, []any{w}},
		{"RunWorld", impl.RunWorld, []any{w, "look 0\ngo 0\nwhere\n"}},
		{"TrueAt", impl.TrueAt, []any{w, "look 0\ngo 0\nwhere\n"}},
		{"BelievedAt", impl.BelievedAt, []any{w, "look 0\ngo 0\nwhere\n"}},
		{"ReplayWorld", impl.ReplayWorld, []any{w, "look 0 = far 2\nwhere = at 3\n"}},
		{"NextCoin", impl.NextCoin, []any{1}},
	}
}
