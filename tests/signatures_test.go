package tests

import "loop.example/g03230/impl"

// The program is given with these signatures: a changed one does not compile here.

var _ [127]int = [impl.AllTeeth]int{}
var _ [40]int = [impl.MaxBar]int{}
var _ func([]int) bool = impl.IsBar
var _ func(int) int = impl.CountTeeth
var _ func([]int, int) int = impl.FallOf
var _ func([]int) bool = impl.SortsAll
var _ func([]int) ([]int, bool) = impl.OrderBar
var _ func([]int) int = impl.CountOrders
var _ func([]int, int, int) ([]int, bool) = impl.BreakRail
var _ func([]int, int) int = impl.LossBefore
var _ func([]int, int) []int = impl.ReachOf

var _ [20]int = [impl.MaxRoom]int{}
var _ [60]int = [impl.MaxWidth]int{}
var _ = impl.Font{Letters: "", Widths: []int{}, Codes: []int{}}
var _ = impl.Matrix{Kind: 0, Teeth: 0}
var _ func(impl.Font) bool = impl.FontOk
var _ func(impl.Font, int) int = impl.KeyOf
var _ func(impl.Font, impl.Matrix) bool = impl.MatrixOk
var _ func(impl.Font, [][]impl.Matrix) bool = impl.MagazineOk
var _ func(impl.Font, int) ([][]impl.Matrix, bool) = impl.FillMagazine
var _ func(impl.Font, [][]impl.Matrix, int) ([][]impl.Matrix, impl.Matrix, bool) = impl.TakeMatrix
var _ func(impl.Font, [][]impl.Matrix, impl.Matrix) ([][]impl.Matrix, int, bool) = impl.DropMatrix
var _ func(impl.Font, [][]impl.Matrix, int, int, int) ([][]impl.Matrix, bool) = impl.WearMatrix
var _ func(impl.Font, [][]impl.Matrix) []int = impl.KindCounts
var _ func(impl.Font, [][]impl.Matrix) int = impl.CountStrays
var _ func(impl.Font, [][]impl.Matrix) int = impl.CountWorn
var _ func(impl.Font, [][]impl.Matrix) ([][]impl.Matrix, int, bool) = impl.SweepMagazine
var _ func(impl.Font, []impl.Matrix) string = impl.LettersOf

var _ [120]int = [impl.MaxItems]int{}
var _ [100]int = [impl.MaxBand]int{}
var _ [2000]int = [impl.MaxMeasure]int{}
var _ = impl.Measure{Width: 0, Thin: 0, Thick: 0}
var _ func(impl.Measure) bool = impl.MeasureOk
var _ func([]int) bool = impl.LineOk
var _ func(impl.Measure, []int) (int, int, bool) = impl.WidthsOf
var _ func(impl.Measure, []int) (int, int, bool) = impl.SpreadLine
var _ func(impl.Measure, []int) bool = impl.IsFull
var _ func(impl.Measure, []int) []int = impl.BandWidths
var _ func(impl.Measure, []int) []int = impl.PlacesOf
var _ func(impl.Measure, []int, []int) int = impl.CountFitting
var _ func(impl.Measure, []int, []int) ([]int, bool) = impl.QuadLine
var _ func(impl.Measure, []int, []int) ([]int, bool) = impl.CenterLine

var _ [40]int = [impl.MaxWords]int{}
var _ func([]int) bool = impl.TextOk
var _ func(impl.Measure, []int, int, int) int = impl.LineKind
var _ func(impl.Measure, []int, []int) bool = impl.IsBreaking
var _ func(impl.Measure, []int, []int) int = impl.CostOf
var _ func(impl.Measure, []int) int = impl.CountBreakings
var _ func(impl.Measure, []int) ([]int, bool) = impl.GreedyBreaking
var _ func(impl.Measure, []int, int) ([]int, bool) = impl.BreakingAt
var _ func(impl.Measure, []int, []int) int = impl.BreakingIndex
var _ func(impl.Measure, []int) ([]int, int, bool) = impl.BestBreaking
var _ func(impl.Measure, []int, int) []int = impl.WidthsFor

var _ [240]int = [impl.MaxWaiting]int{}
var _ [60]int = [impl.MaxSpare]int{}
var _ = impl.Machine{Font: impl.Font{}, Magazine: [][]impl.Matrix{}, Spare: 0, Measure: impl.Measure{}, Line: []impl.Matrix{}, Waiting: []impl.Matrix{}}
var _ func(impl.Machine) bool = impl.MachineOk
var _ func(impl.Font, int, int, impl.Measure) (impl.Machine, bool) = impl.NewMachine
var _ func(impl.Machine) []int = impl.ItemsOf
var _ func(impl.Machine) string = impl.LineText
var _ func(impl.Machine, string) (impl.Machine, int) = impl.KeyText
var _ func(impl.Machine, bool) (impl.Machine, string, []int, bool) = impl.CastLine
var _ func(impl.Machine, int) (impl.Machine, int) = impl.DropWaiting
var _ func(impl.Machine, int, int, int) (impl.Machine, bool) = impl.WearMachine
var _ func(impl.Machine) []int = impl.CountAll
var _ func(impl.Machine, []string) (impl.Machine, []string, bool) = impl.SetLines
var _ func(string, string) ([]int, bool) = impl.FaultsOf

var _ func(impl.Font, string) ([]int, bool) = impl.WordWidths
var _ func(impl.Font, impl.Measure, string) ([]string, bool) = impl.SetGalley
var _ func(impl.Font, impl.Measure, []string) bool = impl.GalleyOk
var _ func([]string) string = impl.GalleyText
var _ func(impl.Font, impl.Measure, []string, int, string) ([]string, bool) = impl.ReplaceWord
var _ func([]string, []string) (int, int, int) = impl.ResetOf
var _ func([]string, int, int, []string) ([]string, bool) = impl.ApplyReset
var _ func([]string, []string) string = impl.MarksOf
var _ func(impl.Machine, []string) (impl.Machine, []int, bool) = impl.CastGalley

var _ [60]int = [impl.MaxLines]int{}
var _ = impl.Desk{Machine: impl.Machine{}, Galley: []string{}}
var _ func([]int) string = impl.FormatNumbers
var _ func(string) ([]int, bool) = impl.ParseNumbers
var _ func(impl.Desk) bool = impl.DeskOk
var _ func() impl.Desk = impl.NewDesk
var _ func(impl.Desk, string) (impl.Desk, string) = impl.RunLine
var _ func(string) (string, int) = impl.RunScript
