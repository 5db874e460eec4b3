/-
  DERIVED. GIVEN WITH THE SEED: THE CARDS: each row of YtlpfmciahhkncaaDoorRows.lean that lists a variable, with what it lists TIED to the program's text (the seventh form; the later family's looks); each row that meets fmt, with fmt's text TOLD by the authors' own Lean function (tested against real Go, not proved from fmt's source: count such statements apart). THE CARD IS WHAT COUNTS. Prove the row's statement (the work); the ties are given (YtlpfmciahhkncaaDoorTie.lean); close each card by the builder's one call (the guide's Derived/Test/ToyasCard.lean, 'card_holds'). Laid BY PROGRAM, IN A SANDBOX (cutbox-door.mjs). By AI agents, Wed Nov 11 2026. No macro, syntax, notation, axiom, sorry.
-/
import Derived.Test.YtlpfmciahhkncaaDoorRows
import GoSem.ClaimSeven
namespace Go.Proofs.YtlpfmciahhkncaaDoor
namespace Rows

/-- THE TIED CARD OF 'laws.FnDrawMean'. -/
def fnDrawMeanCard : Claim7 := { stood := { row := fnDrawMeanRow, standIns := [], harness := (true, "bcf95915ea147578dbc5b25857184f533e353bcd3bed0a6cfc86a2de27908c4b"), looks := true }, kinds := [], alts := [], laidByText := true, laidKinds := [.sentinel], laidTests := true, laidLooks := .later }
def FnDrawMeanCardSaid : Prop := Claim7.holds Tryd.pinned (.plain (OpenSpec.ofChange fnDrawMeanSpec)) fnDrawMeanCard

/-- THE TIED CARD OF 'laws.FnDrawCount'. -/
def fnDrawCountCard : Claim7 := { stood := { row := fnDrawCountRow, standIns := [], harness := (true, "bcf95915ea147578dbc5b25857184f533e353bcd3bed0a6cfc86a2de27908c4b"), looks := true }, kinds := [], alts := [], laidByText := true, laidKinds := [.sentinel], laidTests := true, laidLooks := .later }
def FnDrawCountCardSaid : Prop := Claim7.holds Tryd.pinned (.plain (OpenSpec.ofChange fnDrawCountSpec)) fnDrawCountCard

/-- THE TIED CARD OF 'laws.FnRangeMultiple'. -/
def fnRangeMultipleCard : Claim7 := { stood := { row := fnRangeMultipleRow, standIns := [], harness := (true, "bcf95915ea147578dbc5b25857184f533e353bcd3bed0a6cfc86a2de27908c4b"), looks := true }, kinds := [], alts := [], laidByText := true, laidKinds := [.sentinel], laidTests := true, laidLooks := .later }
def FnRangeMultipleCardSaid : Prop := Claim7.holds Tryd.pinned (.plain (OpenSpec.ofChange fnRangeMultipleSpec)) fnRangeMultipleCard

/-- THE TIED CARD OF 'laws.FnDownTwice'. -/
def fnDownTwiceCard : Claim7 := { stood := { row := fnDownTwiceRow, standIns := [], harness := (true, "bcf95915ea147578dbc5b25857184f533e353bcd3bed0a6cfc86a2de27908c4b"), looks := true }, kinds := [], alts := [], laidByText := true, laidKinds := [.sentinel], laidTests := true, laidLooks := .later }
def FnDownTwiceCardSaid : Prop := Claim7.holds Tryd.pinned (.plain (OpenSpec.ofChange fnDownTwiceSpec)) fnDownTwiceCard

/-- THE TIED CARD OF 'laws.FnNearDraw'. -/
def fnNearDrawCard : Claim7 := { stood := { row := fnNearDrawRow, standIns := [], harness := (true, "bcf95915ea147578dbc5b25857184f533e353bcd3bed0a6cfc86a2de27908c4b"), looks := true }, kinds := [], alts := [], laidByText := true, laidKinds := [.sentinel], laidTests := true, laidLooks := .later }
def FnNearDrawCardSaid : Prop := Claim7.holds Tryd.pinned (.plain (OpenSpec.ofChange fnNearDrawSpec)) fnNearDrawCard

/-- THE TIED CARD OF 'laws.FnExactRoundDown'. -/
def fnExactRoundDownCard : Claim7 := { stood := { row := fnExactRoundDownRow, standIns := [], harness := (true, "bcf95915ea147578dbc5b25857184f533e353bcd3bed0a6cfc86a2de27908c4b"), looks := true }, kinds := [], alts := [], laidByText := true, laidKinds := [.sentinel], laidTests := true, laidLooks := .later }
def FnExactRoundDownCardSaid : Prop := Claim7.holds Tryd.pinned (.plain (OpenSpec.ofChange fnExactRoundDownSpec)) fnExactRoundDownCard

/-- THE TIED CARD OF 'laws.FnExactRoundNear'. -/
def fnExactRoundNearCard : Claim7 := { stood := { row := fnExactRoundNearRow, standIns := [], harness := (true, "bcf95915ea147578dbc5b25857184f533e353bcd3bed0a6cfc86a2de27908c4b"), looks := true }, kinds := [], alts := [], laidByText := true, laidKinds := [.sentinel], laidTests := true, laidLooks := .later }
def FnExactRoundNearCardSaid : Prop := Claim7.holds Tryd.pinned (.plain (OpenSpec.ofChange fnExactRoundNearSpec)) fnExactRoundNearCard

/-- THE TIED CARD OF 'laws.FnExactRoundDraw'. -/
def fnExactRoundDrawCard : Claim7 := { stood := { row := fnExactRoundDrawRow, standIns := [], harness := (true, "bcf95915ea147578dbc5b25857184f533e353bcd3bed0a6cfc86a2de27908c4b"), looks := true }, kinds := [], alts := [], laidByText := true, laidKinds := [.sentinel], laidTests := true, laidLooks := .later }
def FnExactRoundDrawCardSaid : Prop := Claim7.holds Tryd.pinned (.plain (OpenSpec.ofChange fnExactRoundDrawSpec)) fnExactRoundDrawCard

/-- THE TIED CARD OF 'laws.FnExactRoundLow'. -/
def fnExactRoundLowCard : Claim7 := { stood := { row := fnExactRoundLowRow, standIns := [], harness := (true, "bcf95915ea147578dbc5b25857184f533e353bcd3bed0a6cfc86a2de27908c4b"), looks := true }, kinds := [], alts := [], laidByText := true, laidKinds := [.sentinel], laidTests := true, laidLooks := .later }
def FnExactRoundLowCardSaid : Prop := Claim7.holds Tryd.pinned (.plain (OpenSpec.ofChange fnExactRoundLowSpec)) fnExactRoundLowCard

/-- THE TIED CARD OF 'laws.FnExactRoundHigh'. -/
def fnExactRoundHighCard : Claim7 := { stood := { row := fnExactRoundHighRow, standIns := [], harness := (true, "bcf95915ea147578dbc5b25857184f533e353bcd3bed0a6cfc86a2de27908c4b"), looks := true }, kinds := [], alts := [], laidByText := true, laidKinds := [.sentinel], laidTests := true, laidLooks := .later }
def FnExactRoundHighCardSaid : Prop := Claim7.holds Tryd.pinned (.plain (OpenSpec.ofChange fnExactRoundHighSpec)) fnExactRoundHighCard

/-- THE SECOND FORM's CARD OF 'laws.FnDrawMean'. -/
def fnDrawMeanUptoCard : Claim7 := { stood := { row := fnDrawMeanUptoRow, standIns := [], harness := (true, "bcf95915ea147578dbc5b25857184f533e353bcd3bed0a6cfc86a2de27908c4b"), looks := true }, kinds := [], alts := [], laidByText := true, laidKinds := [.sentinel], laidTests := true, laidLooks := .later }
def FnDrawMeanUptoCardSaid : Prop := Claim7.holds Tryd.pinned (.plain (OpenSpec.upto fnDrawMeanSpec)) fnDrawMeanUptoCard

/-- THE SECOND FORM's CARD OF 'laws.FnDrawCount'. -/
def fnDrawCountUptoCard : Claim7 := { stood := { row := fnDrawCountUptoRow, standIns := [], harness := (true, "bcf95915ea147578dbc5b25857184f533e353bcd3bed0a6cfc86a2de27908c4b"), looks := true }, kinds := [], alts := [], laidByText := true, laidKinds := [.sentinel], laidTests := true, laidLooks := .later }
def FnDrawCountUptoCardSaid : Prop := Claim7.holds Tryd.pinned (.plain (OpenSpec.upto fnDrawCountSpec)) fnDrawCountUptoCard

/-- THE SECOND FORM's CARD OF 'laws.FnRangeMultiple'. -/
def fnRangeMultipleUptoCard : Claim7 := { stood := { row := fnRangeMultipleUptoRow, standIns := [], harness := (true, "bcf95915ea147578dbc5b25857184f533e353bcd3bed0a6cfc86a2de27908c4b"), looks := true }, kinds := [], alts := [], laidByText := true, laidKinds := [.sentinel], laidTests := true, laidLooks := .later }
def FnRangeMultipleUptoCardSaid : Prop := Claim7.holds Tryd.pinned (.plain (OpenSpec.upto fnRangeMultipleSpec)) fnRangeMultipleUptoCard

/-- THE SECOND FORM's CARD OF 'laws.FnDownTwice'. -/
def fnDownTwiceUptoCard : Claim7 := { stood := { row := fnDownTwiceUptoRow, standIns := [], harness := (true, "bcf95915ea147578dbc5b25857184f533e353bcd3bed0a6cfc86a2de27908c4b"), looks := true }, kinds := [], alts := [], laidByText := true, laidKinds := [.sentinel], laidTests := true, laidLooks := .later }
def FnDownTwiceUptoCardSaid : Prop := Claim7.holds Tryd.pinned (.plain (OpenSpec.upto fnDownTwiceSpec)) fnDownTwiceUptoCard

/-- THE SECOND FORM's CARD OF 'laws.FnNearDraw'. -/
def fnNearDrawUptoCard : Claim7 := { stood := { row := fnNearDrawUptoRow, standIns := [], harness := (true, "bcf95915ea147578dbc5b25857184f533e353bcd3bed0a6cfc86a2de27908c4b"), looks := true }, kinds := [], alts := [], laidByText := true, laidKinds := [.sentinel], laidTests := true, laidLooks := .later }
def FnNearDrawUptoCardSaid : Prop := Claim7.holds Tryd.pinned (.plain (OpenSpec.upto fnNearDrawSpec)) fnNearDrawUptoCard

/-- THE SECOND FORM's CARD OF 'laws.FnExactRoundDown'. -/
def fnExactRoundDownUptoCard : Claim7 := { stood := { row := fnExactRoundDownUptoRow, standIns := [], harness := (true, "bcf95915ea147578dbc5b25857184f533e353bcd3bed0a6cfc86a2de27908c4b"), looks := true }, kinds := [], alts := [], laidByText := true, laidKinds := [.sentinel], laidTests := true, laidLooks := .later }
def FnExactRoundDownUptoCardSaid : Prop := Claim7.holds Tryd.pinned (.plain (OpenSpec.upto fnExactRoundDownSpec)) fnExactRoundDownUptoCard

/-- THE SECOND FORM's CARD OF 'laws.FnExactRoundNear'. -/
def fnExactRoundNearUptoCard : Claim7 := { stood := { row := fnExactRoundNearUptoRow, standIns := [], harness := (true, "bcf95915ea147578dbc5b25857184f533e353bcd3bed0a6cfc86a2de27908c4b"), looks := true }, kinds := [], alts := [], laidByText := true, laidKinds := [.sentinel], laidTests := true, laidLooks := .later }
def FnExactRoundNearUptoCardSaid : Prop := Claim7.holds Tryd.pinned (.plain (OpenSpec.upto fnExactRoundNearSpec)) fnExactRoundNearUptoCard

/-- THE SECOND FORM's CARD OF 'laws.FnExactRoundDraw'. -/
def fnExactRoundDrawUptoCard : Claim7 := { stood := { row := fnExactRoundDrawUptoRow, standIns := [], harness := (true, "bcf95915ea147578dbc5b25857184f533e353bcd3bed0a6cfc86a2de27908c4b"), looks := true }, kinds := [], alts := [], laidByText := true, laidKinds := [.sentinel], laidTests := true, laidLooks := .later }
def FnExactRoundDrawUptoCardSaid : Prop := Claim7.holds Tryd.pinned (.plain (OpenSpec.upto fnExactRoundDrawSpec)) fnExactRoundDrawUptoCard

/-- THE SECOND FORM's CARD OF 'laws.FnExactRoundLow'. -/
def fnExactRoundLowUptoCard : Claim7 := { stood := { row := fnExactRoundLowUptoRow, standIns := [], harness := (true, "bcf95915ea147578dbc5b25857184f533e353bcd3bed0a6cfc86a2de27908c4b"), looks := true }, kinds := [], alts := [], laidByText := true, laidKinds := [.sentinel], laidTests := true, laidLooks := .later }
def FnExactRoundLowUptoCardSaid : Prop := Claim7.holds Tryd.pinned (.plain (OpenSpec.upto fnExactRoundLowSpec)) fnExactRoundLowUptoCard

/-- THE SECOND FORM's CARD OF 'laws.FnExactRoundHigh'. -/
def fnExactRoundHighUptoCard : Claim7 := { stood := { row := fnExactRoundHighUptoRow, standIns := [], harness := (true, "bcf95915ea147578dbc5b25857184f533e353bcd3bed0a6cfc86a2de27908c4b"), looks := true }, kinds := [], alts := [], laidByText := true, laidKinds := [.sentinel], laidTests := true, laidLooks := .later }
def FnExactRoundHighUptoCardSaid : Prop := Claim7.holds Tryd.pinned (.plain (OpenSpec.upto fnExactRoundHighSpec)) fnExactRoundHighUptoCard
end Rows
end Go.Proofs.YtlpfmciahhkncaaDoor
