/-
  DERIVED. GIVEN WITH THE SEED: THE CARDS: each row of YtlingfbmphaphaaDoorRows.lean that lists a variable, with what it lists TIED to the program's text (the seventh form; the later family's looks); each row that meets fmt, with fmt's text TOLD by the authors' own Lean function (tested against real Go, not proved from fmt's source: count such statements apart). THE CARD IS WHAT COUNTS. Prove the row's statement (the work); the ties are given (YtlingfbmphaphaaDoorTie.lean); close each card by the builder's one call (the guide's Derived/Test/ToyasCard.lean, 'card_holds'). Laid BY PROGRAM, IN A SANDBOX (cutbox-door.mjs). By AI agents, Wed Nov 11 2026. No macro, syntax, notation, axiom, sorry.
-/
import Derived.Test.YtlingfbmphaphaaDoorRows
import GoSem.ClaimSeven
namespace Go.Proofs.YtlingfbmphaphaaDoor
namespace Rows

/-- THE TIED CARD OF 'laws.FnDown'. -/
def fnDownCard : Claim7 := { stood := { row := fnDownRow, standIns := [], harness := (true, "ce07d7480cc9713a13824ab978ec8a8eb945b5f69935760ef1db167eae093de3"), looks := true }, kinds := [], alts := [], laidByText := true, laidKinds := [.sentinel], laidTests := true, laidLooks := .later }
def FnDownCardSaid : Prop := Claim7.holds Tryd.pinned (.plain (OpenSpec.ofChange fnDownSpec)) fnDownCard

/-- THE TIED CARD OF 'laws.FnDownRises'. -/
def fnDownRisesCard : Claim7 := { stood := { row := fnDownRisesRow, standIns := [], harness := (true, "ce07d7480cc9713a13824ab978ec8a8eb945b5f69935760ef1db167eae093de3"), looks := true }, kinds := [], alts := [], laidByText := true, laidKinds := [.sentinel], laidTests := true, laidLooks := .later }
def FnDownRisesCardSaid : Prop := Claim7.holds Tryd.pinned (.plain (OpenSpec.ofChange fnDownRisesSpec)) fnDownRisesCard

/-- THE TIED CARD OF 'laws.FnNear'. -/
def fnNearCard : Claim7 := { stood := { row := fnNearRow, standIns := [], harness := (true, "ce07d7480cc9713a13824ab978ec8a8eb945b5f69935760ef1db167eae093de3"), looks := true }, kinds := [], alts := [], laidByText := true, laidKinds := [.sentinel], laidTests := true, laidLooks := .later }
def FnNearCardSaid : Prop := Claim7.holds Tryd.pinned (.plain (OpenSpec.ofChange fnNearSpec)) fnNearCard

/-- THE TIED CARD OF 'laws.FnNearDown'. -/
def fnNearDownCard : Claim7 := { stood := { row := fnNearDownRow, standIns := [], harness := (true, "ce07d7480cc9713a13824ab978ec8a8eb945b5f69935760ef1db167eae093de3"), looks := true }, kinds := [], alts := [], laidByText := true, laidKinds := [.sentinel], laidTests := true, laidLooks := .later }
def FnNearDownCardSaid : Prop := Claim7.holds Tryd.pinned (.plain (OpenSpec.ofChange fnNearDownSpec)) fnNearDownCard

/-- THE TIED CARD OF 'laws.FnDraw'. -/
def fnDrawCard : Claim7 := { stood := { row := fnDrawRow, standIns := [], harness := (true, "ce07d7480cc9713a13824ab978ec8a8eb945b5f69935760ef1db167eae093de3"), looks := true }, kinds := [], alts := [], laidByText := true, laidKinds := [.sentinel], laidTests := true, laidLooks := .later }
def FnDrawCardSaid : Prop := Claim7.holds Tryd.pinned (.plain (OpenSpec.ofChange fnDrawSpec)) fnDrawCard

/-- THE TIED CARD OF 'laws.FnLow'. -/
def fnLowCard : Claim7 := { stood := { row := fnLowRow, standIns := [], harness := (true, "ce07d7480cc9713a13824ab978ec8a8eb945b5f69935760ef1db167eae093de3"), looks := true }, kinds := [], alts := [], laidByText := true, laidKinds := [.sentinel], laidTests := true, laidLooks := .later }
def FnLowCardSaid : Prop := Claim7.holds Tryd.pinned (.plain (OpenSpec.ofChange fnLowSpec)) fnLowCard

/-- THE TIED CARD OF 'laws.FnHigh'. -/
def fnHighCard : Claim7 := { stood := { row := fnHighRow, standIns := [], harness := (true, "ce07d7480cc9713a13824ab978ec8a8eb945b5f69935760ef1db167eae093de3"), looks := true }, kinds := [], alts := [], laidByText := true, laidKinds := [.sentinel], laidTests := true, laidLooks := .later }
def FnHighCardSaid : Prop := Claim7.holds Tryd.pinned (.plain (OpenSpec.ofChange fnHighSpec)) fnHighCard

/-- THE TIED CARD OF 'laws.FnRange'. -/
def fnRangeCard : Claim7 := { stood := { row := fnRangeRow, standIns := [], harness := (true, "ce07d7480cc9713a13824ab978ec8a8eb945b5f69935760ef1db167eae093de3"), looks := true }, kinds := [], alts := [], laidByText := true, laidKinds := [.sentinel], laidTests := true, laidLooks := .later }
def FnRangeCardSaid : Prop := Claim7.holds Tryd.pinned (.plain (OpenSpec.ofChange fnRangeSpec)) fnRangeCard

/-- THE TIED CARD OF 'laws.FnRangeWidth'. -/
def fnRangeWidthCard : Claim7 := { stood := { row := fnRangeWidthRow, standIns := [], harness := (true, "ce07d7480cc9713a13824ab978ec8a8eb945b5f69935760ef1db167eae093de3"), looks := true }, kinds := [], alts := [], laidByText := true, laidKinds := [.sentinel], laidTests := true, laidLooks := .later }
def FnRangeWidthCardSaid : Prop := Claim7.holds Tryd.pinned (.plain (OpenSpec.ofChange fnRangeWidthSpec)) fnRangeWidthCard

/-- THE TIED CARD OF 'laws.FnNearRises'. -/
def fnNearRisesCard : Claim7 := { stood := { row := fnNearRisesRow, standIns := [], harness := (true, "ce07d7480cc9713a13824ab978ec8a8eb945b5f69935760ef1db167eae093de3"), looks := true }, kinds := [], alts := [], laidByText := true, laidKinds := [.sentinel], laidTests := true, laidLooks := .later }
def FnNearRisesCardSaid : Prop := Claim7.holds Tryd.pinned (.plain (OpenSpec.ofChange fnNearRisesSpec)) fnNearRisesCard

/-- THE TIED CARD OF 'laws.FnDownAdd'. -/
def fnDownAddCard : Claim7 := { stood := { row := fnDownAddRow, standIns := [], harness := (true, "ce07d7480cc9713a13824ab978ec8a8eb945b5f69935760ef1db167eae093de3"), looks := true }, kinds := [], alts := [], laidByText := true, laidKinds := [.sentinel], laidTests := true, laidLooks := .later }
def FnDownAddCardSaid : Prop := Claim7.holds Tryd.pinned (.plain (OpenSpec.ofChange fnDownAddSpec)) fnDownAddCard

/-- THE SECOND FORM's CARD OF 'laws.FnDown'. -/
def fnDownUptoCard : Claim7 := { stood := { row := fnDownUptoRow, standIns := [], harness := (true, "ce07d7480cc9713a13824ab978ec8a8eb945b5f69935760ef1db167eae093de3"), looks := true }, kinds := [], alts := [], laidByText := true, laidKinds := [.sentinel], laidTests := true, laidLooks := .later }
def FnDownUptoCardSaid : Prop := Claim7.holds Tryd.pinned (.plain (OpenSpec.upto fnDownSpec)) fnDownUptoCard

/-- THE SECOND FORM's CARD OF 'laws.FnDownRises'. -/
def fnDownRisesUptoCard : Claim7 := { stood := { row := fnDownRisesUptoRow, standIns := [], harness := (true, "ce07d7480cc9713a13824ab978ec8a8eb945b5f69935760ef1db167eae093de3"), looks := true }, kinds := [], alts := [], laidByText := true, laidKinds := [.sentinel], laidTests := true, laidLooks := .later }
def FnDownRisesUptoCardSaid : Prop := Claim7.holds Tryd.pinned (.plain (OpenSpec.upto fnDownRisesSpec)) fnDownRisesUptoCard

/-- THE SECOND FORM's CARD OF 'laws.FnNear'. -/
def fnNearUptoCard : Claim7 := { stood := { row := fnNearUptoRow, standIns := [], harness := (true, "ce07d7480cc9713a13824ab978ec8a8eb945b5f69935760ef1db167eae093de3"), looks := true }, kinds := [], alts := [], laidByText := true, laidKinds := [.sentinel], laidTests := true, laidLooks := .later }
def FnNearUptoCardSaid : Prop := Claim7.holds Tryd.pinned (.plain (OpenSpec.upto fnNearSpec)) fnNearUptoCard

/-- THE SECOND FORM's CARD OF 'laws.FnNearDown'. -/
def fnNearDownUptoCard : Claim7 := { stood := { row := fnNearDownUptoRow, standIns := [], harness := (true, "ce07d7480cc9713a13824ab978ec8a8eb945b5f69935760ef1db167eae093de3"), looks := true }, kinds := [], alts := [], laidByText := true, laidKinds := [.sentinel], laidTests := true, laidLooks := .later }
def FnNearDownUptoCardSaid : Prop := Claim7.holds Tryd.pinned (.plain (OpenSpec.upto fnNearDownSpec)) fnNearDownUptoCard

/-- THE SECOND FORM's CARD OF 'laws.FnDraw'. -/
def fnDrawUptoCard : Claim7 := { stood := { row := fnDrawUptoRow, standIns := [], harness := (true, "ce07d7480cc9713a13824ab978ec8a8eb945b5f69935760ef1db167eae093de3"), looks := true }, kinds := [], alts := [], laidByText := true, laidKinds := [.sentinel], laidTests := true, laidLooks := .later }
def FnDrawUptoCardSaid : Prop := Claim7.holds Tryd.pinned (.plain (OpenSpec.upto fnDrawSpec)) fnDrawUptoCard

/-- THE SECOND FORM's CARD OF 'laws.FnLow'. -/
def fnLowUptoCard : Claim7 := { stood := { row := fnLowUptoRow, standIns := [], harness := (true, "ce07d7480cc9713a13824ab978ec8a8eb945b5f69935760ef1db167eae093de3"), looks := true }, kinds := [], alts := [], laidByText := true, laidKinds := [.sentinel], laidTests := true, laidLooks := .later }
def FnLowUptoCardSaid : Prop := Claim7.holds Tryd.pinned (.plain (OpenSpec.upto fnLowSpec)) fnLowUptoCard

/-- THE SECOND FORM's CARD OF 'laws.FnHigh'. -/
def fnHighUptoCard : Claim7 := { stood := { row := fnHighUptoRow, standIns := [], harness := (true, "ce07d7480cc9713a13824ab978ec8a8eb945b5f69935760ef1db167eae093de3"), looks := true }, kinds := [], alts := [], laidByText := true, laidKinds := [.sentinel], laidTests := true, laidLooks := .later }
def FnHighUptoCardSaid : Prop := Claim7.holds Tryd.pinned (.plain (OpenSpec.upto fnHighSpec)) fnHighUptoCard

/-- THE SECOND FORM's CARD OF 'laws.FnRange'. -/
def fnRangeUptoCard : Claim7 := { stood := { row := fnRangeUptoRow, standIns := [], harness := (true, "ce07d7480cc9713a13824ab978ec8a8eb945b5f69935760ef1db167eae093de3"), looks := true }, kinds := [], alts := [], laidByText := true, laidKinds := [.sentinel], laidTests := true, laidLooks := .later }
def FnRangeUptoCardSaid : Prop := Claim7.holds Tryd.pinned (.plain (OpenSpec.upto fnRangeSpec)) fnRangeUptoCard

/-- THE SECOND FORM's CARD OF 'laws.FnRangeWidth'. -/
def fnRangeWidthUptoCard : Claim7 := { stood := { row := fnRangeWidthUptoRow, standIns := [], harness := (true, "ce07d7480cc9713a13824ab978ec8a8eb945b5f69935760ef1db167eae093de3"), looks := true }, kinds := [], alts := [], laidByText := true, laidKinds := [.sentinel], laidTests := true, laidLooks := .later }
def FnRangeWidthUptoCardSaid : Prop := Claim7.holds Tryd.pinned (.plain (OpenSpec.upto fnRangeWidthSpec)) fnRangeWidthUptoCard

/-- THE SECOND FORM's CARD OF 'laws.FnNearRises'. -/
def fnNearRisesUptoCard : Claim7 := { stood := { row := fnNearRisesUptoRow, standIns := [], harness := (true, "ce07d7480cc9713a13824ab978ec8a8eb945b5f69935760ef1db167eae093de3"), looks := true }, kinds := [], alts := [], laidByText := true, laidKinds := [.sentinel], laidTests := true, laidLooks := .later }
def FnNearRisesUptoCardSaid : Prop := Claim7.holds Tryd.pinned (.plain (OpenSpec.upto fnNearRisesSpec)) fnNearRisesUptoCard

/-- THE SECOND FORM's CARD OF 'laws.FnDownAdd'. -/
def fnDownAddUptoCard : Claim7 := { stood := { row := fnDownAddUptoRow, standIns := [], harness := (true, "ce07d7480cc9713a13824ab978ec8a8eb945b5f69935760ef1db167eae093de3"), looks := true }, kinds := [], alts := [], laidByText := true, laidKinds := [.sentinel], laidTests := true, laidLooks := .later }
def FnDownAddUptoCardSaid : Prop := Claim7.holds Tryd.pinned (.plain (OpenSpec.upto fnDownAddSpec)) fnDownAddUptoCard
end Rows
end Go.Proofs.YtlingfbmphaphaaDoor
