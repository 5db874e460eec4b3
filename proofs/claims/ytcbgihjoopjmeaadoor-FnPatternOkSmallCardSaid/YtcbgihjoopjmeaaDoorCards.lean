/-
  DERIVED. GIVEN WITH THE SEED: THE CARDS: each row of YtcbgihjoopjmeaaDoorRows.lean that lists a variable, with what it lists TIED to the program's text (the seventh form; the later family's looks); each row that meets fmt, with fmt's text TOLD by the authors' own Lean function (tested against real Go, not proved from fmt's source: count such statements apart). THE CARD IS WHAT COUNTS. Prove the row's statement (the work); the ties are given (YtcbgihjoopjmeaaDoorTie.lean); close each card by the builder's one call (the guide's Derived/Test/ToyasCard.lean, 'card_holds'). Laid BY PROGRAM, IN A SANDBOX (cutbox-door.mjs). By AI agents, Wed Nov 11 2026. No macro, syntax, notation, axiom, sorry.
-/
import Derived.Test.YtcbgihjoopjmeaaDoorRows
import GoSem.ClaimSeven
namespace Go.Proofs.YtcbgihjoopjmeaaDoor
namespace Rows

/-- THE TIED CARD OF 'laws.FnPatternOk'. -/
def fnPatternOkCard : Claim7 := { stood := { row := fnPatternOkRow, standIns := [], harness := (true, "0e030559c88aaf47c418c3cec1374cee05c50e4577d6940e4abbc07a9c584c4c"), looks := false }, kinds := [], alts := [], laidByText := true, laidKinds := [.data, .data], laidTests := true, laidLooks := .later }
def FnPatternOkCardSaid : Prop := Claim7.holds Tryd.pinned (.plain (OpenSpec.ofChange fnPatternOkSpec)) fnPatternOkCard

/-- THE TIED CARD OF 'laws.FnPatternNeed'. -/
def fnPatternNeedCard : Claim7 := { stood := { row := fnPatternNeedRow, standIns := [], harness := (true, "0e030559c88aaf47c418c3cec1374cee05c50e4577d6940e4abbc07a9c584c4c"), looks := false }, kinds := [], alts := [], laidByText := true, laidKinds := [.data, .data], laidTests := true, laidLooks := .later }
def FnPatternNeedCardSaid : Prop := Claim7.holds Tryd.pinned (.plain (OpenSpec.ofChange fnPatternNeedSpec)) fnPatternNeedCard

/-- THE TIED CARD OF 'laws.FnPatternOkTurn'. -/
def fnPatternOkTurnCard : Claim7 := { stood := { row := fnPatternOkTurnRow, standIns := [], harness := (true, "0e030559c88aaf47c418c3cec1374cee05c50e4577d6940e4abbc07a9c584c4c"), looks := false }, kinds := [], alts := [], laidByText := true, laidKinds := [.data, .data], laidTests := true, laidLooks := .later }
def FnPatternOkTurnCardSaid : Prop := Claim7.holds Tryd.pinned (.plain (OpenSpec.ofChange fnPatternOkTurnSpec)) fnPatternOkTurnCard

/-- THE TIED CARD OF 'laws.FnPatternNeedMore'. -/
def fnPatternNeedMoreCard : Claim7 := { stood := { row := fnPatternNeedMoreRow, standIns := [], harness := (true, "0e030559c88aaf47c418c3cec1374cee05c50e4577d6940e4abbc07a9c584c4c"), looks := false }, kinds := [], alts := [], laidByText := true, laidKinds := [.data, .data], laidTests := true, laidLooks := .later }
def FnPatternNeedMoreCardSaid : Prop := Claim7.holds Tryd.pinned (.plain (OpenSpec.ofChange fnPatternNeedMoreSpec)) fnPatternNeedMoreCard

/-- THE TIED CARD OF 'laws.FnPatternOkSmall'. -/
def fnPatternOkSmallCard : Claim7 := { stood := { row := fnPatternOkSmallRow, standIns := [], harness := (true, "0e030559c88aaf47c418c3cec1374cee05c50e4577d6940e4abbc07a9c584c4c"), looks := false }, kinds := [], alts := [], laidByText := true, laidKinds := [.data, .data], laidTests := true, laidLooks := .later }
def FnPatternOkSmallCardSaid : Prop := Claim7.holds Tryd.pinned (.plain (OpenSpec.ofChange fnPatternOkSmallSpec)) fnPatternOkSmallCard

/-- THE TIED CARD OF 'laws.FnPatternNeedNone'. -/
def fnPatternNeedNoneCard : Claim7 := { stood := { row := fnPatternNeedNoneRow, standIns := [], harness := (true, "0e030559c88aaf47c418c3cec1374cee05c50e4577d6940e4abbc07a9c584c4c"), looks := false }, kinds := [], alts := [], laidByText := true, laidKinds := [.data, .data], laidTests := true, laidLooks := .later }
def FnPatternNeedNoneCardSaid : Prop := Claim7.holds Tryd.pinned (.plain (OpenSpec.ofChange fnPatternNeedNoneSpec)) fnPatternNeedNoneCard

/-- THE TIED CARD OF 'laws.FnExactPatternSafe'. -/
def fnExactPatternSafeCard : Claim7 := { stood := { row := fnExactPatternSafeRow, standIns := [], harness := (true, "0e030559c88aaf47c418c3cec1374cee05c50e4577d6940e4abbc07a9c584c4c"), looks := false }, kinds := [], alts := [], laidByText := true, laidKinds := [.data, .data], laidTests := true, laidLooks := .later }
def FnExactPatternSafeCardSaid : Prop := Claim7.holds Tryd.pinned (.plain (OpenSpec.ofChange fnExactPatternSafeSpec)) fnExactPatternSafeCard

/-- THE TIED CARD OF 'laws.FnExactPatternNeed'. -/
def fnExactPatternNeedCard : Claim7 := { stood := { row := fnExactPatternNeedRow, standIns := [], harness := (true, "0e030559c88aaf47c418c3cec1374cee05c50e4577d6940e4abbc07a9c584c4c"), looks := false }, kinds := [], alts := [], laidByText := true, laidKinds := [.data, .data], laidTests := true, laidLooks := .later }
def FnExactPatternNeedCardSaid : Prop := Claim7.holds Tryd.pinned (.plain (OpenSpec.ofChange fnExactPatternNeedSpec)) fnExactPatternNeedCard

/-- THE TIED CARD OF 'laws.FnExactPatternOk'. -/
def fnExactPatternOkCard : Claim7 := { stood := { row := fnExactPatternOkRow, standIns := [], harness := (true, "0e030559c88aaf47c418c3cec1374cee05c50e4577d6940e4abbc07a9c584c4c"), looks := false }, kinds := [], alts := [], laidByText := true, laidKinds := [.data, .data], laidTests := true, laidLooks := .later }
def FnExactPatternOkCardSaid : Prop := Claim7.holds Tryd.pinned (.plain (OpenSpec.ofChange fnExactPatternOkSpec)) fnExactPatternOkCard

/-- THE TIED CARD OF 'laws.FnExactPatternCost'. -/
def fnExactPatternCostCard : Claim7 := { stood := { row := fnExactPatternCostRow, standIns := [], harness := (true, "0e030559c88aaf47c418c3cec1374cee05c50e4577d6940e4abbc07a9c584c4c"), looks := false }, kinds := [], alts := [], laidByText := true, laidKinds := [.data, .data], laidTests := true, laidLooks := .later }
def FnExactPatternCostCardSaid : Prop := Claim7.holds Tryd.pinned (.plain (OpenSpec.ofChange fnExactPatternCostSpec)) fnExactPatternCostCard

/-- THE SECOND FORM's CARD OF 'laws.FnPatternOk'. -/
def fnPatternOkUptoCard : Claim7 := { stood := { row := fnPatternOkUptoRow, standIns := [], harness := (true, "0e030559c88aaf47c418c3cec1374cee05c50e4577d6940e4abbc07a9c584c4c"), looks := false }, kinds := [], alts := [], laidByText := true, laidKinds := [.data, .data], laidTests := true, laidLooks := .later }
def FnPatternOkUptoCardSaid : Prop := Claim7.holds Tryd.pinned (.plain (OpenSpec.upto fnPatternOkSpec)) fnPatternOkUptoCard

/-- THE SECOND FORM's CARD OF 'laws.FnPatternNeed'. -/
def fnPatternNeedUptoCard : Claim7 := { stood := { row := fnPatternNeedUptoRow, standIns := [], harness := (true, "0e030559c88aaf47c418c3cec1374cee05c50e4577d6940e4abbc07a9c584c4c"), looks := false }, kinds := [], alts := [], laidByText := true, laidKinds := [.data, .data], laidTests := true, laidLooks := .later }
def FnPatternNeedUptoCardSaid : Prop := Claim7.holds Tryd.pinned (.plain (OpenSpec.upto fnPatternNeedSpec)) fnPatternNeedUptoCard

/-- THE SECOND FORM's CARD OF 'laws.FnPatternOkTurn'. -/
def fnPatternOkTurnUptoCard : Claim7 := { stood := { row := fnPatternOkTurnUptoRow, standIns := [], harness := (true, "0e030559c88aaf47c418c3cec1374cee05c50e4577d6940e4abbc07a9c584c4c"), looks := false }, kinds := [], alts := [], laidByText := true, laidKinds := [.data, .data], laidTests := true, laidLooks := .later }
def FnPatternOkTurnUptoCardSaid : Prop := Claim7.holds Tryd.pinned (.plain (OpenSpec.upto fnPatternOkTurnSpec)) fnPatternOkTurnUptoCard

/-- THE SECOND FORM's CARD OF 'laws.FnPatternNeedMore'. -/
def fnPatternNeedMoreUptoCard : Claim7 := { stood := { row := fnPatternNeedMoreUptoRow, standIns := [], harness := (true, "0e030559c88aaf47c418c3cec1374cee05c50e4577d6940e4abbc07a9c584c4c"), looks := false }, kinds := [], alts := [], laidByText := true, laidKinds := [.data, .data], laidTests := true, laidLooks := .later }
def FnPatternNeedMoreUptoCardSaid : Prop := Claim7.holds Tryd.pinned (.plain (OpenSpec.upto fnPatternNeedMoreSpec)) fnPatternNeedMoreUptoCard

/-- THE SECOND FORM's CARD OF 'laws.FnPatternOkSmall'. -/
def fnPatternOkSmallUptoCard : Claim7 := { stood := { row := fnPatternOkSmallUptoRow, standIns := [], harness := (true, "0e030559c88aaf47c418c3cec1374cee05c50e4577d6940e4abbc07a9c584c4c"), looks := false }, kinds := [], alts := [], laidByText := true, laidKinds := [.data, .data], laidTests := true, laidLooks := .later }
def FnPatternOkSmallUptoCardSaid : Prop := Claim7.holds Tryd.pinned (.plain (OpenSpec.upto fnPatternOkSmallSpec)) fnPatternOkSmallUptoCard

/-- THE SECOND FORM's CARD OF 'laws.FnPatternNeedNone'. -/
def fnPatternNeedNoneUptoCard : Claim7 := { stood := { row := fnPatternNeedNoneUptoRow, standIns := [], harness := (true, "0e030559c88aaf47c418c3cec1374cee05c50e4577d6940e4abbc07a9c584c4c"), looks := false }, kinds := [], alts := [], laidByText := true, laidKinds := [.data, .data], laidTests := true, laidLooks := .later }
def FnPatternNeedNoneUptoCardSaid : Prop := Claim7.holds Tryd.pinned (.plain (OpenSpec.upto fnPatternNeedNoneSpec)) fnPatternNeedNoneUptoCard

/-- THE SECOND FORM's CARD OF 'laws.FnExactPatternSafe'. -/
def fnExactPatternSafeUptoCard : Claim7 := { stood := { row := fnExactPatternSafeUptoRow, standIns := [], harness := (true, "0e030559c88aaf47c418c3cec1374cee05c50e4577d6940e4abbc07a9c584c4c"), looks := false }, kinds := [], alts := [], laidByText := true, laidKinds := [.data, .data], laidTests := true, laidLooks := .later }
def FnExactPatternSafeUptoCardSaid : Prop := Claim7.holds Tryd.pinned (.plain (OpenSpec.upto fnExactPatternSafeSpec)) fnExactPatternSafeUptoCard

/-- THE SECOND FORM's CARD OF 'laws.FnExactPatternNeed'. -/
def fnExactPatternNeedUptoCard : Claim7 := { stood := { row := fnExactPatternNeedUptoRow, standIns := [], harness := (true, "0e030559c88aaf47c418c3cec1374cee05c50e4577d6940e4abbc07a9c584c4c"), looks := false }, kinds := [], alts := [], laidByText := true, laidKinds := [.data, .data], laidTests := true, laidLooks := .later }
def FnExactPatternNeedUptoCardSaid : Prop := Claim7.holds Tryd.pinned (.plain (OpenSpec.upto fnExactPatternNeedSpec)) fnExactPatternNeedUptoCard

/-- THE SECOND FORM's CARD OF 'laws.FnExactPatternOk'. -/
def fnExactPatternOkUptoCard : Claim7 := { stood := { row := fnExactPatternOkUptoRow, standIns := [], harness := (true, "0e030559c88aaf47c418c3cec1374cee05c50e4577d6940e4abbc07a9c584c4c"), looks := false }, kinds := [], alts := [], laidByText := true, laidKinds := [.data, .data], laidTests := true, laidLooks := .later }
def FnExactPatternOkUptoCardSaid : Prop := Claim7.holds Tryd.pinned (.plain (OpenSpec.upto fnExactPatternOkSpec)) fnExactPatternOkUptoCard

/-- THE SECOND FORM's CARD OF 'laws.FnExactPatternCost'. -/
def fnExactPatternCostUptoCard : Claim7 := { stood := { row := fnExactPatternCostUptoRow, standIns := [], harness := (true, "0e030559c88aaf47c418c3cec1374cee05c50e4577d6940e4abbc07a9c584c4c"), looks := false }, kinds := [], alts := [], laidByText := true, laidKinds := [.data, .data], laidTests := true, laidLooks := .later }
def FnExactPatternCostUptoCardSaid : Prop := Claim7.holds Tryd.pinned (.plain (OpenSpec.upto fnExactPatternCostSpec)) fnExactPatternCostUptoCard
end Rows
end Go.Proofs.YtcbgihjoopjmeaaDoor
