/-
  DERIVED. GIVEN WITH THE SEED: THE CARDS: each row of YtdjjkfhdgnlkeaaDoorRows.lean that lists a variable, with what it lists TIED to the program's text (the seventh form; the later family's looks); each row that meets fmt, with fmt's text TOLD by the authors' own Lean function (tested against real Go, not proved from fmt's source: count such statements apart). THE CARD IS WHAT COUNTS. Prove the row's statement (the work); the ties are given (YtdjjkfhdgnlkeaaDoorTie.lean); close each card by the builder's one call (the guide's Derived/Test/ToyasCard.lean, 'card_holds'). Laid BY PROGRAM, IN A SANDBOX (cutbox-door.mjs). By AI agents, Wed Nov 11 2026. No macro, syntax, notation, axiom, sorry.
-/
import Derived.Test.YtdjjkfhdgnlkeaaDoorRows
import GoSem.ClaimSeven
namespace Go.Proofs.YtdjjkfhdgnlkeaaDoor
namespace Rows

/-- THE TIED CARD OF 'laws.FnSafe'. -/
def fnSafeCard : Claim7 := { stood := { row := fnSafeRow, standIns := [], harness := (true, "f787ec2eb7a3c61599b474558012a6be64ee6d60d1a242b958f1819beaed0d9b"), looks := false }, kinds := [], alts := [], laidByText := true, laidKinds := [.data, .data], laidTests := true, laidLooks := .later }
def FnSafeCardSaid : Prop := Claim7.holds Tryd.pinned (.plain (OpenSpec.ofChange fnSafeSpec)) fnSafeCard

/-- THE TIED CARD OF 'laws.FnSafeMore'. -/
def fnSafeMoreCard : Claim7 := { stood := { row := fnSafeMoreRow, standIns := [], harness := (true, "f787ec2eb7a3c61599b474558012a6be64ee6d60d1a242b958f1819beaed0d9b"), looks := false }, kinds := [], alts := [], laidByText := true, laidKinds := [.data, .data], laidTests := true, laidLooks := .later }
def FnSafeMoreCardSaid : Prop := Claim7.holds Tryd.pinned (.plain (OpenSpec.ofChange fnSafeMoreSpec)) fnSafeMoreCard

/-- THE TIED CARD OF 'laws.FnSafeTurn'. -/
def fnSafeTurnCard : Claim7 := { stood := { row := fnSafeTurnRow, standIns := [], harness := (true, "f787ec2eb7a3c61599b474558012a6be64ee6d60d1a242b958f1819beaed0d9b"), looks := false }, kinds := [], alts := [], laidByText := true, laidKinds := [.data, .data], laidTests := true, laidLooks := .later }
def FnSafeTurnCardSaid : Prop := Claim7.holds Tryd.pinned (.plain (OpenSpec.ofChange fnSafeTurnSpec)) fnSafeTurnCard

/-- THE TIED CARD OF 'laws.FnSafeNone'. -/
def fnSafeNoneCard : Claim7 := { stood := { row := fnSafeNoneRow, standIns := [], harness := (true, "f787ec2eb7a3c61599b474558012a6be64ee6d60d1a242b958f1819beaed0d9b"), looks := false }, kinds := [], alts := [], laidByText := true, laidKinds := [.data, .data], laidTests := true, laidLooks := .later }
def FnSafeNoneCardSaid : Prop := Claim7.holds Tryd.pinned (.plain (OpenSpec.ofChange fnSafeNoneSpec)) fnSafeNoneCard

/-- THE TIED CARD OF 'laws.FnPatternCost'. -/
def fnPatternCostCard : Claim7 := { stood := { row := fnPatternCostRow, standIns := [], harness := (true, "f787ec2eb7a3c61599b474558012a6be64ee6d60d1a242b958f1819beaed0d9b"), looks := false }, kinds := [], alts := [], laidByText := true, laidKinds := [.data, .data], laidTests := true, laidLooks := .later }
def FnPatternCostCardSaid : Prop := Claim7.holds Tryd.pinned (.plain (OpenSpec.ofChange fnPatternCostSpec)) fnPatternCostCard

/-- THE SECOND FORM's CARD OF 'laws.FnSafe'. -/
def fnSafeUptoCard : Claim7 := { stood := { row := fnSafeUptoRow, standIns := [], harness := (true, "f787ec2eb7a3c61599b474558012a6be64ee6d60d1a242b958f1819beaed0d9b"), looks := false }, kinds := [], alts := [], laidByText := true, laidKinds := [.data, .data], laidTests := true, laidLooks := .later }
def FnSafeUptoCardSaid : Prop := Claim7.holds Tryd.pinned (.plain (OpenSpec.upto fnSafeSpec)) fnSafeUptoCard

/-- THE SECOND FORM's CARD OF 'laws.FnSafeMore'. -/
def fnSafeMoreUptoCard : Claim7 := { stood := { row := fnSafeMoreUptoRow, standIns := [], harness := (true, "f787ec2eb7a3c61599b474558012a6be64ee6d60d1a242b958f1819beaed0d9b"), looks := false }, kinds := [], alts := [], laidByText := true, laidKinds := [.data, .data], laidTests := true, laidLooks := .later }
def FnSafeMoreUptoCardSaid : Prop := Claim7.holds Tryd.pinned (.plain (OpenSpec.upto fnSafeMoreSpec)) fnSafeMoreUptoCard

/-- THE SECOND FORM's CARD OF 'laws.FnSafeTurn'. -/
def fnSafeTurnUptoCard : Claim7 := { stood := { row := fnSafeTurnUptoRow, standIns := [], harness := (true, "f787ec2eb7a3c61599b474558012a6be64ee6d60d1a242b958f1819beaed0d9b"), looks := false }, kinds := [], alts := [], laidByText := true, laidKinds := [.data, .data], laidTests := true, laidLooks := .later }
def FnSafeTurnUptoCardSaid : Prop := Claim7.holds Tryd.pinned (.plain (OpenSpec.upto fnSafeTurnSpec)) fnSafeTurnUptoCard

/-- THE SECOND FORM's CARD OF 'laws.FnSafeNone'. -/
def fnSafeNoneUptoCard : Claim7 := { stood := { row := fnSafeNoneUptoRow, standIns := [], harness := (true, "f787ec2eb7a3c61599b474558012a6be64ee6d60d1a242b958f1819beaed0d9b"), looks := false }, kinds := [], alts := [], laidByText := true, laidKinds := [.data, .data], laidTests := true, laidLooks := .later }
def FnSafeNoneUptoCardSaid : Prop := Claim7.holds Tryd.pinned (.plain (OpenSpec.upto fnSafeNoneSpec)) fnSafeNoneUptoCard

/-- THE SECOND FORM's CARD OF 'laws.FnPatternCost'. -/
def fnPatternCostUptoCard : Claim7 := { stood := { row := fnPatternCostUptoRow, standIns := [], harness := (true, "f787ec2eb7a3c61599b474558012a6be64ee6d60d1a242b958f1819beaed0d9b"), looks := false }, kinds := [], alts := [], laidByText := true, laidKinds := [.data, .data], laidTests := true, laidLooks := .later }
def FnPatternCostUptoCardSaid : Prop := Claim7.holds Tryd.pinned (.plain (OpenSpec.upto fnPatternCostSpec)) fnPatternCostUptoCard
end Rows
end Go.Proofs.YtdjjkfhdgnlkeaaDoor
