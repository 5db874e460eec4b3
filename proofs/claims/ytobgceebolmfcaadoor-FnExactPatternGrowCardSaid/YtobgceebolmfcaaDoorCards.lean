/-
  DERIVED. GIVEN WITH THE SEED: THE CARDS: each row of YtobgceebolmfcaaDoorRows.lean that lists a variable, with what it lists TIED to the program's text (the seventh form; the later family's looks); each row that meets fmt, with fmt's text TOLD by the authors' own Lean function (tested against real Go, not proved from fmt's source: count such statements apart). THE CARD IS WHAT COUNTS. Prove the row's statement (the work); the ties are given (YtobgceebolmfcaaDoorTie.lean); close each card by the builder's one call (the guide's Derived/Test/ToyasCard.lean, 'card_holds'). Laid BY PROGRAM, IN A SANDBOX (cutbox-door.mjs). By AI agents, Wed Nov 11 2026. No macro, syntax, notation, axiom, sorry.
-/
import Derived.Test.YtobgceebolmfcaaDoorRows
import GoSem.ClaimSeven
namespace Go.Proofs.YtobgceebolmfcaaDoor
namespace Rows

/-- THE TIED CARD OF 'laws.FnPatternStep'. -/
def fnPatternStepCard : Claim7 := { stood := { row := fnPatternStepRow, standIns := [], harness := (true, "8e2f32e330c7b661cb67fb26f76cc6bd37c4300e81f716a5381f255da8ba3c9a"), looks := false }, kinds := [], alts := [], laidByText := true, laidKinds := [.data, .data], laidTests := true, laidLooks := .later }
def FnPatternStepCardSaid : Prop := Claim7.holds Tryd.pinned (.plain (OpenSpec.ofChange fnPatternStepSpec)) fnPatternStepCard

/-- THE TIED CARD OF 'laws.FnPatternStepRow'. -/
def fnPatternStepRowCard : Claim7 := { stood := { row := fnPatternStepRowRow, standIns := [], harness := (true, "8e2f32e330c7b661cb67fb26f76cc6bd37c4300e81f716a5381f255da8ba3c9a"), looks := false }, kinds := [], alts := [], laidByText := true, laidKinds := [.data, .data], laidTests := true, laidLooks := .later }
def FnPatternStepRowCardSaid : Prop := Claim7.holds Tryd.pinned (.plain (OpenSpec.ofChange fnPatternStepRowSpec)) fnPatternStepRowCard

/-- THE TIED CARD OF 'laws.FnPatternGrow'. -/
def fnPatternGrowCard : Claim7 := { stood := { row := fnPatternGrowRow, standIns := [], harness := (true, "8e2f32e330c7b661cb67fb26f76cc6bd37c4300e81f716a5381f255da8ba3c9a"), looks := false }, kinds := [], alts := [], laidByText := true, laidKinds := [.data, .data], laidTests := true, laidLooks := .later }
def FnPatternGrowCardSaid : Prop := Claim7.holds Tryd.pinned (.plain (OpenSpec.ofChange fnPatternGrowSpec)) fnPatternGrowCard

/-- THE TIED CARD OF 'laws.FnPatternGrowStep'. -/
def fnPatternGrowStepCard : Claim7 := { stood := { row := fnPatternGrowStepRow, standIns := [], harness := (true, "8e2f32e330c7b661cb67fb26f76cc6bd37c4300e81f716a5381f255da8ba3c9a"), looks := false }, kinds := [], alts := [], laidByText := true, laidKinds := [.data, .data], laidTests := true, laidLooks := .later }
def FnPatternGrowStepCardSaid : Prop := Claim7.holds Tryd.pinned (.plain (OpenSpec.ofChange fnPatternGrowStepSpec)) fnPatternGrowStepCard

/-- THE TIED CARD OF 'laws.FnPatternGrowNone'. -/
def fnPatternGrowNoneCard : Claim7 := { stood := { row := fnPatternGrowNoneRow, standIns := [], harness := (true, "8e2f32e330c7b661cb67fb26f76cc6bd37c4300e81f716a5381f255da8ba3c9a"), looks := false }, kinds := [], alts := [], laidByText := true, laidKinds := [.data, .data], laidTests := true, laidLooks := .later }
def FnPatternGrowNoneCardSaid : Prop := Claim7.holds Tryd.pinned (.plain (OpenSpec.ofChange fnPatternGrowNoneSpec)) fnPatternGrowNoneCard

/-- THE TIED CARD OF 'laws.FnPatternFail'. -/
def fnPatternFailCard : Claim7 := { stood := { row := fnPatternFailRow, standIns := [], harness := (true, "8e2f32e330c7b661cb67fb26f76cc6bd37c4300e81f716a5381f255da8ba3c9a"), looks := false }, kinds := [], alts := [], laidByText := true, laidKinds := [.data, .data], laidTests := true, laidLooks := .later }
def FnPatternFailCardSaid : Prop := Claim7.holds Tryd.pinned (.plain (OpenSpec.ofChange fnPatternFailSpec)) fnPatternFailCard

/-- THE TIED CARD OF 'laws.FnPatternCostGrow'. -/
def fnPatternCostGrowCard : Claim7 := { stood := { row := fnPatternCostGrowRow, standIns := [], harness := (true, "8e2f32e330c7b661cb67fb26f76cc6bd37c4300e81f716a5381f255da8ba3c9a"), looks := false }, kinds := [], alts := [], laidByText := true, laidKinds := [.data, .data], laidTests := true, laidLooks := .later }
def FnPatternCostGrowCardSaid : Prop := Claim7.holds Tryd.pinned (.plain (OpenSpec.ofChange fnPatternCostGrowSpec)) fnPatternCostGrowCard

/-- THE TIED CARD OF 'laws.FnPatternLine'. -/
def fnPatternLineCard : Claim7 := { stood := { row := fnPatternLineRow, standIns := [], harness := (true, "8e2f32e330c7b661cb67fb26f76cc6bd37c4300e81f716a5381f255da8ba3c9a"), looks := false }, kinds := [], alts := [], laidByText := true, laidKinds := [.data, .data], laidTests := true, laidLooks := .later }
def FnPatternLineCardSaid : Prop := Claim7.holds Tryd.pinned (.plain (OpenSpec.ofChange fnPatternLineSpec)) fnPatternLineCard

/-- THE TIED CARD OF 'laws.FnExactPatternStep'. -/
def fnExactPatternStepCard : Claim7 := { stood := { row := fnExactPatternStepRow, standIns := [], harness := (true, "8e2f32e330c7b661cb67fb26f76cc6bd37c4300e81f716a5381f255da8ba3c9a"), looks := false }, kinds := [], alts := [], laidByText := true, laidKinds := [.data, .data], laidTests := true, laidLooks := .later }
def FnExactPatternStepCardSaid : Prop := Claim7.holds Tryd.pinned (.plain (OpenSpec.ofChange fnExactPatternStepSpec)) fnExactPatternStepCard

/-- THE TIED CARD OF 'laws.FnExactPatternGrow'. -/
def fnExactPatternGrowCard : Claim7 := { stood := { row := fnExactPatternGrowRow, standIns := [], harness := (true, "8e2f32e330c7b661cb67fb26f76cc6bd37c4300e81f716a5381f255da8ba3c9a"), looks := false }, kinds := [], alts := [], laidByText := true, laidKinds := [.data, .data], laidTests := true, laidLooks := .later }
def FnExactPatternGrowCardSaid : Prop := Claim7.holds Tryd.pinned (.plain (OpenSpec.ofChange fnExactPatternGrowSpec)) fnExactPatternGrowCard

/-- THE SECOND FORM's CARD OF 'laws.FnPatternStep'. -/
def fnPatternStepUptoCard : Claim7 := { stood := { row := fnPatternStepUptoRow, standIns := [], harness := (true, "8e2f32e330c7b661cb67fb26f76cc6bd37c4300e81f716a5381f255da8ba3c9a"), looks := false }, kinds := [], alts := [], laidByText := true, laidKinds := [.data, .data], laidTests := true, laidLooks := .later }
def FnPatternStepUptoCardSaid : Prop := Claim7.holds Tryd.pinned (.plain (OpenSpec.upto fnPatternStepSpec)) fnPatternStepUptoCard

/-- THE SECOND FORM's CARD OF 'laws.FnPatternStepRow'. -/
def fnPatternStepRowUptoCard : Claim7 := { stood := { row := fnPatternStepRowUptoRow, standIns := [], harness := (true, "8e2f32e330c7b661cb67fb26f76cc6bd37c4300e81f716a5381f255da8ba3c9a"), looks := false }, kinds := [], alts := [], laidByText := true, laidKinds := [.data, .data], laidTests := true, laidLooks := .later }
def FnPatternStepRowUptoCardSaid : Prop := Claim7.holds Tryd.pinned (.plain (OpenSpec.upto fnPatternStepRowSpec)) fnPatternStepRowUptoCard

/-- THE SECOND FORM's CARD OF 'laws.FnPatternGrow'. -/
def fnPatternGrowUptoCard : Claim7 := { stood := { row := fnPatternGrowUptoRow, standIns := [], harness := (true, "8e2f32e330c7b661cb67fb26f76cc6bd37c4300e81f716a5381f255da8ba3c9a"), looks := false }, kinds := [], alts := [], laidByText := true, laidKinds := [.data, .data], laidTests := true, laidLooks := .later }
def FnPatternGrowUptoCardSaid : Prop := Claim7.holds Tryd.pinned (.plain (OpenSpec.upto fnPatternGrowSpec)) fnPatternGrowUptoCard

/-- THE SECOND FORM's CARD OF 'laws.FnPatternGrowStep'. -/
def fnPatternGrowStepUptoCard : Claim7 := { stood := { row := fnPatternGrowStepUptoRow, standIns := [], harness := (true, "8e2f32e330c7b661cb67fb26f76cc6bd37c4300e81f716a5381f255da8ba3c9a"), looks := false }, kinds := [], alts := [], laidByText := true, laidKinds := [.data, .data], laidTests := true, laidLooks := .later }
def FnPatternGrowStepUptoCardSaid : Prop := Claim7.holds Tryd.pinned (.plain (OpenSpec.upto fnPatternGrowStepSpec)) fnPatternGrowStepUptoCard

/-- THE SECOND FORM's CARD OF 'laws.FnPatternGrowNone'. -/
def fnPatternGrowNoneUptoCard : Claim7 := { stood := { row := fnPatternGrowNoneUptoRow, standIns := [], harness := (true, "8e2f32e330c7b661cb67fb26f76cc6bd37c4300e81f716a5381f255da8ba3c9a"), looks := false }, kinds := [], alts := [], laidByText := true, laidKinds := [.data, .data], laidTests := true, laidLooks := .later }
def FnPatternGrowNoneUptoCardSaid : Prop := Claim7.holds Tryd.pinned (.plain (OpenSpec.upto fnPatternGrowNoneSpec)) fnPatternGrowNoneUptoCard

/-- THE SECOND FORM's CARD OF 'laws.FnPatternFail'. -/
def fnPatternFailUptoCard : Claim7 := { stood := { row := fnPatternFailUptoRow, standIns := [], harness := (true, "8e2f32e330c7b661cb67fb26f76cc6bd37c4300e81f716a5381f255da8ba3c9a"), looks := false }, kinds := [], alts := [], laidByText := true, laidKinds := [.data, .data], laidTests := true, laidLooks := .later }
def FnPatternFailUptoCardSaid : Prop := Claim7.holds Tryd.pinned (.plain (OpenSpec.upto fnPatternFailSpec)) fnPatternFailUptoCard

/-- THE SECOND FORM's CARD OF 'laws.FnPatternCostGrow'. -/
def fnPatternCostGrowUptoCard : Claim7 := { stood := { row := fnPatternCostGrowUptoRow, standIns := [], harness := (true, "8e2f32e330c7b661cb67fb26f76cc6bd37c4300e81f716a5381f255da8ba3c9a"), looks := false }, kinds := [], alts := [], laidByText := true, laidKinds := [.data, .data], laidTests := true, laidLooks := .later }
def FnPatternCostGrowUptoCardSaid : Prop := Claim7.holds Tryd.pinned (.plain (OpenSpec.upto fnPatternCostGrowSpec)) fnPatternCostGrowUptoCard

/-- THE SECOND FORM's CARD OF 'laws.FnPatternLine'. -/
def fnPatternLineUptoCard : Claim7 := { stood := { row := fnPatternLineUptoRow, standIns := [], harness := (true, "8e2f32e330c7b661cb67fb26f76cc6bd37c4300e81f716a5381f255da8ba3c9a"), looks := false }, kinds := [], alts := [], laidByText := true, laidKinds := [.data, .data], laidTests := true, laidLooks := .later }
def FnPatternLineUptoCardSaid : Prop := Claim7.holds Tryd.pinned (.plain (OpenSpec.upto fnPatternLineSpec)) fnPatternLineUptoCard

/-- THE SECOND FORM's CARD OF 'laws.FnExactPatternStep'. -/
def fnExactPatternStepUptoCard : Claim7 := { stood := { row := fnExactPatternStepUptoRow, standIns := [], harness := (true, "8e2f32e330c7b661cb67fb26f76cc6bd37c4300e81f716a5381f255da8ba3c9a"), looks := false }, kinds := [], alts := [], laidByText := true, laidKinds := [.data, .data], laidTests := true, laidLooks := .later }
def FnExactPatternStepUptoCardSaid : Prop := Claim7.holds Tryd.pinned (.plain (OpenSpec.upto fnExactPatternStepSpec)) fnExactPatternStepUptoCard

/-- THE SECOND FORM's CARD OF 'laws.FnExactPatternGrow'. -/
def fnExactPatternGrowUptoCard : Claim7 := { stood := { row := fnExactPatternGrowUptoRow, standIns := [], harness := (true, "8e2f32e330c7b661cb67fb26f76cc6bd37c4300e81f716a5381f255da8ba3c9a"), looks := false }, kinds := [], alts := [], laidByText := true, laidKinds := [.data, .data], laidTests := true, laidLooks := .later }
def FnExactPatternGrowUptoCardSaid : Prop := Claim7.holds Tryd.pinned (.plain (OpenSpec.upto fnExactPatternGrowSpec)) fnExactPatternGrowUptoCard
end Rows
end Go.Proofs.YtobgceebolmfcaaDoor
