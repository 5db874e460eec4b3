/- What the laws of ladders and of merging say of all ladders: reckoned over all of them. -/
import Derived.Test.YtbngajmpeepnmaaL0
namespace Go.Proofs.Ytbngajmpeepnmaa
def lastOf (ll : List (List Int)) : List Int := if ll.length = 0 then [0, 1, 2, 3] else ll.getD (ll.length - 1) []
def pTwice (ll : List (List Int)) : Bool := ((List.range (ll.length + 1)).all fun k => ladOk (ll.take k)) && (ladOk (ll ++ [lastOf ll]) == decide (ll.length < 3))
set_option maxRecDepth 100000 in
theorem pTwice_all : lads.all pTwice = true := by decide +kernel
theorem m_twice {ll : List (List Int)} (h : ladOk ll = true) : (∀ k, k ≤ ll.length → ladOk (ll.take k) = true) ∧ ladOk (ll ++ [lastOf ll]) = decide (ll.length < 3) := by
  have hp := by_one pTwice pTwice_all h
  simp only [pTwice, Bool.and_eq_true, List.all_eq_true, List.mem_range, beq_iff_eq] at hp
  exact ⟨fun k hk => hp.1 k (by omega), hp.2⟩
def pFlat (ll : List (List Int)) : Bool :=
  if ll.length = 3 then decide (lgroups ll 0 = 4) else ladOk ([[0, 1, 2, 3]] ++ ll) && ladOk (ll ++ [[0, 0, 0, 0]]) && decide (lgroups (ll ++ [[0, 0, 0, 0]]) (ll.length + 1) = 1)
set_option maxRecDepth 100000 in
theorem pFlat_all : lads.all pFlat = true := by decide +kernel
theorem m_flat3 {ll : List (List Int)} (h : ladOk ll = true) (h3 : ll.length = 3) : lgroups ll 0 = 4 := by
  have hp := by_one pFlat pFlat_all h
  rw [pFlat, if_pos h3] at hp
  simpa using hp
theorem m_flat {ll : List (List Int)} (h : ladOk ll = true) (h3 : ll.length ≠ 3) : ladOk ([[0, 1, 2, 3]] ++ ll) = true ∧ ladOk (ll ++ [[0, 0, 0, 0]]) = true ∧ lgroups (ll ++ [[0, 0, 0, 0]]) (ll.length + 1) = 1 := by
  have hp := by_one pFlat pFlat_all h
  rw [pFlat, if_neg h3] at hp
  simp only [Bool.and_eq_true, decide_eq_true_eq] at hp
  exact ⟨hp.1.1, hp.1.2, hp.2⟩
theorem lad_len3 {ll : List (List Int)} (h : ladOk ll = true) : ll.length ≤ 3 := by
  simp only [ladOk, Bool.and_eq_true, decide_eq_true_eq] at h; exact h.1
theorem mergeOk_in {ll : List (List Int)} {a b : Int} (h : mergeOk ll a b = true) : ladOk ll = true ∧ 0 ≤ a ∧ a ≤ 3 ∧ 0 ≤ b ∧ b ≤ 3 ∧ ll.length ≠ 3 := by
  simp only [mergeOk, in3, Bool.and_eq_true, Bool.not_eq_true', decide_eq_true_eq, decide_eq_false_iff_not] at h
  exact ⟨h.1.1.1.1, h.1.1.2.1, h.1.1.2.2, h.1.2.1, h.1.2.2, h.1.1.1.2⟩
/-- One more group of rows, and what has become of them: for the law of a merge. -/
def pMerge (ll : List (List Int)) (a b : Int) : Bool :=
  if mergeOk ll a b = true then
    let m := lmerge ll a b
    let n : Int := ll.length
    codeOk m (n + 1) a && codeOk m (n + 1) b && decide (lcode m (n + 1) a = lcode m (n + 1) b) && ladOk m && decide (m.length = ll.length + 1) && decide (m.take ll.length = ll) && decide (lgroups m (n + 1) = lgroups m n - 1) &&
    mergeOk ll b a && decide (lmerge ll b a = m) && !mergeOk ll a a && !mergeOk m a b && !mergeOk m (lcode m (n + 1) a) b && decide (2 ≤ lgroups ll n) && decide (lgroups m (n + 1) = lgroups ll n - 1) && decide (lgroups m 0 = 4) && decide (0 ≤ lgroups m (n + 1)) && decide (lgroups m n ≤ 4)
  else true
set_option maxRecDepth 100000 in
theorem pMerge_all : (lads.all fun ll => (nats 4).all fun a => (nats 4).all fun b => pMerge ll a b) = true := by decide +kernel
theorem m_merge {ll : List (List Int)} {a b : Int} (h : mergeOk ll a b = true) :
    let m := lmerge ll a b
    let n : Int := ll.length
    codeOk m (n + 1) a = true ∧ codeOk m (n + 1) b = true ∧ lcode m (n + 1) a = lcode m (n + 1) b ∧ ladOk m = true ∧ m.length = ll.length + 1 ∧ m.take ll.length = ll ∧ lgroups m (n + 1) = lgroups m n - 1 ∧
    mergeOk ll b a = true ∧ lmerge ll b a = m ∧ mergeOk ll a a = false ∧ mergeOk m a b = false ∧ mergeOk m (lcode m (n + 1) a) b = false ∧ 2 ≤ lgroups ll n ∧ lgroups m (n + 1) = lgroups ll n - 1 ∧ lgroups m 0 = 4 ∧ 0 ≤ lgroups m (n + 1) ∧ lgroups m n ≤ 4 := by
  obtain ⟨h0, h1, h2, h3, h4, _⟩ := mergeOk_in h
  have hp := by_two pMerge pMerge_all h0 h1 h2 h3 h4
  rw [pMerge, if_pos h] at hp
  simpa [and_assoc] using hp
end Go.Proofs.Ytbngajmpeepnmaa
