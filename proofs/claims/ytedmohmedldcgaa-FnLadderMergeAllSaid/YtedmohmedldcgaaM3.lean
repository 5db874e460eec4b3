/- Three merges make one group: reckoned over all first merges. -/
import Derived.Test.YtedmohmedldcgaaM2
namespace Go.Proofs.Ytedmohmedldcgaa
def inner (x : List (List Int)) (n : Nat) : Nat → List (List Int)
  | 0 => x
  | c + 1 => if mergeOk (inner x n c) 0 (c + 1) = true ∧ (inner x n c).length + 1 = n + 2 then lmerge (inner x n c) 0 (c + 1) else inner x n c
def outer (x : List (List Int)) : Nat → List (List Int)
  | 0 => x
  | n + 1 => inner (outer x n) n 3
def pAll (a b : Int) : Bool :=
  if mergeOk [] a b = true then
    let x := outer (lmerge [] a b) 2
    decide (x.length = 3) && decide (lgroups x 3 = 1) && !mergeOk x 1 2
  else true
set_option maxRecDepth 100000 in
theorem pAll_all : ((nats 4).all fun a => (nats 4).all fun b => pAll a b) = true := by decide +kernel
theorem m_all {a b : Int} (h : mergeOk [] a b = true) : (outer (lmerge [] a b) 2).length = 3 ∧ lgroups (outer (lmerge [] a b) 2) 3 = 1 ∧ mergeOk (outer (lmerge [] a b) 2) 1 2 = false := by
  obtain ⟨_, h1, h2, h3, h4, _⟩ := mergeOk_in h
  have hp := List.all_eq_true.1 (List.all_eq_true.1 pAll_all a (nats_mem (n := 4) h1 (by omega))) b (nats_mem (n := 4) h3 (by omega))
  rw [pAll, if_pos h] at hp
  simpa [and_assoc] using hp
theorem merge_len {x : List (List Int)} {a b : Int} (h : mergeOk x a b = true) : (lmerge x a b).length = x.length + 1 ∧ x.length ≤ 2 := by
  obtain ⟨h0, _, _, _, _, h3⟩ := mergeOk_in h
  have := lad_len3 h0
  refine ⟨by rw [lmerge, if_pos h]; simp, by omega⟩
theorem inner_len (x : List (List Int)) (n : Nat) (hx : x.length ≤ 3) : ∀ c, (inner x n c).length ≤ 3
  | 0 => hx
  | c + 1 => by
    have ih := inner_len x n hx c
    rw [inner]
    split
    · rename_i h; have := merge_len h.1; omega
    · exact ih
theorem outer_len (x : List (List Int)) (hx : x.length ≤ 3) : ∀ n, (outer x n).length ≤ 3
  | 0 => hx
  | n + 1 => by rw [outer]; exact inner_len _ _ (outer_len x hx n) 3
end Go.Proofs.Ytedmohmedldcgaa
