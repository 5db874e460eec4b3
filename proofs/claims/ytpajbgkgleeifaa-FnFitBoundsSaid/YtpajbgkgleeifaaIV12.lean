/- Contracts of the program: told cells. -/
import Derived.Test.YtpajbgkgleeifaaIVB
import Derived.Test.YtpajbgkgleeifaaSB5
namespace Go.Proofs.Ytpajbgkgleeifaa
open Go.RowKit Go.Shelf
attribute [local go_sem] Oper.semAt_some
/-- The told cells among those that have come. -/
noncomputable def tP (t : Tb) (m : Mk) {q d : Nat} (pre : List (Pc q d)) : Int := (pre.map fun x => tC t m x.1.val x.2.val).sum
theorem sm_fin {n : Nat} (f : Nat → Int) : ((List.finRange n).map fun i => f i.val).sum = sm n f := by
  rw [← sm_list, List.length_map, List.length_finRange]
  refine sm_congr fun i hi => ?_
  rw [getD_of _ _ (by simpa using hi)]; simp
theorem tP_all (t : Tb) (m : Mk) (q d : Nat) : tP t m (plc q d) = sm q (fun a => sm d (tC t m a)) := by
  unfold tP
  rw [plc_sum, ← sm_fin]
  congr 1
  refine List.map_congr_left fun a _ => ?_
  exact sm_fin (tC t m a.val)
theorem tP_bd (t : Tb) (m : Mk) {q d : Nat} : ∀ pre : List (Pc q d), 0 ≤ tP t m pre ∧ tP t m pre ≤ pre.length
  | [] => by simp [tP]
  | x :: pre => by
    have h1 := tP_bd t m pre
    have h2 := tC_bd t m x.1.val x.2.val
    unfold tP at h1 ⊢
    simp only [List.map_cons, List.sum_cons, List.length_cons]
    omega
end Go.Proofs.Ytpajbgkgleeifaa
