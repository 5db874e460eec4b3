/- Contracts of the model: groups. -/
import Derived.Test.YtbbgakbobefplaaG4
namespace Go.Proofs.Ytbbgakbobefplaa
open Go.RowKit
theorem sSame_any (a b : Pn) (w : World) : Calls Try.prog 59 #[a.val, b.val] w fun e w' => e = .returned (.bool (decide (key a = key b))) ∧ Below w.heap.size w w' := by
  unfold Pn.val
  go_enter Try.func59, Try.ntmps59
  go_wp2
  all_goals
    go_ret
    exact ⟨retb (by rw [Bool.eq_iff_iff]; simp [key, *]), ((Below.refl _ _).alloc (Nat.le_refl _) _).alloc (by simp) _⟩
theorem sSame_at (a b : Pn) (t : Bool) (ht : decide (key a = key b) = t) (w : World) : Calls Try.prog 59 #[a.val, b.val] w fun e w' => e = .returned (.bool t) ∧ Below w.heap.size w w' := by subst ht; exact sSame_any a b w
set_option maxHeartbeats 1000000 in
theorem sSize_any (x : List Pn) (q : Nat) (hq : q = x.length) (A : Option Addr) (c k : Nat) (_hk : k < q) (hlm : x.length ≤ 1000000) (w : World) (hr : Row w w.heap.size A (pcells x)) :
    Calls Try.prog 45 #[.slice A q c, .int .i64 k] w fun e w' => e = .returned (.int .i64 (sizeAt x k)) ∧ Below w.heap.size w w' := by
  have HQ := Lib.hid hq
  have hq1 : q ≤ 1000000 := by omega
  have hkx : k < x.length := by omega
  have hki : (k : Int) < (q : Int) := by omega
  have HALL := Lib.hid (sizeTo_all x k)
  obtain ⟨b, o, rfl, hbw, c0, c1, c2, c3⟩ := hr.at_ k hkx
  have hgk : x.getD k p00 = x[k] := by rw [List.getD_eq_getElem?_getD, List.getElem?_eq_getElem hkx]; rfl
  have HGK := Lib.hid hgk
  clear hgk hq
  go_enter Try.func45, Try.ntmps45
  go_wp2
  go_loopw [5, 6] (fun v i wr => ∃ j : Nat, j ≤ q ∧ i = .int .i64 j ∧ v = .int .i64 (sizeTo x k j) ∧ Below w.heap.size w wr) (fun _ i _ => q - (intOf i).toNat)
  case atStart => exact ⟨0, Nat.zero_le _, rfl, by simp [sizeTo, keys, cn], Below.refl _ _⟩
  case round =>
    obtain ⟨j, hj, rfl, rfl, hb⟩ := hrel
    have hle := sizeTo_le x k j
    by_cases hlt : j < q
    · have hji : (j : Int) < (q : Int) := by omega
      have hjx : j < x.length := by rw [← HQ.out]; exact hlt
      obtain ⟨b2, o2, hA, _, e0, e1, e2, e3⟩ := hr.at_ j hjx
      injection hA with hA
      injection hA with g1 g2 _
      subst g1 g2
      have HS := Lib.hid (sizeTo_succ x k j hjx)
      have hkk : key (x.getD k p00) = key x[k] := by rw [HGK.out]
      obtain ⟨p, hp⟩ : ∃ p, x[k] = p := ⟨_, rfl⟩
      obtain ⟨p2, hp2⟩ : ∃ p2, x[j] = p2 := ⟨_, rfl⟩
      rw [hp] at hkk c0 c1 c2 c3
      rw [hp2] at e0 e1 e2 e3 HS
      rw [hkk] at HS
      have HF := Lib.hid (show ∀ w' : World, Below w.heap.size w w' → (Below w.heap.size w w' ∧ (w'.cell? ⟨b, o + k * 4, none⟩ = some (.int .i64 p.area) ∧ w'.cell? ⟨b, o + k * 4 + 1, none⟩ = some (.int .i64 p.job) ∧ w'.cell? ⟨b, o + k * 4 + 2, none⟩ = some (.int .i64 p.sex) ∧ w'.cell? ⟨b, o + k * 4 + 3, none⟩ = some (.int .i64 p.pay)) ∧ w'.cell? ⟨b, o + j * 4, none⟩ = some (.int .i64 p2.area) ∧ w'.cell? ⟨b, o + j * 4 + 1, none⟩ = some (.int .i64 p2.job) ∧ w'.cell? ⟨b, o + j * 4 + 2, none⟩ = some (.int .i64 p2.sex) ∧ w'.cell? ⟨b, o + j * 4 + 3, none⟩ = some (.int .i64 p2.pay)) from
        fun w' h => ⟨h, ⟨(h.cell hbw).trans c0, (h.cell hbw).trans c1, (h.cell hbw).trans c2, (h.cell hbw).trans c3⟩, (h.cell hbw).trans e0, (h.cell hbw).trans e1, (h.cell hbw).trans e2, (h.cell hbw).trans e3⟩)
      have b0 : Below w.heap.size w wr.drew := hb.drew
      obtain ⟨s, hs⟩ : ∃ s, sizeTo x k j = s := ⟨_, rfl⟩
      rw [hs] at hle HS ⊢
      clear e0 e1 e2 e3 hp hp2 hkk hs
      obtain ⟨t, ht⟩ : ∃ t, decide (key p2 = key p) = t := ⟨_, rfl⟩
      have HT := Lib.hid ht
      have HS2 := Lib.hid (show sizeTo x k (j + 1) = s + if t = true then 1 else 0 by rw [HS.out, ← ht]; simp)
      clear ht HS
      go_wp2
      go_region_held3 (fun w' => (Below w.heap.size w w' ∧ (w'.cell? ⟨b, o + k * 4, none⟩ = some (.int .i64 p.area) ∧ w'.cell? ⟨b, o + k * 4 + 1, none⟩ = some (.int .i64 p.job) ∧ w'.cell? ⟨b, o + k * 4 + 2, none⟩ = some (.int .i64 p.sex) ∧ w'.cell? ⟨b, o + k * 4 + 3, none⟩ = some (.int .i64 p.pay)) ∧ w'.cell? ⟨b, o + j * 4, none⟩ = some (.int .i64 p2.area) ∧ w'.cell? ⟨b, o + j * 4 + 1, none⟩ = some (.int .i64 p2.job) ∧ w'.cell? ⟨b, o + j * 4 + 2, none⟩ = some (.int .i64 p2.sex) ∧ w'.cell? ⟨b, o + j * 4 + 3, none⟩ = some (.int .i64 p2.pay)))
        (first | exact HF.out _ (by assumption) | exact HF.out _ b0)
        (first
          | (go_at_call 59
             refine (sSame_at p2 p t HT.out _).mono ?_
             rintro e w3 ⟨rfl, h3⟩
             have h3' : Below w.heap.size w w3 := b0.trans (h3.mono b0.size)
             clear h3))
      cases t
      all_goals
        go_wp2
        go_roundw
        case rel => exact ⟨j + 1, by omega, by go_num, by rw [HS2.out]; simp, by assumption⟩
        case measure => simp [intOf]; omega
    · have hjq : j = x.length := by rw [← HQ.out]; omega
      have hall := HALL.out
      rw [← hjq] at hall
      rw [hall]
      go_wp2
      go_ret
      exact ⟨rfl, hb⟩
end Go.Proofs.Ytbbgakbobefplaa
