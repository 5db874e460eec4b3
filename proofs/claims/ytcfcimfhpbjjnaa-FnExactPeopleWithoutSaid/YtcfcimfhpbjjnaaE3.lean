import Derived.Test.YtcfcimfhpbjjnaaE2
namespace Go.Proofs.Ytcfcimfhpbjjnaa
open Go.RowKit
theorem eqP_self (p : Pn) : eqP p p = true := by simp [eqP]
theorem eqS_any (l : List Pn) (A B : Option Addr) (c d : Nat) (hl : l.length ≤ 1048576) (W : World) (ha : Row W W.heap.size A (pcells l)) (hb : Row W W.heap.size B (pcells l)) :
    Calls Try.prog 29 #[.slice A l.length c, .slice B l.length d] W fun e w' => e = .returned (.bool true) ∧ Below W.heap.size W w' := by
  go_enter Try.func29, Try.ntmps29
  go_wp2
  go_loopw [5] (fun i wr => ∃ k : Nat, k ≤ l.length ∧ i = .int .i64 k ∧ Below W.heap.size W wr) (fun i _ => l.length - (intOf i).toNat)
  case atStart => exact ⟨0, Nat.zero_le _, rfl, Below.refl _ _⟩
  case round =>
    obtain ⟨k, hk, rfl, h1⟩ := hrel
    by_cases hlt : k < l.length
    · obtain ⟨x, o, rfl, hx, c0, c1, c2, c3⟩ := ha.at_ k hlt
      obtain ⟨y, u, rfl, hy, d0, d1, d2, d3⟩ := hb.at_ k hlt
      have HF := Lib.hid (show ∀ w' : World, Below W.heap.size W w' → (Below W.heap.size W w' ∧ w'.cell? ⟨x, o + k * 4, none⟩ = some (.int .i64 l[k].area) ∧ w'.cell? ⟨x, o + k * 4 + 1, none⟩ = some (.int .i64 l[k].job) ∧ w'.cell? ⟨x, o + k * 4 + 2, none⟩ = some (.int .i64 l[k].sex) ∧ w'.cell? ⟨x, o + k * 4 + 3, none⟩ = some (.int .i64 l[k].pay) ∧
          w'.cell? ⟨y, u + k * 4, none⟩ = some (.int .i64 l[k].area) ∧ w'.cell? ⟨y, u + k * 4 + 1, none⟩ = some (.int .i64 l[k].job) ∧ w'.cell? ⟨y, u + k * 4 + 2, none⟩ = some (.int .i64 l[k].sex) ∧ w'.cell? ⟨y, u + k * 4 + 3, none⟩ = some (.int .i64 l[k].pay)) from
        fun w' h => ⟨h, (h.cell hx).trans c0, (h.cell hx).trans c1, (h.cell hx).trans c2, (h.cell hx).trans c3, (h.cell hy).trans d0, (h.cell hy).trans d1, (h.cell hy).trans d2, (h.cell hy).trans d3⟩)
      clear c0 c1 c2 c3 d0 d1 d2 d3
      have h1d : Below W.heap.size W wr.drew := h1.drew
      go_wp2
      go_region_held3 (fun w' => Below W.heap.size W w' ∧ w'.cell? ⟨x, o + k * 4, none⟩ = some (.int .i64 l[k].area) ∧ w'.cell? ⟨x, o + k * 4 + 1, none⟩ = some (.int .i64 l[k].job) ∧ w'.cell? ⟨x, o + k * 4 + 2, none⟩ = some (.int .i64 l[k].sex) ∧ w'.cell? ⟨x, o + k * 4 + 3, none⟩ = some (.int .i64 l[k].pay) ∧
          w'.cell? ⟨y, u + k * 4, none⟩ = some (.int .i64 l[k].area) ∧ w'.cell? ⟨y, u + k * 4 + 1, none⟩ = some (.int .i64 l[k].job) ∧ w'.cell? ⟨y, u + k * 4 + 2, none⟩ = some (.int .i64 l[k].sex) ∧ w'.cell? ⟨y, u + k * 4 + 3, none⟩ = some (.int .i64 l[k].pay))
        (first | exact HF.out _ (by assumption) | exact HF.out _ h1d)
        (first | (go_at_call 46; refine (eqPerson_any l[k] l[k] _).mono ?_; rintro e w3 ⟨rfl, h3⟩; rw [eqP_self]; have h4 : Below W.heap.size W w3 := Below.trans (by first | assumption | exact h1d) (h3.mono (by have := h1.size; simp; omega))))
      go_wp2
      go_roundw
      case rel => exact ⟨k + 1, by omega, by go_num, by assumption⟩
      case measure => simp [intOf]; omega
    · go_wp2
      go_ret
      exact ⟨rfl, h1⟩

theorem w_ExactPeopleValid (l : List Pn) (A : Option Addr) (c : Nat) (hl : l.length ≤ maxLen) (W : World) (ha : Row W W.heap.size A (pcells l)) :
    Calls Try.prog 9 #[.slice A l.length c] W fun e w' => e = .returned (.bool true) ∧ Below W.heap.size W w' := by
  have hl2 := hl
  unfold maxLen at hl2
  by_cases hbig : l.length ≤ 1048576
  · go_enter Try.func9, Try.ntmps9
    go_wp2_with fail
    refine (sz_any A l.length c hl _).mono ?_
    rintro e w' ⟨rfl, rfl⟩
    rw [if_pos hbig]
    go_wp2_with fail
    refine (toPersonS_any l A c hbig _ ha).mono ?_
    rintro e w1 ⟨g1, rfl, hg1, ho1, h1⟩
    go_wp2_with fail
    refine (sValid_any l _ _  _ (Own.row ho1) hl).mono ?_
    rintro e w2 ⟨rfl, h2⟩
    have b2 : Below W.heap.size W w2 := h1.trans (h2.mono h1.size)
    clear h1 h2 ho1
    go_wp2_with fail
    refine (toPersonS_any l A c hbig _ ((ha.below b2 (Nat.le_refl _)).more b2.size)).mono ?_
    rintro e w3 ⟨g3, rfl, hg3, ho3, h3⟩
    have b3 : Below W.heap.size W w3 := b2.trans (h3.mono b2.size)
    go_wp2_with fail
    refine (valid_any l _ _  _ (Own.row ho3) hl).mono ?_
    rintro e w4 ⟨rfl, h4⟩
    have ho4 := ho3.below h4
    have b4 : Below W.heap.size W w4 := b3.trans (h4.mono b3.size)
    go_wp2_with fail
    refine (toPersonS_any l A c hbig _ ((ha.below b4 (Nat.le_refl _)).more b4.size)).mono ?_
    rintro e w5 ⟨g5, rfl, hg5, ho5, h5⟩
    have b5 : Below W.heap.size W w5 := b4.trans (h5.mono b4.size)
    go_wp2_with fail
    refine (eqS_any l _ _ _ _ hbig _ (Own.row (ho4.below h5)) (Own.row ho5)).mono ?_
    rintro e w6 ⟨rfl, h6⟩
    go_wp2
    go_ret
    exact ⟨rfl, b5.trans (h6.mono b5.size)⟩
  · go_enter Try.func9, Try.ntmps9
    go_wp2_with fail
    refine (sz_any A l.length c hl _).mono ?_
    rintro e w' ⟨rfl, rfl⟩
    rw [if_neg hbig]
    go_wp2
    go_ret
    exact ⟨rfl, Below.refl _ _⟩

theorem w_ExactPeopleMany (l : List Pn) (A : Option Addr) (c : Nat) (a j s : Int) (hl : l.length ≤ maxLen) (W : World) (ha : Row W W.heap.size A (pcells l)) :
    Calls Try.prog 10 #[.slice A l.length c, .int .i64 a, .int .i64 j, .int .i64 s] W fun e w' => e = .returned (.bool true) ∧ Below W.heap.size W w' := by
  have hl2 := hl
  unfold maxLen at hl2
  by_cases hbig : l.length ≤ 1048576
  · go_enter Try.func10, Try.ntmps10
    go_wp2_with fail
    refine (sz_any A l.length c hl _).mono ?_
    rintro e w' ⟨rfl, rfl⟩
    rw [if_pos hbig]
    go_wp2_with fail
    refine (toPersonS_any l A c hbig _ ha).mono ?_
    rintro e w1 ⟨g1, rfl, hg1, ho1, h1⟩
    go_wp2_with fail
    refine (sMany_any l _ _ a j s _ (Own.row ho1) hl).mono ?_
    rintro e w2 ⟨rfl, h2⟩
    have b2 : Below W.heap.size W w2 := h1.trans (h2.mono h1.size)
    clear h1 h2 ho1
    go_wp2_with fail
    refine (toPersonS_any l A c hbig _ ((ha.below b2 (Nat.le_refl _)).more b2.size)).mono ?_
    rintro e w3 ⟨g3, rfl, hg3, ho3, h3⟩
    have b3 : Below W.heap.size W w3 := b2.trans (h3.mono b2.size)
    go_wp2_with fail
    refine (many_any l _ _ a j s _ (Own.row ho3) hl).mono ?_
    rintro e w4 ⟨rfl, h4⟩
    have ho4 := ho3.below h4
    have b4 : Below W.heap.size W w4 := b3.trans (h4.mono b3.size)
    go_wp2_with fail
    refine (toPersonS_any l A c hbig _ ((ha.below b4 (Nat.le_refl _)).more b4.size)).mono ?_
    rintro e w5 ⟨g5, rfl, hg5, ho5, h5⟩
    have b5 : Below W.heap.size W w5 := b4.trans (h5.mono b4.size)
    go_wp2_with fail
    refine (eqS_any l _ _ _ _ hbig _ (Own.row (ho4.below h5)) (Own.row ho5)).mono ?_
    rintro e w6 ⟨rfl, h6⟩
    go_wp2
    go_ret
    exact ⟨rfl, b5.trans (h6.mono b5.size)⟩
  · go_enter Try.func10, Try.ntmps10
    go_wp2_with fail
    refine (sz_any A l.length c hl _).mono ?_
    rintro e w' ⟨rfl, rfl⟩
    rw [if_neg hbig]
    go_wp2
    go_ret
    exact ⟨rfl, Below.refl _ _⟩

theorem w_ExactPeoplePay (l : List Pn) (A : Option Addr) (c : Nat) (a j s : Int) (hl : l.length ≤ maxLen) (W : World) (ha : Row W W.heap.size A (pcells l)) :
    Calls Try.prog 11 #[.slice A l.length c, .int .i64 a, .int .i64 j, .int .i64 s] W fun e w' => e = .returned (.bool true) ∧ Below W.heap.size W w' := by
  have hl2 := hl
  unfold maxLen at hl2
  by_cases hbig : l.length ≤ 1048576
  · go_enter Try.func11, Try.ntmps11
    go_wp2_with fail
    refine (sz_any A l.length c hl _).mono ?_
    rintro e w' ⟨rfl, rfl⟩
    rw [if_pos hbig]
    go_wp2_with fail
    refine (toPersonS_any l A c hbig _ ha).mono ?_
    rintro e w1 ⟨g1, rfl, hg1, ho1, h1⟩
    go_wp2_with fail
    refine (sPay_any l _ _ a j s _ (Own.row ho1) hl).mono ?_
    rintro e w2 ⟨rfl, h2⟩
    have b2 : Below W.heap.size W w2 := h1.trans (h2.mono h1.size)
    clear h1 h2 ho1
    go_wp2_with fail
    refine (toPersonS_any l A c hbig _ ((ha.below b2 (Nat.le_refl _)).more b2.size)).mono ?_
    rintro e w3 ⟨g3, rfl, hg3, ho3, h3⟩
    have b3 : Below W.heap.size W w3 := b2.trans (h3.mono b2.size)
    go_wp2_with fail
    refine (pay_any l _ _ a j s _ (Own.row ho3) hl).mono ?_
    rintro e w4 ⟨rfl, h4⟩
    have ho4 := ho3.below h4
    have b4 : Below W.heap.size W w4 := b3.trans (h4.mono b3.size)
    go_wp2_with fail
    refine (toPersonS_any l A c hbig _ ((ha.below b4 (Nat.le_refl _)).more b4.size)).mono ?_
    rintro e w5 ⟨g5, rfl, hg5, ho5, h5⟩
    have b5 : Below W.heap.size W w5 := b4.trans (h5.mono b4.size)
    go_wp2_with fail
    refine (eqS_any l _ _ _ _ hbig _ (Own.row (ho4.below h5)) (Own.row ho5)).mono ?_
    rintro e w6 ⟨rfl, h6⟩
    go_wp2
    go_ret
    exact ⟨rfl, b5.trans (h6.mono b5.size)⟩
  · go_enter Try.func11, Try.ntmps11
    go_wp2_with fail
    refine (sz_any A l.length c hl _).mono ?_
    rintro e w' ⟨rfl, rfl⟩
    rw [if_neg hbig]
    go_wp2
    go_ret
    exact ⟨rfl, Below.refl _ _⟩
end Go.Proofs.Ytcfcimfhpbjjnaa
