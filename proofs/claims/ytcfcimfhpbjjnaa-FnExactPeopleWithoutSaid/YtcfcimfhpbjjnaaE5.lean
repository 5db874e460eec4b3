import Derived.Test.YtcfcimfhpbjjnaaE4
import Derived.Test.YtcfcimfhpbjjnaaS5
namespace Go.Proofs.Ytcfcimfhpbjjnaa
open Go.RowKit
/-- What leaving one out gives, of both. -/
theorem both (l : List Pn) (hl : l.length ≤ maxLen) (i : Int) : ∃ m t, m.length ≤ l.length ∧
    (∀ A c w, Row w w.heap.size A (pcells l) → Calls Try.prog 21 #[.slice A l.length c, .int .i64 i] w (Outed m t w)) ∧
    (∀ A c w, l.length ≤ c → Row w w.heap.size A (pcells l) → Calls Try.prog 22 #[.slice A l.length c, .int .i64 i] w (Outed m t w)) := by
  by_cases h : okL l = true ∧ 0 ≤ i ∧ i < l.length
  · obtain ⟨hok, h0, h1⟩ := h
    obtain ⟨k, rfl⟩ := Int.eq_ofNat_of_zero_le h0
    have hk : k < l.length := by omega
    exact ⟨less1 l k, true, by simp [less1]; omega, fun A c w hr => without_yes l A c k hk w hr hok, fun A c w hc hr => sWithout_yes l A c k hk hc w hr hok⟩
  · have h' : okL l = false ∨ i < 0 ∨ (l.length : Int) ≤ i := by
      cases hok : okL l
      · exact .inl rfl
      · rw [hok] at h
        rcases Int.lt_or_le i 0 with h0 | h0
        · exact .inr (.inl h0)
        · rcases Int.lt_or_le i l.length with h1 | h1
          · exact absurd ⟨rfl, h0, h1⟩ h
          · exact .inr (.inr h1)
    exact ⟨[], false, by simp, fun A c w hr => without_no l A c i w hr hl h', fun A c w hc hr => sWithout_no l A c i w hr hl h'⟩
theorem eqS_at (l : List Pn) (A B : Option Addr) (c d : Nat) (hl : l.length ≤ 1048576) (w : World) (b1 b2 : Nat) (ha : Own w b1 (.slice A l.length c) l) (hb : Own w b2 (.slice B l.length d) l) :
    Calls Try.prog 29 #[.slice A l.length c, .slice B l.length d] w fun e w' => e = .returned (.bool true) ∧ Below w.heap.size w w' := eqS_any l A B c d hl w ha.row hb.row
/-- A block of one's own is no other's. -/
theorem Own.apart {w w' : World} {B : Nat} {v u : Value} {l : List Pn} (h : Own w B v l) (hg : w.grownBy w' u.ownBlock) (hu : ∀ k, u.ownBlock = some k → k < B) : Own w' B v l := by
  refine World.ownsRow.kept h hg ?_
  rcases hb : v.ownBlock with _ | k
  · exact .inl rfl
  · right; intro e; have := (World.ownsRow.lt h k hb).1; have := hu k e.symm; omega
theorem Own.apart' {w w' : World} {B : Nat} {v u : Value} {l : List Pn} (h : Own w B v l) (hg : w.grownBy w' u.ownBlock) (T : Nat) (hv : ∀ k, v.ownBlock = some k → k < T) (hu : ∀ k, u.ownBlock = some k → T ≤ k) : Own w' B v l := by
  refine World.ownsRow.kept h hg ?_
  rcases hb : v.ownBlock with _ | k
  · exact .inl rfl
  · right; intro e; have := hv k hb; have := hu k e.symm; omega
theorem Own.lt_ {w : World} {B : Nat} {v : Value} {l : List Pn} (h : Own w B v l) : ∀ k, v.ownBlock = some k → k < w.heap.size := fun k hk => (World.ownsRow.lt h k hk).2
theorem grown_base {w w' : World} {B : Nat} {v : Value} {l : List Pn} (W : World) (hb : Below W.heap.size W w) (ho : Own w B v l) (hB : W.heap.size ≤ B) (hg : w.grownBy w' v.ownBlock) : Below W.heap.size W w' := below_own hb (ho.less hB) hg
set_option maxHeartbeats 4000000 in
theorem w_ExactPeopleWithout (l : List Pn) (A : Option Addr) (c : Nat) (i : Int) (hl : l.length ≤ maxLen) (W : World) (ha : Row W W.heap.size A (pcells l)) :
    Calls Try.prog 12 #[.slice A l.length c, .int .i64 i] W fun e w' => e = .returned (.bool true) ∧ Below W.heap.size W w' := by
  have hl2 := hl
  unfold maxLen at hl2
  by_cases hbig : l.length ≤ 1048576
  · obtain ⟨m, t, hml, HI, HS⟩ := both l hl i
    have hmb : m.length ≤ 1048576 := by omega
    have HI := Lib.hid HI; have HS := Lib.hid HS
    go_enter Try.func12, Try.ntmps12
    go_wp2_with fail
    refine (sz_any A l.length c hl _).mono ?_
    rintro e w' ⟨rfl, rfl⟩
    rw [if_pos hbig]
    go_wp2_with fail
    refine (toPersonS_any l A c hbig _ ha).mono ?_
    rintro e w1 ⟨g1, rfl, hg1, ho1, h1⟩
    go_wp2_with fail
    refine (HS.out _ _ _ (Nat.le_refl _) ho1.row).mono ?_
    rintro e w2 ⟨vw, rfl, how, h2⟩
    obtain ⟨Aw, cw, rfl, _, _, _, _⟩ := how.form
    have b2 : Below W.heap.size W w2 := h1.trans (h2.mono h1.size)
    have HWL := Lib.hid how.lt_
    have how := Lib.hid how
    clear h1 h2 ho1 hg1
    go_wp2_with fail
    refine (toPersonS_any l A c hbig _ ((ha.below b2 (Nat.le_refl _)).more b2.size)).mono ?_
    rintro e w3 ⟨g3, rfl, hg3, ho3, h3⟩
    have b3 := bth b2 h3
    have how3 := Lib.hid (how.out.below h3)
    have ho3h := Lib.hid ho3
    go_wp2_with fail
    refine (HI.out _ _ _ ho3.row).mono ?_
    rintro e w4 ⟨vg, rfl, hog, h4⟩
    obtain ⟨Ag, cg, rfl, _, _, _, _⟩ := hog.form
    have b4 := bth b3 h4
    have how4 := Lib.hid (how3.out.below h4)
    have hox4 := Lib.hid (ho3h.out.below h4)
    have hog4 := Lib.hid hog
    clear hog ho3 how how3 HS
    go_wp2_with fail
    refine (eqS_at m Ag Aw cg cw hmb _ _ _ hog4.out how4.out).mono ?_
    rintro e w5 ⟨rfl, h5⟩
    have b5 := bth b4 h5
    have how5 := Lib.hid (how4.out.below h5)
    have hox5 := Lib.hid (hox4.out.below h5)
    have hog5 := Lib.hid (hog4.out.below h5)
    have ht : (t != t) = false := by simp
    clear how4 hox4 hog4 h5
    go_wp2_with fail
    refine (toPersonS_any l A c hbig _ ((ha.below b5 (Nat.le_refl _)).more b5.size)).mono ?_
    rintro e w6 ⟨g6, rfl, hg6, ho6, h6⟩
    have b6 := bth b5 h6
    have how6 := Lib.hid (how5.out.below h6)
    have hox6 := Lib.hid (hox5.out.below h6)
    have hog6 := Lib.hid (hog5.out.below h6)
    have ho6 := Lib.hid ho6
    clear how5 hox5 hog5 h6
    go_wp2_with fail
    refine (eqS_at l _ _ _ _ hbig _ _ _ hox6.out ho6.out).mono ?_
    rintro e w7 ⟨rfl, h7⟩
    have b7 := bth b6 h7
    have how7 := Lib.hid (how6.out.below h7)
    have hox7 := Lib.hid (hox6.out.below h7)
    have hog7 := Lib.hid (hog6.out.below h7)
    clear how6 hox6 hog6 h7 ho6
    go_wp2_with fail
    refine (mark_any l _ _ _ hox7.out hbig).mono ?_
    rintro e w8 ⟨rfl, _, h8⟩
    have b8 := grown_base W b7 hox7.out b2.size h8
    have hog8 := Lib.hid (hog7.out.apart h8 (ho3h.out.lt_))
    have how8 := Lib.hid (how7.out.apart' h8 w2.heap.size HWL.out (hox7.out.ob))
    have hl0 : ¬ (1 + 4 * (l.length : Int) < 0) := by omega
    clear how7 hox7 hog7 h8
    go_wp2_with fail
    refine (eqS_at m Ag Aw cg cw hmb _ _ _ hog8.out how8.out).mono ?_
    rintro e w9 ⟨rfl, h9⟩
    have b9 := bth b8 h9
    have how9 := Lib.hid (how8.out.below h9)
    have hog9 := Lib.hid (hog8.out.below h9)
    clear how8 hog8 h9
    go_wp2_with fail
    refine (mark_any m _ _ _ hog9.out hmb).mono ?_
    rintro e w10 ⟨rfl, hok10, h10⟩
    have b10 := grown_base W b9 hog9.out b3.size h10
    have how10 := Lib.hid (how9.out.apart' h10 w3.heap.size (fun k hk => Nat.lt_of_lt_of_le (HWL.out k hk) h3.size) (hog9.out.ob))
    have hog10 := Lib.hid hok10
    have hm0 : ¬ (1 + 4 * (m.length : Int) < 0) := by omega
    clear how9 hog9 h10 hok10
    go_wp2_with fail
    refine (held_any m.length Ag cg _ hog10.out.row hmb).mono ?_
    rintro e w' ⟨rfl, rfl⟩
    go_wp2_with fail
    refine (toPersonS_any l A c hbig _ ((ha.below b10 (Nat.le_refl _)).more b10.size)).mono ?_
    rintro e w11 ⟨g11, rfl, _, ho11, h11⟩
    have b11 := bth b10 h11
    have how11 := Lib.hid (how10.out.below h11)
    have hog11 := Lib.hid (hog10.out.below h11)
    clear how10 hog10 h11
    go_wp2_with fail
    refine (HI.out _ _ _ ho11.row).mono ?_
    rintro e w12 ⟨vh, rfl, hoh, h12⟩
    obtain ⟨Ah, ch, rfl, _, _, _, _⟩ := hoh.form
    have b12 := bth b11 h12
    have how12 := Lib.hid (how11.out.below h12)
    have hog12 := Lib.hid (hog11.out.below h12)
    have hoh := Lib.hid hoh
    clear how11 hog11 h12 ho11
    go_wp2_with fail
    refine (eqS_at m Ah Aw ch cw hmb _ _ _ hoh.out how12.out).mono ?_
    rintro e w13 ⟨rfl, h13⟩
    have b13 := bth b12 h13
    have hog13 := Lib.hid (hog12.out.below h13)
    clear how12 hog12 hoh h13
    go_wp2_with fail
    refine (held_any m.length Ag cg _ hog13.out.row hmb).mono ?_
    rintro e w' ⟨rfl, rfl⟩
    go_wp2
    go_ret
    exact ⟨rfl, b13⟩
  · go_enter Try.func12, Try.ntmps12
    go_wp2_with fail
    refine (sz_any A l.length c hl _).mono ?_
    rintro e w' ⟨rfl, rfl⟩
    rw [if_neg hbig]
    go_wp2
    go_ret
    exact ⟨rfl, Below.refl _ _⟩
end Go.Proofs.Ytcfcimfhpbjjnaa
