import Derived.Test.YtbngajmpeepnmaaEI3
import Derived.Test.YtbngajmpeepnmaaL10
namespace Go.Proofs.Ytbngajmpeepnmaa
open Go.RowKit
set_option maxHeartbeats 1000000 in
theorem w_ExactLadderValid (ll : List (List Int)) (n : Nat) (hn : n = ll.length) (A : Option Addr) (c : Nat) (hl : ll.length ≤ maxLen) (W : World) (ha : LL W W.heap.size A ll) :
    Calls Try.prog 5 #[.slice A n c] W fun e w' => e = .returned (.bool true) ∧ Below W.heap.size W w' := by
  have HN := Lib.hid hn; clear hn
  cases hf : fits ll
  · have HZ := Lib.hid (szOf_no hf)
    clear hf
    go_enter Try.func5, Try.ntmps5
    go_wp2_with fail
    refine (szSS_any ll n HN.out A c hl _ ha).mono ?_
    rintro e w' ⟨rfl, rfl⟩
    rw [HZ.out]
    go_wp2
    go_ret
    exact ⟨rfl, Below.refl _ _⟩
  · obtain ⟨z0, z1⟩ := szOf_yes hf
    obtain ⟨z, hz⟩ : ∃ z, szOf ll = z := ⟨_, rfl⟩
    rw [hz] at z0 z1
    have HZ := Lib.hid hz
    have HF := Lib.hid hf
    clear hz hf
    go_enter Try.func5, Try.ntmps5
    go_wp2_with fail
    refine (szSS_any ll n HN.out A c hl _ ha).mono ?_
    rintro e w' ⟨rfl, rfl⟩
    rw [HZ.out]
    go_wp2_with fail
    refine (toIntSS_any ll n HN.out A c HF.out _ ha).mono ?_
    rintro e w1 ⟨g1, rfl, hm1, h1⟩
    go_wp2_with fail
    refine (sValid_at w1 ll n HN.out _ _ hm1.ll hl _ rfl _ (Below.refl _ _)).mono ?_
    rintro e w2 ⟨rfl, h2⟩
    have b2 : Below W.heap.size W w2 := bth h1 h2
    clear h1 h2 hm1
    go_wp2_with fail
    refine (toIntSS_any ll n HN.out A c HF.out _ (ha.moved b2)).mono ?_
    rintro e w3 ⟨g3, rfl, hm3, h3⟩
    have b3 : Below W.heap.size W w3 := bth b2 h3
    go_wp2_with fail
    refine (iValid_at w3 ll n HN.out _ _ hm3.ll hl _ rfl _ (Below.refl _ _)).mono ?_
    rintro e w4 ⟨rfl, h4⟩
    have b4 : Below W.heap.size W w4 := bth b3 h4
    have hm4 := hm3.below h4
    clear hm3 h3 h4 b2
    go_wp2_with fail
    refine (toIntSS_any ll n HN.out A c HF.out _ (ha.moved b4)).mono ?_
    rintro e w5 ⟨g5, rfl, hm5, h5⟩
    have b5 : Below W.heap.size W w5 := bth b4 h5
    have hm45 := hm4.below h5
    clear h5 hm4
    go_wp2_with fail
    refine (eqR_below ll _ _ n n n HN.out hl _ hm45.ll hm5.ll).mono ?_
    rintro e w6 ⟨rfl, h6⟩
    go_wp2
    go_ret
    exact ⟨by first | rfl | exact retb (by simp), bth b5 h6⟩
set_option maxHeartbeats 1000000 in
theorem w_ExactLadderCode (ll : List (List Int)) (n : Nat) (hn : n = ll.length) (A : Option Addr) (c : Nat) (l : Int) (x : Int) (hl : ll.length ≤ maxLen) (W : World) (ha : LL W W.heap.size A ll) :
    Calls Try.prog 6 #[.slice A n c, .int .i64 l, .int .i64 x] W fun e w' => e = .returned (.bool true) ∧ Below W.heap.size W w' := by
  have HN := Lib.hid hn; clear hn
  cases hf : fits ll
  · have HZ := Lib.hid (szOf_no hf)
    clear hf
    go_enter Try.func6, Try.ntmps6
    go_wp2_with fail
    refine (szSS_any ll n HN.out A c hl _ ha).mono ?_
    rintro e w' ⟨rfl, rfl⟩
    rw [HZ.out]
    go_wp2
    go_ret
    exact ⟨rfl, Below.refl _ _⟩
  · obtain ⟨z0, z1⟩ := szOf_yes hf
    obtain ⟨z, hz⟩ : ∃ z, szOf ll = z := ⟨_, rfl⟩
    rw [hz] at z0 z1
    have HZ := Lib.hid hz
    have HF := Lib.hid hf
    clear hz hf
    go_enter Try.func6, Try.ntmps6
    go_wp2_with fail
    refine (szSS_any ll n HN.out A c hl _ ha).mono ?_
    rintro e w' ⟨rfl, rfl⟩
    rw [HZ.out]
    go_wp2_with fail
    refine (toIntSS_any ll n HN.out A c HF.out _ ha).mono ?_
    rintro e w1 ⟨g1, rfl, hm1, h1⟩
    go_wp2_with fail
    refine (sCode_at w1 ll n HN.out _ _ hm1.ll hl l x _ _ rfl rfl _ (Below.refl _ _)).mono ?_
    rintro e w2 ⟨rfl, h2⟩
    have b2 : Below W.heap.size W w2 := bth h1 h2
    clear h1 h2 hm1
    go_wp2_with fail
    refine (toIntSS_any ll n HN.out A c HF.out _ (ha.moved b2)).mono ?_
    rintro e w3 ⟨g3, rfl, hm3, h3⟩
    have b3 : Below W.heap.size W w3 := bth b2 h3
    go_wp2_with fail
    refine (iCode_at w3 ll n HN.out _ _ hm3.ll hl l x _ _ rfl rfl _ (Below.refl _ _)).mono ?_
    rintro e w4 ⟨rfl, h4⟩
    have b4 : Below W.heap.size W w4 := bth b3 h4
    have hm4 := hm3.below h4
    clear hm3 h3 h4 b2
    go_wp2_with fail
    refine (toIntSS_any ll n HN.out A c HF.out _ (ha.moved b4)).mono ?_
    rintro e w5 ⟨g5, rfl, hm5, h5⟩
    have b5 : Below W.heap.size W w5 := bth b4 h5
    have hm45 := hm4.below h5
    clear h5 hm4
    go_wp2_with fail
    refine (eqR_below ll _ _ n n n HN.out hl _ hm45.ll hm5.ll).mono ?_
    rintro e w6 ⟨rfl, h6⟩
    go_wp2
    go_ret
    exact ⟨by first | rfl | exact retb (by simp), bth b5 h6⟩
set_option maxHeartbeats 1000000 in
theorem w_ExactLadderGroups (ll : List (List Int)) (n : Nat) (hn : n = ll.length) (A : Option Addr) (c : Nat) (l : Int) (hl : ll.length ≤ maxLen) (W : World) (ha : LL W W.heap.size A ll) :
    Calls Try.prog 7 #[.slice A n c, .int .i64 l] W fun e w' => e = .returned (.bool true) ∧ Below W.heap.size W w' := by
  have HN := Lib.hid hn; clear hn
  cases hf : fits ll
  · have HZ := Lib.hid (szOf_no hf)
    clear hf
    go_enter Try.func7, Try.ntmps7
    go_wp2_with fail
    refine (szSS_any ll n HN.out A c hl _ ha).mono ?_
    rintro e w' ⟨rfl, rfl⟩
    rw [HZ.out]
    go_wp2
    go_ret
    exact ⟨rfl, Below.refl _ _⟩
  · obtain ⟨z0, z1⟩ := szOf_yes hf
    obtain ⟨z, hz⟩ : ∃ z, szOf ll = z := ⟨_, rfl⟩
    rw [hz] at z0 z1
    have HZ := Lib.hid hz
    have HF := Lib.hid hf
    clear hz hf
    go_enter Try.func7, Try.ntmps7
    go_wp2_with fail
    refine (szSS_any ll n HN.out A c hl _ ha).mono ?_
    rintro e w' ⟨rfl, rfl⟩
    rw [HZ.out]
    go_wp2_with fail
    refine (toIntSS_any ll n HN.out A c HF.out _ ha).mono ?_
    rintro e w1 ⟨g1, rfl, hm1, h1⟩
    go_wp2_with fail
    refine (sGroups_at w1 ll n HN.out _ _ hm1.ll hl l _ rfl _ (Below.refl _ _)).mono ?_
    rintro e w2 ⟨rfl, h2⟩
    have b2 : Below W.heap.size W w2 := bth h1 h2
    clear h1 h2 hm1
    go_wp2_with fail
    refine (toIntSS_any ll n HN.out A c HF.out _ (ha.moved b2)).mono ?_
    rintro e w3 ⟨g3, rfl, hm3, h3⟩
    have b3 : Below W.heap.size W w3 := bth b2 h3
    go_wp2_with fail
    refine (iGroups_at w3 ll n HN.out _ _ hm3.ll hl l _ rfl _ (Below.refl _ _)).mono ?_
    rintro e w4 ⟨rfl, h4⟩
    have b4 : Below W.heap.size W w4 := bth b3 h4
    have hm4 := hm3.below h4
    clear hm3 h3 h4 b2
    go_wp2_with fail
    refine (toIntSS_any ll n HN.out A c HF.out _ (ha.moved b4)).mono ?_
    rintro e w5 ⟨g5, rfl, hm5, h5⟩
    have b5 : Below W.heap.size W w5 := bth b4 h5
    have hm45 := hm4.below h5
    clear h5 hm4
    go_wp2_with fail
    refine (eqR_below ll _ _ n n n HN.out hl _ hm45.ll hm5.ll).mono ?_
    rintro e w6 ⟨rfl, h6⟩
    go_wp2
    go_ret
    exact ⟨by first | rfl | exact retb (by simp), bth b5 h6⟩
end Go.Proofs.Ytbngajmpeepnmaa
