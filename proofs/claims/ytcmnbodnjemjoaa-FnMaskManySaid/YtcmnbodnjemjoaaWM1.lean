/- Laws of chapter 11 on masks. -/
import Derived.Test.YtcmnbodnjemjoaaTI
import Derived.Test.YtcmnbodnjemjoaaTL4
import Derived.Test.YtcmnbodnjemjoaaTD5
import Derived.Test.YtcmnbodnjemjoaaA2
import Derived.Test.YtcmnbodnjemjoaaA4
namespace Go.Proofs.Ytcmnbodnjemjoaa
open Go.RowKit
set_option maxHeartbeats 4000000 in
theorem w_MaskMany (A : Option Addr) (n c : Nat) (hnc : n ≤ c) (hn : n ≤ maxLen) (A2 : Option Addr) (m c2 : Nat) (_hmc : m ≤ c2) (hm : m ≤ maxLen) (w : World) (hb : Bytes w w.heap.size A n) (_hb2 : Bytes w w.heap.size A2 m) :
    Calls Try.prog 9 #[.slice A n c, .slice A2 m c2] w fun e w' => e = .returned (.bool true) ∧ Below w.heap.size w w' := by
  have hn2 := hn
  have hm2 := hm
  unfold maxLen at hn2 hm2
  rcases (show 1048576 < n ∨ (¬ 1048576 < n ∧ 1048576 < m) ∨ ¬ 1048576 < n ∧ ¬ 1048576 < m by omega) with hbig | ⟨hbig, hbig2⟩ | ⟨hbig, hbig2⟩
  · go_enter Try.func9, Try.ntmps9
    go_wp2
    go_ret
    exact ⟨rfl, Below.refl _ _⟩
  · go_enter Try.func9, Try.ntmps9
    go_wp2
    go_ret
    exact ⟨rfl, Below.refl _ _⟩
  · go_enter Try.func9, Try.ntmps9
    go_wp2_with fail
    refine (dMaskMany_any A n c hnc hn _ hb).mono ?_
    rintro e W ⟨v, l, rfl, hv, hl, hlr, hbW⟩
    have HV := Lib.hid hv
    obtain ⟨B, d, hvv, hld, hd, hrow⟩ := hv
    subst hvv
    have h9 := mmany_bd (m := l) (by omega) (fun r hr => by have := hlr r hr; omega)
    obtain ⟨g, hg⟩ : ∃ g : Int, (mmany l : Int) = g := ⟨_, rfl⟩
    have HG := Lib.hid hg
    have hg9 : 0 ≤ g ∧ g ≤ 1000000 := by omega
    have H9 := Lib.hid (show mmany l ≤ 1000000000 by omega)
    obtain ⟨k, hk, hkl⟩ := modCutA m l.length
    have hs := m_maskMany l k
    have h91 := mmany_bd (m := l.take k) (by rw [List.length_take]; omega) (fun r hr => by have := hlr r (List.mem_of_mem_take hr); omega)
    have h92 := mmany_bd (m := l.drop k) (by rw [List.length_drop]; omega) (fun r hr => by have := hlr r (List.mem_of_mem_drop hr); omega)
    obtain ⟨g1, hg1⟩ : ∃ g : Int, (mmany (l.take k) : Int) = g := ⟨_, rfl⟩
    obtain ⟨g2, hg2⟩ : ∃ g : Int, (mmany (l.drop k) : Int) = g := ⟨_, rfl⟩
    have H1 := Lib.hid hg1
    have H2 := Lib.hid hg2
    have H91 := Lib.hid (show mmany (l.take k) ≤ 1000000000 by omega)
    have H92 := Lib.hid (show mmany (l.drop k) ≤ 1000000000 by omega)
    have hsum : IntKind.i64.wrap (g1 + g2) = g := by rw [IntKind.wrap_i64]; omega
    have HK := Lib.hid hk
    have r1 := hrow.front k
    obtain ⟨B2, hsl, hB2⟩ := sliceTailLB B l.length d k hkl hld
    have r2 := hB2 W _ l rfl hrow
    have hkd : k ≤ d := by omega
    have hkd2 : (k : Int) ≤ (d : Int) := by omega
    have hkl2 : (k : Int) ≤ (l.length : Int) := by omega
    have HV1 := Lib.hid (show IsM W (.slice B k d) (l.take k) from ⟨B, d, by rw [List.length_take, Nat.min_eq_left hkl], by rw [List.length_take]; omega, hd, r1⟩)
    have HV2 := Lib.hid (show IsM W (.slice B2 (l.length - k) (d - k)) (l.drop k) from ⟨B2, d - k, by rw [List.length_drop], by rw [List.length_drop]; omega, by omega, r2⟩)
    clear hB2 hs h9 h91 h92 hg hg1 hg2 hk hrow r1 r2 hlr
    go_wp2_with fail
    refine (iMaskMany_is W l _ HV.out H9.out g HG.out _ (Below.refl _ _)).mono ?_
    rintro e w1 ⟨rfl, b1⟩
    go_wp2_with fail
    refine (sMaskMany_is W l _ HV.out H9.out g HG.out _ b1).mono ?_
    rintro e w2 ⟨rfl, b2⟩
    go_wp2_with fail
    rw [HK.out]
    go_region_held3 (fun w' => Below W.heap.size W w') (first | assumption | exact Below.drew b2) (first
      | (go_at_call 33; (with_reducible refine (iMaskMany_is W (l.take k) _ HV1.out H91.out g1 H1.out _ ?_).mono ?_); (first | assumption | exact Below.drew b2); rintro e w3 ⟨rfl, h3⟩)
      | (go_at_call 33; (with_reducible refine (iMaskMany_is W (l.drop k) _ HV2.out H92.out g2 H2.out _ ?_).mono ?_); (first | assumption | exact Below.drew b2); rintro e w3 ⟨rfl, h3⟩))
    go_wp2
    go_ret
    exact ⟨rfl, hbW.trans (Below.mono (by assumption) hbW.size)⟩
end Go.Proofs.Ytcmnbodnjemjoaa
