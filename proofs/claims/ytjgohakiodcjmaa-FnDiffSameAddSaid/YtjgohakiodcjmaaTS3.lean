/- Contracts of the model: tables of people. -/
import Derived.Test.YtjgohakiodcjmaaTSA
import Derived.Test.YtjgohakiodcjmaaA4
set_option maxRecDepth 100000
namespace Go.Proofs.Ytjgohakiodcjmaa
open Go.RowKit
theorem tabOf_zero : tabOf [] = zeros 4 4 := rfl
theorem tabOf_take (l : List Pn) {k : Nat} (hk : k < l.length) {a b : Nat} (ha : a < 4) (hb : b < 4) (h1 : l[k].area = a) (h2 : l[k].job = b) :
    tabOf (l.take (k + 1)) = (tabOf (l.take k)).set a (((tabOf (l.take k)).getD a []).set b (((tabOf (l.take k)).getD a []).getD b 0 + 1)) := by
  rw [List.take_succ_eq_append_getElem hk]; exact tabOf_snoc _ _ ha hb h1 h2
theorem tabOf_rlen (l : List Pn) {i : Nat} (hi : i < 4) : ((tabOf l).getD i []).length = 4 := by rw [tabOf_row l hi]; simp
set_option maxHeartbeats 4000000 in
theorem sTabOf_is (W : World) (l : List Pn) (v : Value) (hv : IsP W v l) (m : Tb) (g : Bool) (hm : tabI l = m) (hg : okL l = g) (hl6 : l.length ≤ 1048576) (w : World) (hb : Below W.heap.size W w) :
    Calls Try.prog 27 #[v] w (OutRT m g w) := by
  have HG := Lib.hid hg
  have HM := Lib.hid hm
  have hv0 := hv.below hb
  clear hv hb
  obtain ⟨A, c, rfl, a1, a2, a3⟩ := hv0
  obtain ⟨q, hq⟩ : ∃ q, q = l.length := ⟨_, rfl⟩
  have HQ := Lib.hid hq
  have HR := Lib.hid a3
  have HV := Lib.hid (sValid_any l A c w a3 (by simp only [maxLen]; omega))
  rw [← hq] at HV ⊢
  clear a1 a2 a3 hg hm hq
  go_enter Try.func27, Try.ntmps27
  go_wp2_with fail
  refine HV.out.mono ?_
  rintro e w1 ⟨rfl, b1⟩
  rw [HG.out]
  have HB1 := Lib.hid b1
  have hz1 := b1.size
  cases g
  · have HE := Lib.hid (show m = [] by rw [← HM.out, tabI, HG.out]; rfl)
    have HO := Lib.hid (show Mine (w1.alloc (.cells #[] TI)) w.heap.size (w1.alloc (.cells #[] TI)).heap.size (.slice (some ⟨w1.heap.size, 0, none⟩) 0 0) [] from (mine_new hz1).up)
    have HB2 := Lib.hid (b1.alloc hz1 (.cells #[] TI))
    clear b1
    go_wp2
    go_ret2
    exact ⟨_, rfl, by rw [HE.out]; exact HO.out, HB2.out⟩
  have HE := Lib.hid (show m = tabOf l by rw [← HM.out, tabI, if_pos HG.out])
  have hoc := ok_codes HG.out
  have hq40 : q ≤ 40 := by rw [HQ.out]; exact hoc.2.2
  have HC := Lib.hid hoc
  clear b1 hoc hl6
  go_wp2_with fail
  refine (sBlank_any 4 4 (by omega) (by omega) w1).mono ?_
  rintro e w2 ⟨v2, rfl, ho2, h2⟩
  have HO := Lib.hid (show Mine w2 w1.heap.size w2.heap.size v2 (tabOf (l.take 0)) from ho2)
  have HB2 := Lib.hid (HB1.out.trans (h2.mono hz1))
  clear ho2 h2
  obtain ⟨T, hT⟩ : ∃ T, T = w2.heap.size := ⟨_, rfl⟩
  rw [← hT] at HO
  obtain ⟨g2, c2, hv2⟩ : ∃ g2 c2, v2 = .slice (some ⟨g2, 0, none⟩) 4 c2 := by
    obtain ⟨g2, c2, _, _, h, _⟩ := HO.out.cell (i := 0) (j := 0) (by rw [tabOf_len]; omega) (by rw [tabOf_rlen _ (by omega)]; omega)
    exact ⟨g2, c2, by rw [h, tabOf_len]⟩
  subst hv2
  have hz2 := HB2.out.size
  go_wp2
  go_loopw [5] (fun i wr => ∃ k : Nat, k ≤ q ∧ i = .int .i64 k ∧ Mine wr w1.heap.size T (.slice (some ⟨g2, 0, none⟩) 4 c2) (tabOf (l.take k)) ∧ Below w.heap.size w wr) (fun i _ => q - (intOf i).toNat)
  case atStart => exact ⟨0, Nat.zero_le _, rfl, HO.out, HB2.out⟩
  case round =>
    obtain ⟨k, hk, rfl, ho, hb⟩ := hrel
    clear HO HB2
    by_cases hlt : k < q
    · have hki : (k : Int) < (q : Int) := by omega
      have hkl : k < l.length := by rw [← HQ.out]; exact hlt
      obtain ⟨bq, o, rfl, hbw, c0, c1, c2', c3'⟩ := (HR.out.below hb (Nat.le_refl _)).at_ k hkl
      clear c2' c3'
      obtain ⟨hca, hcj, hc40⟩ := HC.out
      have ha := hca l[k] (List.getElem_mem hkl)
      have hj := hcj l[k] (List.getElem_mem hkl)
      obtain ⟨a, hae⟩ : ∃ a : Nat, l[k].area = a := ⟨l[k].area.toNat, by omega⟩
      obtain ⟨b, hbe⟩ : ∃ b : Nat, l[k].job = b := ⟨l[k].job.toNat, by omega⟩
      have ha4 : a < 4 := by omega
      have hb4 : b < 4 := by omega
      have HT := Lib.hid (tabOf_take l hkl ha4 hb4 hae hbe)
      rw [hae] at c0
      rw [hbe] at c1
      have hai : (a : Int) < 4 := by omega
      have hbi : (b : Int) < 4 := by omega
      obtain ⟨g', c', gi, ci, hv', k0, _, ⟨hgi, hgT⟩, _, k1, kf, hset⟩ := ho.cell (i := a) (j := b) (by rw [tabOf_len]; exact ha4) (by rw [tabOf_rlen _ ha4]; exact hb4)
      injection hv' with hv1 hv2 hv3
      injection hv1 with hv1
      injection hv1 with hv1 _ _
      subst hv1
      rw [tabOf_rlen _ ha4] at k0
      have hcb := cel_bd (l.take k) a b
      rw [tabOf_cell _ ha4 hb4] at k1 HT
      have hlk := List.length_take_le k l
      obtain ⟨n, hn⟩ : ∃ n, cel (l.take k) a b = n := ⟨_, rfl⟩
      rw [hn] at k1 HT hcb
      have hwn : IntKind.i64.wrap (n + 1) = n + 1 := by rw [IntKind.wrap_i64]; omega
      have HSET := Lib.hid (show Mine (wr.setCell ⟨gi, b, none⟩ (.int .i64 (n + 1))) w1.heap.size T (.slice (some ⟨g2, 0, none⟩) 4 c2) (tabOf (l.take (k + 1))) by rw [HT.out]; exact hset _)
      have HBS := Lib.hid (hb.setCell (p := ⟨gi, b, none⟩) (Nat.le_trans hz1 hgi) (.int .i64 (n + 1)))
      have hk40 : (l.take k).length ≤ 40 := by omega
      obtain ⟨n0, n1⟩ := hcb
      have n2 : n ≤ 40 := by omega
      clear hset ho hb hv2 hv3 hn ha hj hca hcj hae hbe hlk hkl hc40 n1 hk40
      go_wp2
      go_still_tail 30, (by kernel_rfl)
      change wpList _ _ _ _ _ wr.drew
      obtain ⟨X, hX⟩ : ∃ X, X = wr.drew := ⟨_, rfl⟩
      have kf' : X.frozen? ⟨gi, b, none⟩ = false := by rw [hX]; exact kf
      have k1' : X.cell? ⟨gi, b, none⟩ = some (.int .i64 n) := by rw [hX]; exact k1
      have HS2 := Lib.hid (show Mine (X.setCell ⟨gi, b, none⟩ (.int .i64 (n + 1))) w1.heap.size T (.slice (some ⟨g2, 0, none⟩) 4 c2) (tabOf (l.take (k + 1))) by rw [hX]; exact HSET.out)
      have HB2 := Lib.hid (show Below w.heap.size w (X.setCell ⟨gi, b, none⟩ (.int .i64 (n + 1))) by rw [hX]; exact ⟨HBS.out.os, HBS.out.tape, HBS.out.output, HBS.out.size, HBS.out.block⟩)
      rw [← hX]
      clear hX k0 k1 kf c0 c1 HSET HBS
      go_wp2
      go_roundw
      case rel => exact ⟨k + 1, by omega, by go_num, HS2.out, HB2.out⟩
      case measure => simp [intOf]; omega
    · have hki : ¬ (k : Int) < (q : Int) := by omega
      have hkq : l.take k = l := List.take_of_length_le (by rw [← HQ.out]; omega)
      rw [hkq, ← HE.out] at ho
      have HO := Lib.hid ((ho.lower hz1).up)
      have HB := Lib.hid hb
      clear ho hb hkq
      go_wp2
      go_ret2
      exact ⟨_, rfl, HO.out, HB.out⟩
end Go.Proofs.Ytjgohakiodcjmaa
